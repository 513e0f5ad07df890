/-
  Texts put together: RdM, SdInv, SdWF, SdStep, SdRun, SdRch, PpI, PpT, PpO, PpS, PpR, PpK, WdCln, WdNew, PpP, WdGets, WdWld, SdA.
-/
import Derived.Test.YtphfaekpckbepaaGreatMp5
import Derived.Test.YtphfaekpckbepaaGreatMp3
import Derived.Test.YtphfaekpckbepaaGreatMp2
import Derived.Test.YtphfaekpckbepaaGreatMp1
import Derived.Test.YtphfaekpckbepaaGreatMp4
set_option maxRecDepth 100000
set_option maxHeartbeats 16000000
set_option linter.unusedSimpArgs false
set_option linter.unusedVariables false
open Go Go.RowKit
set_option linter.unusedVariables false
namespace Go.Proofs.YtphfaekpckbepaaGreat
structure RdOk (W W':Wd) (g:Nat) (rd:List Int):Prop where
 nd:rd.Nodup
 len:W.gs.length ≤ W'.gs.length
 st:∀ h ∈ rd,∃ k:Nat,h = (k:Int) ∧ k ≠ g ∧ (W.g k).st ≠ 1 ∧ (W'.g k).st = 1
 oth:∀ k:Nat,k ≠ g → (k:Int) ∉ rd → ((W'.g k).st = 1 ↔ (W.g k).st = 1)
def SameSt (W W':Wd):Prop:=W'.gs.length = W.gs.length ∧ ∀ k,(W'.g k).st = (W.g k).st
theorem SameSt.refl (W:Wd):SameSt W W:=⟨rfl,fun _=>rfl⟩
theorem SameSt.trans {A B C:Wd} (h:SameSt A B) (k:SameSt B C):SameSt A C:=⟨k.1.trans h.1,fun i=>(k.2 i).trans (h.2 i)⟩
theorem g_out {W:Wd} {k:Nat} (h:¬ k < W.gs.length):W.g k = g0:=by
 unfold Wd.g;rw [List.getD_eq_getElem?_getD,List.getElem?_eq_none (by omega)];rfl
theorem SameSt.setG {W:Wd} {g:Nat} {G:Gt} (h:G.st = (W.g g).st):SameSt W (W.setG g G):=by
 by_cases hg:g < W.gs.length
 ·refine ⟨by unfold Wd.setG;simp,fun k=>?_⟩
  rw [Wd.g_setG _ _ _ _ hg]
  split
  ·rename_i e;subst e;exact h
  ·rfl
 ·rw [setG_out hg];exact SameSt.refl W
theorem SameSt.put (W:Wd) (g:Nat) (k v:Int):SameSt W (W.put g k v):=SameSt.setG rfl
theorem SameSt.of_gs {W W':Wd} (h:W'.gs = W.gs):SameSt W W':=⟨by rw [h],fun k=>by unfold Wd.g;rw [h]⟩
theorem SameSt.fin (W:Wd) (x:In4) (w:Wt) (s:Bool):SameSt W (W.fin x w s):=by
 unfold Wd.fin
 simp only
 split <;> split <;> (try split) <;> first
  | exact (SameSt.put _ _ _ _).trans (SameSt.put _ _ _ _)
  | exact SameSt.put _ _ _ _
  | exact SameSt.refl _
theorem RdOk.refl (W:Wd) (g:Nat):RdOk W W g []:=⟨List.nodup_nil,Nat.le_refl _,fun h hh=>by simp at hh,fun _ _ _=>Iff.rfl⟩
theorem RdOk.base {W A:Wd} (g:Nat) (h:A.gs = W.gs):RdOk W A g []:=by
 have e:∀ k,A.g k = W.g k:=fun k=>by unfold Wd.g;rw [h]
 exact ⟨List.nodup_nil,by rw [h];exact Nat.le_refl _,fun h hh=>by simp at hh,fun _ _ _=>by rw [e]⟩
theorem RdOk.same {W A B:Wd} {g:Nat} {rd:List Int} (h:RdOk W A g rd) (k:SameSt A B):RdOk W B g rd :=
 ⟨h.nd,by rw [k.1];exact h.len,fun x hx=>by obtain ⟨i,a,b,c,d⟩:=h.st x hx;exact ⟨i,a,b,c,by rw [k.2];exact d⟩,fun i a b=>by rw [k.2];exact h.oth i a b⟩
theorem RdOk.own {W A:Wd} {g:Nat} {rd:List Int} (h:RdOk W A g rd) (s:Int):RdOk W (A.setSt g s) g rd:=by
 by_cases hg:g < A.gs.length
 ·refine ⟨h.nd,by rw [setSt_len];exact h.len,fun x hx=>?_,fun i a b=>?_⟩
  ·obtain ⟨i,a,b,c,d⟩:=h.st x hx
   exact ⟨i,a,b,c,by rw [setSt_at hg,if_neg (fun e=>b e.symm)];exact d⟩
  ·rw [setSt_at hg,if_neg (fun e=>a e.symm)];exact h.oth i a b
 ·unfold Wd.setSt;rw [setG_out hg];exact h
theorem RdOk.more {W A:Wd} {g k:Nat} {rd:List Int} (h:RdOk W A g rd) (hk:k < A.gs.length) (hs:(A.g k).st ≠ 1) (hg:k ≠ g):RdOk W (A.setSt k 1) g (rd ++ [(k:Int)]):=by
 have hn:(k:Int) ∉ rd:=fun hm=>by
  obtain ⟨i,a,-,-,d⟩:=h.st _ hm
  have:i = k:=by omega
  subst this;exact hs d
 have h0:(W.g k).st ≠ 1:=fun e=>hs ((h.oth k hg hn).2 e)
 refine ⟨?_,by rw [setSt_len];exact h.len,fun x hx=>?_,fun i a b=>?_⟩
 ·rw [List.nodup_append]
  exact ⟨h.nd,by simp,fun a ha b hb e=>by simp at hb;subst hb;subst e;exact hn ha⟩
 ·rcases List.mem_append.1 hx with hx | hx
  ·obtain ⟨i,a,b,c,d⟩:=h.st x hx
   refine ⟨i,a,b,c,?_⟩
   rw [setSt_at hk]
   split
   ·rfl
   ·exact d
  ·simp at hx
   exact ⟨k,hx,hg,h0,by rw [setSt_at hk,if_pos rfl]⟩
 ·simp only [List.mem_append,List.mem_singleton,not_or] at b
  rw [setSt_at hk,if_neg (fun e=>b.2 (by omega))]
  exact h.oth i a b.1
theorem SameSt.leave (W:Wd) (g:Int):SameSt W (W.leave g):=SameSt.of_gs rfl
theorem RdOk.goOn {W A:Wd} {g:Nat} {rd:List Int} (h:RdOk W A g rd) (hg:(A.g g).st = 1) {w:Wt} (hw:0 ≤ w.1) (s:Bool) :
  RdOk W (goOnM A rd w s).1 g (goOnM A rd w s).2 ∧ ((goOnM A rd w s).1.g g).st = 1:=by
 unfold goOnM
 simp only
 split
 ·rename_i h2
  split
  ·rename_i x hx
   have hk:w.1.toNat < A.gs.length:=by
    rcases Nat.lt_or_ge w.1.toNat A.gs.length with h1 | h1
    ·exact h1
    ·rw [g_out (by omega)] at h2;exact absurd h2 (by decide)
   have hne:w.1.toNat ≠ g:=fun e=>by rw [e,hg] at h2;omega
   have hss:SameSt A ((A.fin x w s).leave w.1):=(SameSt.fin A x w s).trans (SameSt.leave _ _)
   have hr:=(h.same hss).more (k:=w.1.toNat) (by rw [hss.1];exact hk) (by rw [hss.2,h2];decide) hne
   rw [show ((w.1.toNat:Nat):Int) = w.1 by omega] at hr
   refine ⟨hr,?_⟩
   rw [setSt_at (by rw [hss.1];exact hk),if_neg hne,hss.2];exact hg
  ·exact ⟨h,hg⟩
 ·exact ⟨h,hg⟩
theorem RdOk.goOns {W:Wd} {g:Nat}:∀ (l:List Wt) (A:Wd) (rd:List Int),RdOk W A g rd → (A.g g).st = 1 → (∀ w ∈ l,0 ≤ w.1) → RdOk W (goOnsM A rd l).1 g (goOnsM A rd l).2 ∧ ((goOnsM A rd l).1.g g).st = 1
 | [],A,rd,h,hg,_=>⟨h,hg⟩
 | r :: t,A,rd,h,hg,hw=>by
  obtain ⟨a,b⟩:=h.goOn hg (hw r (by simp)) false
  exact RdOk.goOns t _ _ a b (fun w hm=>hw w (by simp [hm]))
def RdR (W:Wd) (g:Nat) (d:Dd):Prop:=RdOk W d.W g d.rd
theorem rd_send {B:Nat} {W:Wd} (h:WF B W) {g:Nat} (hg:(W.g g).st = 1) {x:In4} {c:Cs3} (c0:0 ≤ c.2.1 ∧ c.2.1 < (W.Cs.length:Int)) (place:Int) {d:Dd} (hd:sendM W [] g x c place = some d):RdR W g d:=by
 have hr:=mSend_ok (h.cs _ (ch_mem c0)) (W.Ns.getD c.2.1.toNat 0) (ns_le h _) ((W.g g).rg c.2.2)
 unfold sendM at hd
 simp only at hd
 split at hd
 ·cases hd;exact RdOk.refl W g
 ·split at hd
  ·cases hd
   have h0:RdOk W (W.setCh c.2.1 (mSend (W.Ns.getD c.2.1.toNat 0) (W.ch c.2.1) ((W.g g).rg c.2.2)).1) g []:=RdOk.base g rfl
   unfold RdR
   simp only
   split
   ·rename_i e
    exact (h0.goOn (by exact hg) (hr.2 e).1.1 true).1.same (SameSt.fin _ _ _ _)
   ·exact h0.same (SameSt.fin _ _ _ _)
  ·cases hd
theorem rd_recv {B:Nat} {W:Wd} (h:WF B W) {g:Nat} (hg:(W.g g).st = 1) {x:In4} {c:Cs3} (c0:0 ≤ c.2.1 ∧ c.2.1 < (W.Cs.length:Int)) (place:Int) {d:Dd} (hd:recvM W [] g x c place = some d):RdR W g d:=by
 have hr:=mRecv_ok (h.cs _ (ch_mem c0))
 unfold recvM at hd
 simp only at hd
 split at hd
 ·cases hd
  have h0:RdOk W (W.setCh c.2.1 (mRecv (W.ch c.2.1)).1) g []:=RdOk.base g rfl
  unfold RdR
  simp only
  split
  ·rename_i e
   exact (h0.goOn (by exact hg) (hr.2 e).1.1 false).1.same (SameSt.fin _ _ _ _)
  ·exact h0.same (SameSt.fin _ _ _ _)
 ·cases hd
theorem rd_try {B:Nat} {W:Wd} (h:WF B W) {g:Nat} (hg:(W.g g).st = 1) {n:Nat} {x:In4} (hx:InsW W n x) (ho:x.1 = 13 ∨ x.1 = 14 ∨ x.1 = 16) {place:Int} (hp:0 ≤ place ∧ place < ((W.cas x).length:Int)) (h2:((W.cas x).getD place.toNat (1,0,0)).1 ≠ 2) {d:Dd} (hd:tryM W [] g x place = some d):RdR W g d:=by
 have hk:=hx.casOk ho h.p.ck _ (cas_mem hp)
 have c0:=And.intro hk.2.1 (hk.2.2.1 h2)
 unfold tryM at hd
 simp only at hd
 split at hd
 ·exact rd_send h hg c0 place hd
 ·exact rd_recv h hg c0 place hd
theorem rd_wait (W:Wd) (g:Nat) (x:In4):RdOk W (waitM W g x) g []:=(RdOk.base (W:=W) (A:={ W with Cs:=wasF (g:Int) (W.g g).regs 0 (W.cas x) W.Cs }) g rfl).own 2
theorem rd_chan {B:Nat} {W:Wd} (h:WF B W) {g:Nat} {n:Nat} {x:In4} (ha:At W g x) (hx:InsW W n x) (ho:x.1 = 13 ∨ x.1 = 14):RdR W g (chanM W [] g x):=by
 have hlen:(W.cas x).length = 1:=by unfold Wd.cas;rcases ho with e | e <;> simp [e]
 have h2:((W.cas x).getD (Int.toNat 0) (1,0,0)).1 ≠ 2:=by unfold Wd.cas;rcases ho with e | e <;> simp [e]
 unfold chanM
 cases e:tryM W [] g x 0 with
 | none=>exact rd_wait W g x
 | some d=>exact rd_try h ha.st hx (by rcases ho with e | e <;> simp [e]) (by rw [hlen];omega) h2 e
theorem rd_choose {B:Nat} {W:Wd} (h:WF B W) {g:Nat} {n:Nat} {x:In4} (ha:At W g x) (hx:InsW W n x) (ho:x.1 = 16) {dr:Int} {go:Bool} (hd:go = true → (0 ≤ dr ∧ dr < ((W.cas x).length:Int)) ∧ ((W.cas x).getD dr.toNat (1,0,0)).1 ≠ 2):RdR W g (chooseM W [] g x dr go):=by
 unfold chooseM
 split
 ·rename_i e
  cases e2:tryM W [] g x dr with
  | none=>exact RdOk.refl W g
  | some d=>exact rd_try h ha.st hx (by simp [ho]) (hd e).1 (hd e).2 e2
 ·split
  ·exact rd_wait W g x
  ·exact (RdOk.refl W g).same (SameSt.put _ _ _ _)
theorem rd_close {B:Nat} {W:Wd} (h:WF B W) {g:Nat} (hg:(W.g g).st = 1) {n:Nat} {x:In4} (hx:InsW W n x) (ho:x.1 = 15):RdR W g (closeM W [] x):=by
 have hC:=h.cs _ (ch_mem (hx.o15 ho))
 unfold closeM
 simp only
 split
 ·exact RdOk.refl W g
 ·split
  ·exact ((RdOk.base (W:=W) (A:=W.setCh x.2.1 ⟨(W.ch x.2.1).buf,[],[],true⟩) g rfl).goOns _ _ _ (by exact hg) (fun w hw=>(hC.2.2.2.2 w hw).1.1)).1
  ·exact RdOk.base g rfl
theorem rd_call (W:Wd) (g:Nat) (x:In4):RdR W g (callM W [] g x):=by
 unfold callM
 simp only
 split
 ·exact RdOk.refl W g
 ·exact (RdOk.refl W g).same (SameSt.setG rfl)
theorem rd_ret (W:Wd) (g:Nat) (x:In4):RdR W g (retM W [] g x):=by
 unfold retM
 simp only
 split
 ·exact ((RdOk.refl W g).own 4).same (SameSt.of_gs rfl)
 ·exact (RdOk.refl W g).same (SameSt.setG rfl)
theorem rd_spawn {W:Wd} {g:Nat} (hg:g < W.gs.length) (x:In4):RdR W g (spawnM W [] g x):=by
 unfold spawnM
 split
 ·exact RdOk.refl W g
 ·refine RdOk.same (A:={ W with gs:=W.gs ++ [⟨1,1,newF x.2.1 ((W.g g).rg x.2.2.1) 0⟩] }) ?_ (SameSt.put _ _ _ _)
  have e:∀ k,({ W with gs:=W.gs ++ [⟨1,1,newF x.2.1 ((W.g g).rg x.2.2.1) 0⟩] }:Wd).g k = if k = W.gs.length then ⟨1,1,newF x.2.1 ((W.g g).rg x.2.2.1) 0⟩ else W.g k:=fun k=>by
   unfold Wd.g
   simp only [List.getD_eq_getElem?_getD]
   by_cases h1:k < W.gs.length
   ·rw [List.getElem?_append_left h1,if_neg (by omega)]
   ·by_cases h2:k = W.gs.length
    ·subst h2;rw [if_pos rfl,List.getElem?_append_right (Nat.le_refl _)];simp
    ·have e1:W.gs[k]? = none:=List.getElem?_eq_none (by omega)
     rw [if_neg h2,e1,List.getElem?_eq_none (by simp;omega)]
  refine ⟨by simp,by simp,fun h hh=>?_,fun k hk hn=>?_⟩
  ·simp at hh
   refine ⟨W.gs.length,hh,by omega,?_,?_⟩
   ·rw [g_out (by omega)];decide
   ·rw [e,if_pos rfl]
  ·rw [e,if_neg (fun e2=>hn (by simp [e2]))]
theorem rd_sleep (W:Wd) (g:Nat) (x:In4):RdR W g (sleepM W [] g x):=by
 unfold sleepM
 simp only
 generalize (if 1048576 < (W.g g).rg x.2.1 then (1048576:Int) else (W.g g).rg x.2.1) = t
 split
 ·exact RdOk.refl W g
 ·exact ((RdOk.refl W g).own 3).same (SameSt.of_gs rfl)
theorem rd_lock (W:Wd) (g:Nat) (x:In4):RdR W g (lockM W [] g x):=by
 unfold lockM RdR
 simp only
 split
 ·exact RdOk.base g rfl
 ·exact (RdOk.base (W:=W) (A:={ W with Ls:=W.Ls.set x.2.1.toNat (W.lk x.2.1 ++ [(g:Int)]) }) g rfl).own 2
theorem rd_unlock {B:Nat} {W:Wd} (h:WF B W) {g:Nat} (hg:(W.g g).st = 1) {n:Nat} {x:In4} (hx:InsW W n x) (ho:x.1 = 19):RdR W g (unlockM W [] g x):=by
 have hi:=hx.o18 (.inr ho)
 obtain ⟨a,b,c,d⟩:=h.ls _ _ (lk_get hi)
 unfold unlockM
 simp only
 generalize W.lk x.2.1 = L at *
 cases L with
 | nil=>simp only [gaveR];rw [if_neg (by decide)];exact RdOk.refl W g
 | cons y t =>
  by_cases e:y = (g:Int)
  ·simp only [gaveR,gaveL,if_pos e]
   rw [if_pos trivial]
   split
   ·exact RdOk.base g rfl
   ·rename_i e1
    cases t with
    | nil=>exact absurd rfl e1
    | cons z s =>
     simp only [List.headD_cons] at e1 ⊢
     obtain ⟨z0,z1⟩:=b z (by simp)
     obtain ⟨d1,-⟩:=d z (by simp)
     have hr:=((RdOk.refl W g).same (B:={ W with Ls:=W.Ls.set x.2.1.toNat (z :: s) }) (SameSt.of_gs rfl)).more (k:=z.toNat) (by show z.toNat < W.gs.length;omega) (by show (W.g z.toNat).st ≠ 1;rw [d1];decide) (fun e2=>by rw [e2,hg] at d1;omega)
     rw [show ((z.toNat:Nat):Int) = z by omega] at hr
     exact hr
  ·simp only [gaveR,if_neg e]
   rw [if_neg (by decide)];exact RdOk.refl W g
theorem rd_emit (W:Wd) (g:Nat) (x:In4):RdR W g (emitM W [] g x):=by
 unfold emitM
 split
 ·exact RdOk.refl W g
 ·exact RdOk.base g rfl
theorem rd_deed {B:Nat} {W:Wd} (h:WF B W) {g:Nat} {n:Nat} {x:In4} (ha:At W g x) (hx:InsW W n x) {dr:Int} {go:Bool} (hd:x.1 = 16 → go = true → (0 ≤ dr ∧ dr < ((W.cas x).length:Int)) ∧ ((W.cas x).getD dr.toNat (1,0,0)).1 ≠ 2):RdR W g (deedM W g x dr go):=by
 unfold deedM
 by_cases e:x.1 = 9
 ·rw [if_pos e];exact rd_call W g x
 rw [if_neg e]
 clear e
 by_cases e:x.1 = 10
 ·rw [if_pos e];exact rd_ret W g x
 rw [if_neg e]
 clear e
 by_cases e:x.1 = 11
 ·rw [if_pos e];exact rd_spawn ha.lt x
 rw [if_neg e]
 clear e
 by_cases e:x.1 = 12
 ·rw [if_pos e];exact RdOk.refl W g
 rw [if_neg e]
 clear e
 by_cases e:x.1 = 13
 ·rw [if_pos e];exact rd_chan h ha hx (.inl e)
 rw [if_neg e]
 clear e
 by_cases e:x.1 = 14
 ·rw [if_pos e];exact rd_chan h ha hx (.inr e)
 rw [if_neg e]
 clear e
 by_cases e:x.1 = 15
 ·rw [if_pos e];exact rd_close h ha.st hx e
 rw [if_neg e]
 clear e
 by_cases e:x.1 = 16
 ·rw [if_pos e];exact rd_choose h ha hx e (hd e)
 rw [if_neg e]
 clear e
 by_cases e:x.1 = 17
 ·rw [if_pos e];exact rd_sleep W g x
 rw [if_neg e]
 clear e
 by_cases e:x.1 = 18
 ·rw [if_pos e];exact rd_lock W g x
 rw [if_neg e]
 clear e
 by_cases e:x.1 = 19
 ·rw [if_pos e];exact rd_unlock h ha.st hx e
 rw [if_neg e]
 clear e
 by_cases e:x.1 = 20
 ·rw [if_pos e];exact rd_emit W g x
 rw [if_neg e]
 clear e
 by_cases e:x.1 = 21
 ·rw [if_pos e];exact (RdOk.refl W g).same (SameSt.put _ _ _ _)
 rw [if_neg e]
 clear e
 exact RdOk.refl W g
theorem RdOk.from {W V A:Wd} {g:Nat} {rd:List Int} (s:SameSt W V) (h:RdOk V A g rd):RdOk W A g rd :=
 ⟨h.nd,by rw [← s.1];exact h.len,fun x hx=>by obtain ⟨i,a,b,c,d⟩:=h.st x hx;exact ⟨i,a,b,by rw [← s.2];exact c,d⟩,fun i a b=>by rw [← s.2];exact h.oth i a b⟩
theorem SameSt.end_ (d:Dd):SameSt d.W d.end_:=by unfold Dd.end_;split <;> exact SameSt.of_gs rfl
theorem rd_do {B:Nat} {W:Wd} (h:WF B W) (hB:B ≤ 80000) {g:Nat} (hl:W.lets (g:Int)) (v:Int):RdR W g (doM W g (W.ins g) (askM W ((W.ins g).getD (0,0,0,0)) v).1 (askM W ((W.ins g).getD (0,0,0,0)) v).2):=by
 obtain ⟨l1,l2,l3,l4⟩:=hl
 simp only [Int.toNat_natCast] at l4
 have hg:g < W.gs.length:=by omega
 cases hx:W.ins g with
 | none=>exact RdOk.refl W g
 | some x =>
  obtain ⟨k1,k2,k3⟩:=h.insOk hx
  obtain ⟨s1,s2,s3⟩:=h.step hg l4 hx
  simp only [Option.getD_some]
  have hask:x.1 = 16 → (askM W x v).2 = true → (0 ≤ (askM W x v).1 ∧ (askM W x v).1 < (((W.step g).cas x).length:Int)) ∧ (((W.step g).cas x).getD (askM W x v).1.toNat (1,0,0)).1 ≠ 2:=fun e1 e2=>by
   rw [cas_eq s3.ks];exact askM_place e1 e2
  unfold doM
  simp only
  split
  ·exact (RdOk.refl W g).same (SameSt.setG rfl)
  ·rename_i e
   exact RdOk.from (V:=W.step g) (SameSt.setG (W:=W) (g:=g) rfl) (rd_deed s1 s2 (k1.fol s3) hask)
theorem rd_exec {B:Nat} {W:Wd} (h:WF B W) (hB:B ≤ 80000) {g:Nat} (hl:W.lets (g:Int)) (v:Int) :
  RdOk W (execM W (g:Int) v).1 g (execM W (g:Int) v).2.2 ∧ ((execM W (g:Int) v).2.1 = true → ((execM W (g:Int) v).1.g g).st = 1 ∧ (execM W (g:Int) v).1.en = 0):=by
 unfold execM
 rw [if_pos hl]
 simp only [Int.toNat_natCast]
 refine ⟨(rd_do h hB hl v).same (SameSt.end_ _),fun e=>?_⟩
 unfold keepsM at e
 simp only [Bool.and_eq_true,decide_eq_true_eq] at e
 exact ⟨e.1.2,e.1.1⟩
structure TkOk (W W':Wd) (rd:List Int):Prop where
 nd:rd.Nodup
 len:W'.gs.length = W.gs.length
 st:∀ h ∈ rd,∃ k:Nat,h = (k:Int) ∧ (W.g k).st ≠ 1 ∧ (W'.g k).st = 1
 oth:∀ k:Nat,(k:Int) ∉ rd → (W'.g k).st = (W.g k).st
theorem tk_woke:∀ (l:List It) (W:Wd),(∀ x ∈ l,(0 ≤ x.id ∧ x.id < (W.gs.length:Int)) ∧ (W.g x.id.toNat).st = 3) → (l.map (·.id)).Nodup → TkOk W (wokeM W l) (l.map (·.id))
 | [],W,_,_=>⟨by simp,rfl,fun h hh=>by simp at hh,fun _ _=>rfl⟩
 | x :: t,W,h1,h2=>by
  obtain ⟨hx1,hx2⟩:=h1 x (by simp)
  have hg:x.id.toNat < W.gs.length:=by omega
  have hxn:((x.id.toNat:Nat):Int) = x.id:=by omega
  have h2':=h2
  rw [List.map_cons,List.nodup_cons] at h2
  have hid:∀ y ∈ t,y.id.toNat ≠ x.id.toNat:=fun y hy e=>by
   obtain ⟨k1,-⟩:=h1 y (by simp [hy])
   have:y.id = x.id:=by omega
   exact h2.1 (by rw [← this];exact List.mem_map_of_mem (f:=(·.id)) hy)
  obtain ⟨a,b,c,d⟩:=tk_woke t (W.setSt x.id.toNat 1) (fun y hy=>by
    obtain ⟨k1,k2⟩:=h1 y (by simp [hy])
    refine ⟨by rw [setSt_len];exact k1,?_⟩
    rw [setSt_at hg,if_neg (fun e=>hid y hy e.symm)]
    exact k2) h2.2
  refine ⟨h2',by show (wokeM (W.setSt x.id.toNat 1) t).gs.length = _;rw [b,setSt_len],fun h hh=>?_,fun k hk=>?_⟩
  ·rw [List.map_cons,List.mem_cons] at hh
   rcases hh with rfl | hh
   ·refine ⟨x.id.toNat,hxn.symm,by rw [hx2];decide,?_⟩
    show ((wokeM (W.setSt x.id.toNat 1) t).g x.id.toNat).st = 1
    rw [d _ (by rw [hxn];exact h2.1),setSt_at hg,if_pos rfl]
   ·obtain ⟨k,k1,k2,k3⟩:=c h hh
    refine ⟨k,k1,fun e=>k2 ?_,k3⟩
    rw [setSt_at hg]
    split
    ·rfl
    ·exact e
  ·rw [List.map_cons,List.mem_cons,not_or] at hk
   show ((wokeM (W.setSt x.id.toNat 1) t).g k).st = _
   rw [d k hk.2,setSt_at hg,if_neg (fun e=>hk.1 (by omega))]
theorem tk_tick {B:Nat} {W:Wd} (h:WF B W):TkOk W (tickM W).1 (tickM W).2:=by
 unfold tickM
 split
 ·simp only
  obtain ⟨a,b⟩:=wakes_perm _ W.hp ((W.clock:Int) + 1) (Nat.le_refl _)
  have hall:∀ x,x ∈ (wakes W.hp ((W.clock:Int) + 1)).1 ∨ x ∈ (wakes W.hp ((W.clock:Int) + 1)).2 → x ∈ W.hp:=fun x hx=>a.mem_iff.1 (List.mem_append.2 hx)
  have hnd:=(a.map (·.id)).nodup_iff.2 h.hp.2.1
  rw [List.map_append,List.nodup_append] at hnd
  have hw:=tk_woke (wakes W.hp ((W.clock:Int) + 1)).1 { W with clock:=W.clock + 1,hp:=(wakes W.hp ((W.clock:Int) + 1)).2 } (fun x hx=>by
   obtain ⟨k1,k2,-⟩:=h.hp.2.2.1 x (hall x (.inl hx));exact ⟨k1,k2⟩) hnd.1
  exact ⟨hw.nd,hw.len,hw.st,hw.oth⟩
 ·exact ⟨by simp,rfl,fun h hh=>by simp at hh,fun _ _=>rfl⟩
def Pm.l (P:Pm):List Int:=P.q.nx.toList ++ P.q.l
def Mm.l (M:Mm):List Int:=if M.G = -1 then [] else [M.G]
def Sd.all (X:Sd):List Int:=X.gl ++ (X.ps.flatMap Pm.l ++ X.ms.flatMap Mm.l)
theorem flat_get {α:Type} {f:α → List Int}:∀ {l:List α} {i:Nat} {a:α},l[i]? = some a → ∃ R,(l.flatMap f).Perm (f a ++ R) ∧ ∀ b,((l.set i b).flatMap f).Perm (f b ++ R)
 | [],i,a,h=>by simp at h
 | x :: l,0,a,h=>by
  simp at h;subst h
  exact ⟨l.flatMap f,by simp,fun b=>by simp⟩
 | x :: l,i + 1,a,h=>by
  obtain ⟨R,h1,h2⟩:=flat_get (f:=f) (l:=l) (i:=i) (a:=a) (by simpa using h)
  refine ⟨f x ++ R,?_,fun b=>?_⟩
  ·rw [List.flatMap_cons]
   exact (h1.append_left (f x)).trans (by rw [← List.append_assoc,← List.append_assoc];exact List.perm_append_comm.append_right R)
  ·rw [List.set_cons_succ,List.flatMap_cons]
   exact ((h2 b).append_left (f x)).trans (by rw [← List.append_assoc,← List.append_assoc];exact List.perm_append_comm.append_right R)
theorem all_p {X:Sd} {i:Nat} (hi:i < X.ps.length):∃ R,X.all.Perm (X.gl ++ ((X.p i).l ++ R)) ∧ ∀ (Y:Sd) (P:Pm),Y.ps = X.ps.set i P → Y.ms = X.ms → Y.all.Perm (Y.gl ++ (P.l ++ R)):=by
 obtain ⟨R,h1,h2⟩:=flat_get (f:=Pm.l) (X.p_at hi)
 refine ⟨R ++ X.ms.flatMap Mm.l,?_,fun Y P e1 e2=>?_⟩
 ·unfold Sd.all
  refine List.Perm.append_left _ ?_
  rw [← List.append_assoc]
  exact h1.append_right _
 ·unfold Sd.all
  refine List.Perm.append_left _ ?_
  rw [e1,e2,← List.append_assoc]
  exact (h2 P).append_right _
theorem all_m {X:Sd} {i:Nat} (hi:i < X.ms.length):∃ R,X.all.Perm ((X.m i).l ++ R) ∧ ∀ (Y:Sd) (M:Mm),Y.ms = X.ms.set i M → Y.ps = X.ps → Y.gl = X.gl → Y.all.Perm (M.l ++ R):=by
 obtain ⟨R,h1,h2⟩:=flat_get (f:=Mm.l) (X.m_at hi)
 have key:∀ (a b c d:List Int),c.Perm (d ++ R) → (a ++ (b ++ c)).Perm (d ++ (a ++ (b ++ R))):=fun a b c d h=>by
  refine ((h.append_left b).append_left a).trans ?_
  have e1:(b ++ (d ++ R)).Perm (d ++ (b ++ R)):=by
   rw [← List.append_assoc,← List.append_assoc];exact List.perm_append_comm.append_right R
  exact (e1.append_left a).trans (List.perm_append_comm_assoc a d (b ++ R))
 exact ⟨X.gl ++ (X.ps.flatMap Pm.l ++ R),key _ _ _ _ h1,fun Y M e1 e2 e3=>by
  unfold Sd.all;rw [e1,e2,e3];exact key _ _ _ _ (h2 M)⟩
theorem mPut_perm (N:Nat) (q:LQ) (v:Int) (gl:List Int) (hq:q.nx = none):((mPut N q v gl).2.1 ++ ((mPut N q v gl).1.nx.toList ++ (mPut N q v gl).1.l)).Perm (gl ++ (v :: q.l)) ∧ (mPut N q v gl).1.nx = none:=by
 unfold mPut
 split
 ·refine ⟨?_,hq⟩
  simp only [hq,Option.toList_none,List.nil_append]
  exact List.Perm.append_left _ (List.perm_append_comm (l₁:=q.l) (l₂:=[v]))
 ·refine ⟨?_,hq⟩
  simp only [hq,Option.toList_none,List.nil_append]
  rw [List.append_assoc]
  refine List.Perm.append_left _ ?_
  have e:q.l = q.l.take (q.l.length / 2) ++ q.l.drop (q.l.length / 2):=(List.take_append_drop _ _).symm
  have h2:(v :: q.l) = [v] ++ (q.l.take (q.l.length / 2) ++ q.l.drop (q.l.length / 2)):=by rw [← e];rfl
  rw [h2,← List.append_assoc]
  exact List.perm_append_comm.append_right _
theorem mTurn_perm (N:Nat) (q:LQ) (gl:List Int):((mTurn N q gl).2.1 ++ ((mTurn N q gl).1.nx.toList ++ (mTurn N q gl).1.l)).Perm (gl ++ (q.nx.toList ++ q.l)) ∧ (mTurn N q gl).1.nx = none:=by
 unfold mTurn
 cases h:q.nx with
 | none=>simp only;exact ⟨by rw [h],h⟩
 | some v =>
  simp only
  obtain ⟨a,b⟩:=mPut_perm N ⟨none,q.l⟩ v gl rfl
  exact ⟨by simpa using a,b⟩
theorem mGet_perm (q:LQ):(q.nx.toList ++ q.l).Perm ((mGet q).2.toList ++ ((mGet q).1.nx.toList ++ (mGet q).1.l)):=by
 unfold mGet
 cases h:q.nx with
 | none =>
  cases h2:q.l with
  | nil=>simp [h,h2]
  | cons x t=>simp
 | some v=>simp
theorem take_tail {α:Type} (x:α) (t:List α) (k:Nat) (hk:1 ≤ k):(x :: t) = x :: (((x :: t).take k).tail ++ (x :: t).drop k):=by
 obtain ⟨j,rfl⟩:∃ j,k = j + 1:=⟨k - 1,by omega⟩
 simp
theorem mFetch_perm (N:Nat) (q:LQ) (gl:List Int) (k:Int):(gl ++ (q.nx.toList ++ q.l)).Perm ((mFetch N q gl k).2.2.toList ++ ((mFetch N q gl k).2.1 ++ ((mFetch N q gl k).1.nx.toList ++ (mFetch N q gl k).1.l))):=by
 unfold mFetch
 cases gl with
 | nil=>simp
 | cons x t =>
  simp only [Option.toList_some]
  have h1:=mShare_pos N q (x :: t) k
  generalize mShare N q (x :: t) k = j at *
  have e:=take_tail x t j h1
  generalize ((x :: t).take j).tail = A at *
  generalize (x :: t).drop j = Bq at *
  rw [e]
  simp only [List.cons_append,List.nil_append,List.perm_cons]
  have:(A ++ Bq ++ (q.nx.toList ++ q.l)).Perm (Bq ++ (q.nx.toList ++ q.l) ++ A):=by
   rw [List.append_assoc];exact List.perm_append_comm
  simpa [List.append_assoc] using this
theorem mSteal_perm (N:Nat) (q f:LQ):((q.nx.toList ++ q.l) ++ (f.nx.toList ++ f.l)).Perm ((mSteal N q f).2.2.toList ++ (((mSteal N q f).1.nx.toList ++ (mSteal N q f).1.l) ++ ((mSteal N q f).2.1.nx.toList ++ (mSteal N q f).2.1.l))):=by
 unfold mSteal
 cases h:f.l with
 | nil =>
  simp only [Option.toList_none,List.append_nil]
  exact List.perm_append_comm
 | cons x t =>
  simp only [Option.toList_some]
  obtain ⟨j,hj⟩:∃ j,j = min (((x :: t).length + 1) / 2) (N - q.l.length + 1):=⟨_,rfl⟩
  rw [← hj]
  have h1:1 ≤ j:=by rw [hj,List.length_cons];omega
  have e:=take_tail x t j h1
  generalize ((x :: t).take j).tail = A at *
  generalize (x :: t).drop j = Bq at *
  rw [e]
  have h2:(q.nx.toList ++ q.l ++ (f.nx.toList ++ x :: (A ++ Bq))).Perm (x :: (q.nx.toList ++ q.l ++ (f.nx.toList ++ (A ++ Bq)))):=by
   rw [← List.append_assoc,← List.append_assoc];exact List.perm_middle
  refine h2.trans ?_
  simp only [List.cons_append,List.nil_append,List.perm_cons]
  have h3:(f.nx.toList ++ (A ++ Bq)).Perm (A ++ (f.nx.toList ++ Bq)):=by
   rw [← List.append_assoc,← List.append_assoc];exact List.perm_append_comm.append_right _
  have h4:=h3.append_left (q.nx.toList ++ q.l)
  simpa [List.append_assoc] using h4
theorem setP_p {X:Sd} {i:Nat} (hi:i < X.ps.length) (P:Pm) (j:Nat):(X.setP i P).p j = if i = j then P else X.p j:=by
 unfold Sd.setP Sd.p
 simp only [List.getD_eq_getElem?_getD,List.getElem?_set]
 split
 ·simp [hi]
 ·rfl
theorem setM_m {X:Sd} {i:Nat} (hi:i < X.ms.length) (M:Mm) (j:Nat):(X.setM i M).m j = if i = j then M else X.m j:=by
 unfold Sd.setM Sd.m
 simp only [List.getD_eq_getElem?_getD,List.getElem?_set]
 split
 ·simp [hi]
 ·rfl
theorem perm_in {a b c R:List Int} (h:a.Perm (b ++ c)):(a ++ R).Perm (b ++ (c ++ R)):=by rw [← List.append_assoc];exact h.append_right R
theorem turn_perm {X:Sd} {i:Nat} (hi:i < X.ps.length):(turnM X i).all.Perm X.all:=by
 obtain ⟨R,h1,h2⟩:=all_p hi
 refine (h2 (turnM X i) _ rfl rfl).trans (List.Perm.trans ?_ h1.symm)
 have h3:=(mTurn_perm (X.p i).N (X.p i).q X.gl).1
 have h4:=h3.append_right R
 simpa [turnM,Pm.l,List.append_assoc] using h4
theorem near_perm {X:Sd} {i:Nat} (hi:i < X.ps.length):X.all.Perm ((nearM X i).2.toList ++ (nearM X i).1.all):=by
 obtain ⟨R,h1,h2⟩:=all_p hi
 unfold nearM
 split
 ·rename_i h
  simp only
  cases hg:X.gl with
  | nil=>exact absurd hg h.2
  | cons x t =>
   refine h1.trans ?_
   rw [hg]
   have:=h2 { X with gl:=t } (X.p i) (by show X.ps = X.ps.set i (X.p i);rw [set_self _ _ _ (X.p_at hi)]) rfl
   exact List.Perm.cons _ this.symm
 ·have hG:=mGet_perm (X.p i).q
  split
  ·rename_i g hg
   rw [hg] at hG
   simp only
   refine h1.trans ?_
   have h3:=h2 (X.setP i { X.p i with q:=(mGet (X.p i).q).1 }) _ rfl rfl
   refine List.Perm.trans ?_ (h3.symm.append_left [g])
   have h4:(X.gl ++ ((X.p i).l ++ R)).Perm (X.gl ++ ([g] ++ (((mGet (X.p i).q).1.nx.toList ++ (mGet (X.p i).q).1.l) ++ R))):=(perm_in hG).append_left X.gl
   refine h4.trans ?_
   rw [← List.append_assoc]
   refine (List.perm_append_comm.append_right _).trans ?_
   rw [List.append_assoc]
   exact List.Perm.refl _
  ·rename_i hg
   refine h1.trans ?_
   have h3:=h2 { X.setP i { X.p i with q:=(mFetch (X.p i).N (X.p i).q X.gl 0).1 } with gl:=(mFetch (X.p i).N (X.p i).q X.gl 0).2.1 } _ rfl rfl
   refine List.Perm.trans ?_ (h3.symm.append_left _)
   have h5:=mFetch_perm (X.p i).N (X.p i).q X.gl 0
   have h6:=h5.append_right R
   simpa [Pm.l,List.append_assoc] using h6
theorem mTurn_none (N:Nat) (q:LQ) (gl:List Int) (h:q.nx = none):mTurn N q gl = (q,gl,0):=by unfold mTurn;rw [h]
theorem near_none {X:Sd} {i:Nat} (hi:i < X.ps.length) (h:(nearM (turnM X i) i).2 = none):(X.p i).q = ⟨none,[]⟩ ∧ X.gl = [] ∧ (nearM (turnM X i) i).1 = X:=by
 have hl:i < (turnM X i).ps.length:=by unfold turnM Sd.setP;simpa using hi
 have hp:(turnM X i).p i = { X.p i with q:=(mTurn (X.p i).N (X.p i).q X.gl).1 }:=by
  have:=setP_p hi { X.p i with q:=(mTurn (X.p i).N (X.p i).q X.gl).1 } i
  rw [if_pos rfl] at this;exact this
 have hn:=(mTurn_perm (X.p i).N (X.p i).q X.gl).2
 have hgl:(turnM X i).gl = (mTurn (X.p i).N (X.p i).q X.gl).2.1:=rfl
 have h':=h
 unfold nearM at h
 split at h
 ·rename_i h0
  simp only at h
  rw [List.head?_eq_none_iff] at h
  exact absurd h h0.2
 ·split at h
  ·cases h
  ·rename_i hg
   have e1:((turnM X i).p i).q.l = []:=by
    unfold mGet at hg
    rw [hp] at hg ⊢
    simp only [hn] at hg
    cases e:(mTurn (X.p i).N (X.p i).q X.gl).1.l with
    | nil=>rfl
    | cons x t=>rw [e] at hg;cases hg
   have e2:(turnM X i).gl = []:=by
    unfold mFetch at h
    cases e:(turnM X i).gl with
    | nil=>rfl
    | cons x t=>rw [e] at h;cases h
   have hq:(X.p i).q.nx = none:=by
    cases e:(X.p i).q.nx with
    | none=>rfl
    | some v =>
     rw [hp] at e1
     rw [hgl] at e2
     simp only at e1
     unfold mTurn mPut at e1 e2
     simp only [e] at e1 e2
     split at e1
     ·simp at e1
     ·rename_i hc;rw [if_neg hc] at e2;simp at e2
   have ht:=mTurn_none (X.p i).N (X.p i).q X.gl hq
   have e3:(X.p i).q.l = []:=by rw [hp,ht] at e1;exact e1
   have e4:X.gl = []:=by rw [hgl,ht] at e2;exact e2
   have hqq:(X.p i).q = ⟨none,[]⟩:=by
    cases hq2:(X.p i).q with
    | mk a b=>rw [hq2] at hq e3;simp only at hq e3;subst hq;subst e3;rfl
   have hT:turnM X i = X:=by
    unfold turnM
    rw [ht]
    unfold Sd.setP
    simp only
    rw [set_self _ _ _ (X.p_at hi)]
   refine ⟨hqq,e4,?_⟩
   rw [hT] at h' ⊢
   unfold nearM
   rw [if_neg (fun hc=>hc.2 e4)]
   have hg2:(mGet (X.p i).q).2 = none:=by rw [hqq];rfl
   rw [hg2]
   simp only
   unfold Sd.setP
   rw [e4,hqq]
   simp only [mFetch]
   have:({ X.p i with q:=⟨none,[]⟩ }:Pm) = X.p i:=by rw [← hqq]
   rw [this,set_self _ _ _ (X.p_at hi)]
   show ({ X with gl:=[] }:Sd) = X
   rw [← e4]
structure Ev where
 kind:Int
 M:Int
 G:Int
 rd:List Int
def Sd.ins (X:Sd) (m:Nat):In4:=(X.W.ins (X.m m).G.toNat).getD (0,0,0,0)
def asks2 (X:Sd) (m:Nat):Option (Int × Int) :=
 if m = X.ms.length then none
 else if (X.m m).P = -1 then none
 else if (X.m m).G = -1 then
  if 0 < (X.m m).L ∧ (X.p (X.m m).P.toNat).q.nx.isSome then none
  else if asksV X (X.m m).P.toNat then some (2,(X.ps.length:Int)) else none
 else if X.W.lets (X.m m).G ∧ 1 ≤ askN X.W (X.ins m) then some (askK (X.ins m),(askN X.W (X.ins m):Int)) else none
def pickedM (X:Sd) (m:Nat) (d:Int):Sd × Ev :=
 if m = X.ms.length then ((clockM X).1,⟨1,-1,-1,(clockM X).2⟩)
 else if (X.m m).P = -1 then ((holdM X m).1,⟨(holdM X m).2,(m:Int),-1,[]⟩)
 else if (X.m m).G = -1 then ((lookM X m d.toNat).1,⟨(lookM X m d.toNat).2.1,(m:Int),(lookM X m d.toNat).2.2,[]⟩)
 else ((runM X m d).1,⟨7,(m:Int),(X.m m).G,(runM X m d).2⟩)
def stepM (X:Sd) (m:Nat) (d:Int):Sd × Ev:=({ (pickedM X m d).1 with st:=X.st + 1 },(pickedM X m d).2)
structure Qs (X Y:Sd):Prop where
 W:Y.W = X.W
 ms:Y.ms = X.ms
 sl:Y.sl = X.sl
 st:Y.st = X.st
 len:Y.ps.length = X.ps.length
 p:∀ j,(Y.p j).by_ = (X.p j).by_ ∧ (Y.p j).N = (X.p j).N ∧ (Y.p j).tu = (X.p j).tu
 ll:(∀ j,(X.p j).q.l.length ≤ (X.p j).N) → ∀ j,(Y.p j).q.l.length ≤ (Y.p j).N
theorem Qs.refl (X:Sd):Qs X X:=⟨rfl,rfl,rfl,rfl,rfl,fun _=>⟨rfl,rfl,rfl⟩,fun h=>h⟩
theorem Qs.trans {X Y Z:Sd} (h:Qs X Y) (k:Qs Y Z):Qs X Z :=
 ⟨k.W.trans h.W,k.ms.trans h.ms,k.sl.trans h.sl,k.st.trans h.st,k.len.trans h.len,fun j=>⟨(k.p j).1.trans (h.p j).1,(k.p j).2.1.trans (h.p j).2.1,(k.p j).2.2.trans (h.p j).2.2⟩,fun hh=>k.ll (h.ll hh)⟩
theorem Qs.setq {X Y:Sd} {i:Nat} (hi:i < X.ps.length) (q:LQ) (hq:(X.p i).q.l.length ≤ (X.p i).N → q.l.length ≤ (X.p i).N) (hps:Y.ps = X.ps.set i { X.p i with q:=q }) (hW:Y.W = X.W) (hms:Y.ms = X.ms) (hsl:Y.sl = X.sl) (hst:Y.st = X.st):Qs X Y:=by
 have e:∀ j,Y.p j = if i = j then { X.p i with q:=q } else X.p j:=fun j=>by
  have:=setP_p hi { X.p i with q:=q } j
  unfold Sd.p at this ⊢
  rw [hps];exact this
 refine ⟨hW,hms,hsl,hst,by rw [hps];simp,fun j=>?_,fun h j=>?_⟩
 ·rw [e];split
  ·rename_i e2;subst e2;exact ⟨rfl,rfl,rfl⟩
  ·exact ⟨rfl,rfl,rfl⟩
 ·rw [e];split
  ·rename_i e2;subst e2;exact hq (h i)
  ·exact h j
theorem mTurn_ll (N:Nat) (q:LQ) (gl:List Int) (h:q.l.length ≤ N):(mTurn N q gl).1.l.length ≤ N:=by
 unfold mTurn
 split
 ·exact h
 ·exact mPut_ll N ⟨none,q.l⟩ _ gl h
theorem mGet_ll (N:Nat) (q:LQ) (h:q.l.length ≤ N):(mGet q).1.l.length ≤ N:=by
 unfold mGet
 split
 ·exact h
 ·split
  ·exact h
  ·rename_i e;rw [e] at h;simp at h;simp;omega
theorem mFetch_ll (N:Nat) (q:LQ) (gl:List Int) (k:Int) (h:q.l.length ≤ N):(mFetch N q gl k).1.l.length ≤ N:=by
 unfold mFetch
 split
 ·exact h
 ·rename_i x t
  simp only [List.length_append,List.length_tail,List.length_take]
  have:mShare N q (x :: t) k ≤ N - q.l.length + 1:=by unfold mShare;omega
  omega
theorem mSteal_ll (N:Nat) (q f:LQ) (h:q.l.length ≤ N):(mSteal N q f).1.l.length ≤ N:=by
 unfold mSteal
 split
 ·exact h
 ·simp only [List.length_append,List.length_tail,List.length_take];omega
theorem mSteal_ll2 (N:Nat) (q f:LQ):(mSteal N q f).2.1.l.length ≤ f.l.length:=by
 unfold mSteal
 split
 ·simp
 ·simp only [List.length_drop];omega
theorem qs_turn {X:Sd} {i:Nat} (hi:i < X.ps.length):Qs X (turnM X i):=Qs.setq hi _ (mTurn_ll _ _ _) rfl rfl rfl rfl rfl
theorem qs_near {X:Sd} {i:Nat} (hi:i < X.ps.length):Qs X (nearM X i).1:=by
 unfold nearM
 split
 ·exact ⟨rfl,rfl,rfl,rfl,rfl,fun _=>⟨rfl,rfl,rfl⟩,fun h=>h⟩
 ·split
  ·exact Qs.setq hi _ (mGet_ll _ _) rfl rfl rfl rfl rfl
  ·exact Qs.setq hi _ (mFetch_ll _ _ _ _) rfl rfl rfl rfl rfl
theorem qs_ready1 {X:Sd} {i:Nat} (hi:i < X.ps.length) (g:Int):Qs X { X.setP i { X.p i with q:=(mReady (X.p i).N (X.p i).q g X.gl).1 } with gl:=(mReady (X.p i).N (X.p i).q g X.gl).2.1 } :=
 Qs.setq hi (mReady (X.p i).N (X.p i).q g X.gl).1 (fun h=>mTurn_ll _ _ X.gl h) rfl rfl rfl rfl rfl
theorem qs_ready:∀ (l:List Int) (X:Sd) (i:Nat),i < X.ps.length → Qs X (readyA X i l) ∧ (readyA X i l).all.Perm (l ++ X.all)
 | [],X,i,hi=>⟨Qs.refl X,List.Perm.refl _⟩
 | g :: t,X,i,hi=>by
  have h1:=qs_ready1 hi g
  obtain ⟨h2,h3⟩:=qs_ready t _ i (by rw [h1.len];exact hi)
  refine ⟨h1.trans h2,h3.trans ?_⟩
  obtain ⟨R,k1,k2⟩:=all_p hi
  have hp:=k2 { X.setP i { X.p i with q:=(mReady (X.p i).N (X.p i).q g X.gl).1 } with gl:=(mReady (X.p i).N (X.p i).q g X.gl).2.1 } _ rfl rfl
  obtain ⟨m1,m2⟩:=mTurn_perm (X.p i).N (X.p i).q X.gl
  rw [m2] at m1
  have m3:((mTurn (X.p i).N (X.p i).q X.gl).2.1 ++ (mTurn (X.p i).N (X.p i).q X.gl).1.l).Perm (X.gl ++ (X.p i).l):=by simpa [Pm.l] using m1
  have m4:(g :: ((mTurn (X.p i).N (X.p i).q X.gl).2.1 ++ ((mTurn (X.p i).N (X.p i).q X.gl).1.l ++ R))).Perm (g :: X.all):=by
   refine List.Perm.cons g ?_
   refine List.Perm.trans ?_ k1.symm
   rw [← List.append_assoc,← List.append_assoc]
   exact m3.append_right R
  have m5:({ X.setP i { X.p i with q:=(mReady (X.p i).N (X.p i).q g X.gl).1 } with gl:=(mReady (X.p i).N (X.p i).q g X.gl).2.1 }:Sd).all.Perm (g :: X.all):=by
   refine hp.trans (List.Perm.trans ?_ m4)
   show ((mTurn (X.p i).N (X.p i).q X.gl).2.1 ++ (((some g).toList ++ (mTurn (X.p i).N (X.p i).q X.gl).1.l) ++ R)).Perm _
   simp only [Option.toList_some,List.cons_append,List.nil_append]
   exact List.perm_middle
  have m6:=m5.append_left t
  refine m6.trans ?_
  exact List.perm_middle
theorem qs_new {X:Sd} {i v:Nat} (hi:i < X.ps.length) (hv:v < X.ps.length):Qs X (newTurnM X i v).1 ∧
  (((newTurnM X i v).2.1 = 6 ∧ (newTurnM X i v).2.2 = -1 ∧ (newTurnM X i v).1.all.Perm X.all) ∨ ((newTurnM X i v).2.1 ≠ 6 ∧ X.all.Perm ((newTurnM X i v).2.2 :: (newTurnM X i v).1.all))):=by
 have hq1:=qs_turn hi
 have hi1:i < (turnM X i).ps.length:=by rw [hq1.len];exact hi
 have hq2:=qs_near hi1
 have hp1:=turn_perm hi
 have hp2:=near_perm hi1
 have hq12:=hq1.trans hq2
 unfold newTurnM
 simp only
 cases hn:(nearM (turnM X i) i).2 with
 | some g =>
  simp only
  rw [hn] at hp2
  refine ⟨hq12,.inr ⟨by decide,?_⟩⟩
  exact hp1.symm.trans hp2
 | none =>
  simp only
  obtain ⟨e1,e2,e3⟩:=near_none hi hn
  rw [e3]
  split
  ·rename_i hc
   have hvi:i ≠ v:=fun e=>hc.2 e.symm
   have qa:=Qs.setq (Y:=X.setP i { X.p i with q:=(mSteal (X.p i).N (X.p i).q (X.p v).q).1 }) hi _ (mSteal_ll _ _ _) rfl rfl rfl rfl rfl
   have hpv:(X.setP i { X.p i with q:=(mSteal (X.p i).N (X.p i).q (X.p v).q).1 }).p v = X.p v:=by rw [setP_p hi,if_neg hvi]
   have qb:=Qs.setq (X:=X.setP i { X.p i with q:=(mSteal (X.p i).N (X.p i).q (X.p v).q).1 }) (Y:=(X.setP i { X.p i with q:=(mSteal (X.p i).N (X.p i).q (X.p v).q).1 }).setP v { X.p v with q:=(mSteal (X.p i).N (X.p i).q (X.p v).q).2.1 }) (i:=v) (by rw [qa.len];exact hv) ((mSteal (X.p i).N (X.p i).q (X.p v).q).2.1) (fun h=>by
    have:=mSteal_ll2 (X.p i).N (X.p i).q (X.p v).q
    rw [hpv] at h ⊢;omega) (by rw [hpv];rfl) rfl rfl rfl rfl
   have hall:X.all.Perm ((mSteal (X.p i).N (X.p i).q (X.p v).q).2.2.toList ++ ((X.setP i { X.p i with q:=(mSteal (X.p i).N (X.p i).q (X.p v).q).1 }).setP v { X.p v with q:=(mSteal (X.p i).N (X.p i).q (X.p v).q).2.1 }).all):=by
    have hs:=mSteal_perm (X.p i).N (X.p i).q (X.p v).q
    obtain ⟨R,r1,r2⟩:=pick2_perm X.ps i v _ _ (X.p_at hi) (X.p_at hv) hvi
    have a1:=(r1.flatMap_right Pm.l)
    have a2:=((r2 { X.p i with q:=(mSteal (X.p i).N (X.p i).q (X.p v).q).1 } { X.p v with q:=(mSteal (X.p i).N (X.p i).q (X.p v).q).2.1 }).flatMap_right Pm.l)
    simp only [List.flatMap_cons] at a1 a2
    unfold Sd.all
    show (X.gl ++ (X.ps.flatMap Pm.l ++ X.ms.flatMap Mm.l)).Perm (_ ++ (X.gl ++ (((X.ps.set i _).set v _).flatMap Pm.l ++ X.ms.flatMap Mm.l)))
    rw [e2]
    simp only [List.nil_append]
    rw [← List.append_assoc]
    refine List.Perm.append_right _ ?_
    refine a1.trans ?_
    refine List.Perm.trans ?_ (a2.append_left _)
    have hs2:=hs.append_right (R.flatMap Pm.l)
    simpa [Pm.l,List.append_assoc] using hs2
   cases hs:(mSteal (X.p i).N (X.p i).q (X.p v).q).2.2 with
   | some g =>
    rw [hs] at hall
    simp only
    exact ⟨qa.trans qb,.inr ⟨by decide,hall⟩⟩
   | none =>
    rw [hs] at hall
    exact ⟨qa.trans qb,.inl ⟨rfl,rfl,hall.symm⟩⟩
  ·exact ⟨Qs.refl X,.inl ⟨rfl,rfl,List.Perm.refl _⟩⟩
structure SdWF (B:Nat) (X:Sd):Prop where
 wf:WF B X.W
 np:1 ≤ X.ps.length ∧ X.ps.length ≤ 64
 nm:1 ≤ X.ms.length ∧ X.ms.length ≤ 64
 sl:1 ≤ X.sl ∧ X.sl ≤ 1024
 st:X.st ≤ B
 N:∀ j,j < X.ps.length → 1 ≤ (X.p j).N ∧ (X.p j).N ≤ 1024
 ll:∀ j,(X.p j).q.l.length ≤ (X.p j).N
 tu:∀ j,(X.p j).tu ≤ B
 by_:∀ j,-1 ≤ (X.p j).by_ ∧ (X.p j).by_ < (X.ms.length:Int)
 m0:∀ i,(X.m i).P = -1 → (X.m i).G = -1 ∧ (X.m i).L = 0
 m1:∀ i,i < X.ms.length → (X.m i).P ≠ -1 → (0 ≤ (X.m i).P ∧ (X.m i).P < (X.ps.length:Int)) ∧ (X.p (X.m i).P.toNat).by_ = (i:Int)
 mL:∀ i,0 ≤ (X.m i).L ∧ (X.m i).L ≤ 1024 ∧ ((X.m i).G ≠ -1 → 1 ≤ (X.m i).L)
 nd:X.all.Nodup
 mem:∀ h,h ∈ X.all ↔ ∃ k:Nat,h = (k:Int) ∧ (X.W.g k).st = 1
theorem nodup_len:∀ (n:Nat) (l:List Int),l.Nodup → (∀ x ∈ l,0 ≤ x ∧ x < (n:Int)) → l.length ≤ n
 | 0,l,_,h=>by
  cases l with
  | nil=>simp
  | cons x t=>have:=h x (by simp);omega
 | n + 1,l,hn,h=>by
  have h1:=nodup_len n (l.erase (n:Int)) (hn.erase _) (fun x hx=>by
   have hx2:=(List.Nodup.mem_erase_iff hn).1 hx
   have:=h x hx2.2
   omega)
  have h2:l.length ≤ (l.erase (n:Int)).length + 1:=by rw [List.length_erase];split <;> omega
  omega
theorem SdWF.bound {B:Nat} {X:Sd} (h:SdWF B X):X.all.length ≤ 100:=by
 refine Nat.le_trans (nodup_len X.W.gs.length _ h.nd (fun x hx=>?_)) h.wf.g1.2
 obtain ⟨k,rfl,hk⟩:=(h.mem x).1 hx
 refine ⟨by omega,?_⟩
 rcases Nat.lt_or_ge k X.W.gs.length with h1 | h1
 ·omega
 ·rw [g_out (by omega)] at hk;exact absurd hk (by decide)
theorem SdWF.gl {B:Nat} {X:Sd} (h:SdWF B X):X.gl.length ≤ 100:=by
 have:=h.bound
 unfold Sd.all at this
 rw [List.length_append] at this
 omega
theorem SdWF.lets {B:Nat} {X:Sd} (h:SdWF B X) {m:Nat} (hm:m < X.ms.length) (hG:(X.m m).G ≠ -1):∃ k:Nat,(X.m m).G = (k:Int) ∧ (X.W.g k).st = 1 ∧ k < X.W.gs.length:=by
 obtain ⟨R,h1,-⟩:=all_m hm
 have:(X.m m).G ∈ X.all:=h1.mem_iff.2 (by unfold Mm.l;rw [if_neg hG];simp)
 obtain ⟨k,e,hk⟩:=(h.mem _).1 this
 refine ⟨k,e,hk,?_⟩
 rcases Nat.lt_or_ge k X.W.gs.length with h1 | h1
 ·exact h1
 ·rw [g_out (by omega)] at hk;exact absurd hk (by decide)
theorem SdWF.qs {B:Nat} {X Y:Sd} (h:SdWF B X) (q:Qs X Y) (hp:Y.all.Perm X.all):SdWF B Y:=by
 refine ⟨by rw [q.W];exact h.wf,by rw [q.len];exact h.np,by rw [q.ms];exact h.nm,by rw [q.sl];exact h.sl,by rw [q.st];exact h.st,fun j hj=>by rw [(q.p j).2.1];exact h.N j (by rw [← q.len];exact hj),q.ll h.ll,fun j=>by rw [(q.p j).2.2];exact h.tu j,fun j=>by rw [(q.p j).1,q.ms];exact h.by_ j,
  fun i hi=>?_,fun i hi hP=>?_,fun i=>?_,hp.nodup_iff.2 h.nd,fun x=>by rw [hp.mem_iff,q.W];exact h.mem x⟩
 ·unfold Sd.m at *;rw [q.ms] at hi ⊢;exact h.m0 i hi
 ·have e:Y.m i = X.m i:=by unfold Sd.m;rw [q.ms]
  rw [e] at hP ⊢
  rw [q.ms] at hi
  obtain ⟨a,b⟩:=h.m1 i hi hP
  exact ⟨by rw [q.len];exact a,by rw [(q.p _).1];exact b⟩
 ·have e:Y.m i = X.m i:=by unfold Sd.m;rw [q.ms]
  rw [e];exact h.mL i
theorem SdWF.mono {B C:Nat} {X:Sd} (h:SdWF B X) (hb:B ≤ C):SdWF C X :=
 ⟨h.wf.mono hb,h.np,h.nm,h.sl,Nat.le_trans h.st hb,h.N,h.ll,fun j=>Nat.le_trans (h.tu j) hb,h.by_,h.m0,h.m1,h.mL,h.nd,h.mem⟩
theorem SdWF.stp {B:Nat} {X:Sd} (h:SdWF B X) {s:Nat} (hs:s ≤ B):SdWF B { X with st:=s }:=⟨h.wf,h.np,h.nm,h.sl,hs,h.N,h.ll,h.tu,h.by_,h.m0,h.m1,h.mL,h.nd,h.mem⟩
theorem setM_all {X:Sd} {m:Nat} (hm:m < X.ms.length) (M:Mm):∃ R,X.all.Perm ((X.m m).l ++ R) ∧ (X.setM m M).all.Perm (M.l ++ R):=by
 obtain ⟨R,h1,h2⟩:=all_m hm
 exact ⟨R,h1,h2 _ _ rfl rfl rfl⟩
theorem setM_same {X:Sd} {m:Nat} (hm:m < X.ms.length) (M:Mm) (e:M.l = (X.m m).l):(X.setM m M).all.Perm X.all:=by
 obtain ⟨R,h1,h2⟩:=setM_all hm M
 rw [e] at h2;exact h2.trans h1.symm
theorem setP_same {X:Sd} {i:Nat} (hi:i < X.ps.length) (P:Pm) (e:P.l = (X.p i).l):(X.setP i P).all.Perm X.all:=by
 obtain ⟨R,h1,h2⟩:=all_p hi
 have:=h2 (X.setP i P) P rfl rfl
 rw [e] at this;exact this.trans h1.symm
theorem SdWF.hold {B:Nat} {X:Sd} (h:SdWF B X) {m:Nat} (hm:m < X.ms.length) (hP:(X.m m).P = -1):SdWF B (holdM X m).1:=by
 unfold holdM
 split
 ·rename_i i hi
  rw [List.findIdx?_eq_some_iff_getElem] at hi
  obtain ⟨hil,hb,-⟩:=hi
  have hbi:(X.p i).by_ = -1:=by
   have e:=X.p_at hil
   rw [List.getElem?_eq_getElem hil] at e
   simp only [Option.some.injEq] at e
   rw [← e];simpa using hb
  have hml:m < (X.setP i { X.p i with by_:=(m:Int) }).ms.length:=hm
  have hpp:∀ j,((X.setP i { X.p i with by_:=(m:Int) }).setM m { X.m m with P:=(i:Int) }).p j = if i = j then { X.p i with by_:=(m:Int) } else X.p j:=fun j=>setP_p hil _ j
  have hmm:∀ j,((X.setP i { X.p i with by_:=(m:Int) }).setM m { X.m m with P:=(i:Int) }).m j = if m = j then { X.m m with P:=(i:Int) } else X.m j:=fun j=>setM_m hml _ j
  have hall:=(setM_same hml { X.m m with P:=(i:Int) } rfl).trans (setP_same hil { X.p i with by_:=(m:Int) } rfl)
  have hlp:((X.setP i { X.p i with by_:=(m:Int) }).setM m { X.m m with P:=(i:Int) }).ps.length = X.ps.length:=by unfold Sd.setM Sd.setP;simp
  have hlm:((X.setP i { X.p i with by_:=(m:Int) }).setM m { X.m m with P:=(i:Int) }).ms.length = X.ms.length:=by unfold Sd.setM Sd.setP;simp
  refine ⟨h.wf,by rw [hlp];exact h.np,by rw [hlm];exact h.nm,h.sl,h.st,fun j hj=>?_,fun j=>?_,fun j=>?_,fun j=>?_,fun j hj=>?_,fun j hj hne=>?_,fun j=>?_,hall.nodup_iff.2 h.nd,fun x=>hall.mem_iff.trans (h.mem x)⟩
  ·rw [hlp] at hj;rw [hpp];split
   ·exact h.N i hil
   ·exact h.N j hj
  ·rw [hpp];split
   ·exact h.ll i
   ·exact h.ll j
  ·rw [hpp];split
   ·exact h.tu i
   ·exact h.tu j
  ·rw [hpp,hlm];split
   ·simp only;omega
   ·exact h.by_ j
  ·rw [hmm] at hj ⊢
   split at hj
   ·simp only at hj;omega
   ·rename_i e;rw [if_neg e];exact h.m0 j hj
  ·rw [hmm] at hne ⊢
   rw [hlm] at hj
   rw [hpp,hlp]
   split
   ·rename_i e;subst e
    simp only [Int.toNat_natCast]
    exact ⟨by omega,by rw [if_pos trivial]⟩
   ·rename_i e
    rw [if_neg e] at hne
    obtain ⟨a,b⟩:=h.m1 j hj hne
    refine ⟨a,?_⟩
    rw [if_neg (fun e2=>by rw [← e2,hbi] at b;omega)]
    exact b
  ·rw [hmm];split
   ·exact h.mL m
   ·exact h.mL j
 ·exact h
theorem SdWF.at {B:Nat} {X:Sd} (h:SdWF B X) {m:Nat} (hm:m < X.ms.length) (hP:(X.m m).P ≠ -1):∃ i:Nat,(X.m m).P = (i:Int) ∧ i < X.ps.length ∧ (X.p i).by_ = (m:Int):=by
 obtain ⟨a,b⟩:=h.m1 m hm hP
 exact ⟨(X.m m).P.toNat,by omega,by omega,b⟩
theorem SdWF.park {B:Nat} {X:Sd} (h:SdWF B X) {m i:Nat} (hm:m < X.ms.length) (hi:i < X.ps.length) (hP:(X.m m).P = (i:Int)) (hG:(X.m m).G = -1):SdWF B ((X.setP i { X.p i with by_:=-1 }).setM m ⟨-1,-1,0⟩):=by
 have hml:m < (X.setP i { X.p i with by_:=-1 }).ms.length:=hm
 have hpp:∀ j,((X.setP i { X.p i with by_:=-1 }).setM m ⟨-1,-1,0⟩).p j = if i = j then { X.p i with by_:=-1 } else X.p j:=fun j=>setP_p hi _ j
 have hmm:∀ j,((X.setP i { X.p i with by_:=-1 }).setM m ⟨-1,-1,0⟩).m j = if m = j then ⟨-1,-1,0⟩ else X.m j:=fun j=>setM_m hml _ j
 have hall:=(setM_same hml ⟨-1,-1,0⟩ (by
  show Mm.l _ = Mm.l (X.m m)
  unfold Mm.l;rw [hG])).trans (setP_same hi { X.p i with by_:=-1 } rfl)
 have hlp:((X.setP i { X.p i with by_:=-1 }).setM m ⟨-1,-1,0⟩).ps.length = X.ps.length:=by unfold Sd.setM Sd.setP;simp
 have hlm:((X.setP i { X.p i with by_:=-1 }).setM m ⟨-1,-1,0⟩).ms.length = X.ms.length:=by unfold Sd.setM Sd.setP;simp
 have hby:(X.p i).by_ = (m:Int):=by
  obtain ⟨-,b⟩:=h.m1 m hm (by rw [hP];omega)
  rw [hP,Int.toNat_natCast] at b;exact b
 refine ⟨h.wf,by rw [hlp];exact h.np,by rw [hlm];exact h.nm,h.sl,h.st,fun j hj=>?_,fun j=>?_,fun j=>?_,fun j=>?_,fun j hj=>?_,fun j hj hne=>?_,fun j=>?_,hall.nodup_iff.2 h.nd,fun x=>hall.mem_iff.trans (h.mem x)⟩
 ·rw [hlp] at hj;rw [hpp];split
  ·exact h.N i hi
  ·exact h.N j hj
 ·rw [hpp];split
  ·exact h.ll i
  ·exact h.ll j
 ·rw [hpp];split
  ·exact h.tu i
  ·exact h.tu j
 ·rw [hpp,hlm];split
  ·have:=h.nm;simp only;omega
  ·exact h.by_ j
 ·rw [hmm] at hj ⊢
  split
  ·exact ⟨rfl,rfl⟩
  ·rename_i e;rw [if_neg e] at hj;exact h.m0 j hj
 ·rw [hmm] at hne ⊢
  rw [hlm] at hj
  rw [hpp,hlp]
  split
  ·rename_i e;rw [if_pos e] at hne;exact absurd rfl hne
  ·rename_i e
   rw [if_neg e] at hne
   obtain ⟨a,b⟩:=h.m1 j hj hne
   refine ⟨a,?_⟩
   rw [if_neg (fun e2=>by rw [← e2,hby] at b;omega)]
   exact b
 ·rw [hmm];split
  ·exact ⟨by decide,by decide,fun hc=>absurd rfl hc⟩
  ·exact h.mL j
theorem SdWF.look {B:Nat} {X:Sd} (h:SdWF B X) {m v:Nat} (hm:m < X.ms.length) (hP:(X.m m).P ≠ -1) (hG:(X.m m).G = -1) (hv:v < X.ps.length):SdWF (B + 1) (lookM X m v).1:=by
 obtain ⟨i,hi,hil,hby⟩:=h.at hm hP
 unfold lookM
 simp only
 have hi2:(X.m m).P.toNat = i:=by rw [hi,Int.toNat_natCast]
 rw [hi2]
 have hMl:(X.m m).l = []:=by unfold Mm.l;rw [if_pos hG]
 split
 ·rename_i hc
  obtain ⟨g,hg⟩:∃ g,(X.p i).q.nx = some g:=by
   cases e:(X.p i).q.nx with
   | none=>have:=hc.2;rw [e] at this;cases this
   | some g=>exact ⟨g,rfl⟩
  have hget:mGet (X.p i).q = (⟨none,(X.p i).q.l⟩,some g):=by unfold mGet;rw [hg]
  rw [hget]
  simp only [Option.getD_some]
  have hq:=Qs.setq (Y:=X.setP i { X.p i with q:=⟨none,(X.p i).q.l⟩ }) hil ⟨none,(X.p i).q.l⟩ (fun h=>h) rfl rfl rfl rfl rfl
  obtain ⟨R,r1,r2⟩:=all_p hil
  have r3:=r2 (X.setP i { X.p i with q:=⟨none,(X.p i).q.l⟩ }) _ rfl rfl
  have r4:X.all.Perm (g :: (X.setP i { X.p i with q:=⟨none,(X.p i).q.l⟩ }).all):=by
   refine r1.trans ?_
   have e1:(X.p i).l = g :: (X.p i).q.l:=by unfold Pm.l;rw [hg];rfl
   rw [e1]
   refine List.perm_middle.trans (List.Perm.cons g ?_)
   exact r3.symm
  have hml:m < (X.setP i { X.p i with q:=⟨none,(X.p i).q.l⟩ }).ms.length:=hm
  obtain ⟨S,s1,s2⟩:=setM_all hml { X.m m with G:=g }
  have hgr:g ≠ -1:=by
   obtain ⟨k,e,-⟩:=(h.mem g).1 (r4.mem_iff.2 (by simp));omega
  have e3:((X.setP i { X.p i with q:=⟨none,(X.p i).q.l⟩ }).m m).l = []:=hMl
  rw [e3,List.nil_append] at s1
  have hall:((X.setP i { X.p i with q:=⟨none,(X.p i).q.l⟩ }).setM m { X.m m with G:=g }).all.Perm X.all:=by
   refine s2.trans ?_
   have:Mm.l { X.m m with G:=g } = [g]:=by unfold Mm.l;rw [if_neg hgr]
   rw [this]
   exact (List.Perm.cons g s1.symm).trans r4.symm
  have hXm:=setM_all hm { X.m m with G:=g }
  have hpp:∀ j,((X.setP i { X.p i with q:=⟨none,(X.p i).q.l⟩ }).setM m { X.m m with G:=g }).p j = if i = j then { X.p i with q:=⟨none,(X.p i).q.l⟩ } else X.p j:=fun j=>setP_p hil _ j
  have hmm:∀ j,((X.setP i { X.p i with q:=⟨none,(X.p i).q.l⟩ }).setM m { X.m m with G:=g }).m j = if m = j then { X.m m with G:=g } else X.m j:=fun j=>setM_m hml _ j
  have hlp:((X.setP i { X.p i with q:=⟨none,(X.p i).q.l⟩ }).setM m { X.m m with G:=g }).ps.length = X.ps.length:=hq.len
  have hlm:((X.setP i { X.p i with q:=⟨none,(X.p i).q.l⟩ }).setM m { X.m m with G:=g }).ms.length = X.ms.length:=by unfold Sd.setM Sd.setP;simp
  have hb2:B ≤ B + 1:=by omega
  refine ⟨h.wf.mono hb2,by rw [hlp];exact h.np,by rw [hlm];exact h.nm,h.sl,Nat.le_trans h.st hb2,fun j hj=>?_,fun j=>?_,fun j=>?_,fun j=>?_,fun j hj=>?_,fun j hj hne=>?_,fun j=>?_,hall.nodup_iff.2 h.nd,fun x=>hall.mem_iff.trans (h.mem x)⟩
  ·rw [hlp] at hj;rw [hpp];split
   ·exact h.N i hil
   ·exact h.N j hj
  ·rw [hpp];split
   ·exact h.ll i
   ·exact h.ll j
  ·rw [hpp];split
   ·have:=h.tu i;simp only;omega
   ·have:=h.tu j;omega
  ·rw [hpp,hlm];split
   ·exact h.by_ i
   ·exact h.by_ j
  ·rw [hmm] at hj ⊢
   split at hj
   ·exact absurd hj hP
   ·rename_i e;rw [if_neg e];exact h.m0 j hj
  ·rw [hmm] at hne ⊢
   rw [hlm] at hj
   rw [hpp,hlp]
   have key:∀ (a:Nat) (b:Int),(X.p a).by_ = b → (if i = a then ({ X.p i with q:=⟨none,(X.p i).q.l⟩ }:Pm) else X.p a).by_ = b:=fun a b hab=>by
    split
    ·rename_i e;rw [← e] at hab;exact hab
    ·exact hab
   split
   ·rename_i e;subst e
    obtain ⟨a,b⟩:=h.m1 m hm hP
    exact ⟨a,key _ _ b⟩
   ·rename_i e
    rw [if_neg e] at hne
    obtain ⟨a,b⟩:=h.m1 j hj hne
    exact ⟨a,key _ _ b⟩
  ·rw [hmm];split
   ·have:=h.mL m
    exact ⟨this.1,this.2.1,fun _=>by have:=hc.1;simp only;omega⟩
   ·exact h.mL j
 ·obtain ⟨q,hq⟩:=qs_new hil hv
  have hms:(newTurnM X i v).1.ms = X.ms:=q.ms
  have hmX:(newTurnM X i v).1.m m = X.m m:=by unfold Sd.m;rw [hms]
  have hm1:m < (newTurnM X i v).1.ms.length:=by rw [hms];exact hm
  have hi1:i < (newTurnM X i v).1.ps.length:=by rw [q.len];exact hil
  rcases hq with ⟨k1,k2,k3⟩ | ⟨k1,k2⟩
  ·rw [if_pos k1]
   have h1:=h.qs q k3
   exact (h1.park hm1 hi1 (by rw [hmX];exact hi) (by rw [hmX];exact hG)).mono (by omega)
  ·rw [if_neg k1]
   simp only
   generalize (newTurnM X i v).2.2 = g at *
   generalize (newTurnM X i v).1 = Y at *
   have hgr:g ≠ -1:=by
    obtain ⟨k,e,-⟩:=(h.mem g).1 (k2.mem_iff.2 (by simp));omega
   have hml:m < (Y.setP i { Y.p i with tu:=(Y.p i).tu + 1 }).ms.length:=hm1
   obtain ⟨S,s1,s2⟩:=setM_all hml { X.m m with G:=g,L:=Y.sl }
   have e3:((Y.setP i { Y.p i with tu:=(Y.p i).tu + 1 }).m m).l = []:=by
    show Mm.l (Y.m m) = [];rw [hmX];exact hMl
   rw [e3,List.nil_append] at s1
   have hsp:=setP_same hi1 { Y.p i with tu:=(Y.p i).tu + 1 } rfl
   have hall:((Y.setP i { Y.p i with tu:=(Y.p i).tu + 1 }).setM m { X.m m with G:=g,L:=Y.sl }).all.Perm X.all:=by
    refine s2.trans ?_
    have:Mm.l { X.m m with G:=g,L:=Y.sl } = [g]:=by unfold Mm.l;rw [if_neg hgr]
    rw [this]
    exact (List.Perm.cons g (s1.symm.trans hsp)).trans k2.symm
   have hpp:∀ j,((Y.setP i { Y.p i with tu:=(Y.p i).tu + 1 }).setM m { X.m m with G:=g,L:=Y.sl }).p j = if i = j then { Y.p i with tu:=(Y.p i).tu + 1 } else Y.p j:=fun j=>setP_p hi1 _ j
   have hmm:∀ j,((Y.setP i { Y.p i with tu:=(Y.p i).tu + 1 }).setM m { X.m m with G:=g,L:=Y.sl }).m j = if m = j then { X.m m with G:=g,L:=Y.sl } else Y.m j:=fun j=>setM_m hml _ j
   have hlp:((Y.setP i { Y.p i with tu:=(Y.p i).tu + 1 }).setM m { X.m m with G:=g,L:=Y.sl }).ps.length = X.ps.length:=by rw [← q.len];unfold Sd.setM Sd.setP;simp
   have hlm:((Y.setP i { Y.p i with tu:=(Y.p i).tu + 1 }).setM m { X.m m with G:=g,L:=Y.sl }).ms.length = X.ms.length:=by rw [← hms];unfold Sd.setM Sd.setP;simp
   have hYm:∀ j,Y.m j = X.m j:=fun j=>by unfold Sd.m;rw [hms]
   rw [hmX]
   have hW:((Y.setP i { Y.p i with tu:=(Y.p i).tu + 1 }).setM m { X.m m with G:=g,L:=Y.sl }).W = X.W:=q.W
   refine ⟨by rw [hW];exact h.wf.mono (by omega),by rw [hlp];exact h.np,by rw [hlm];exact h.nm,by show 1 ≤ Y.sl ∧ Y.sl ≤ 1024;rw [q.sl];exact h.sl,by show Y.st ≤ B + 1;rw [q.st];have:=h.st;omega,fun j hj=>?_,fun j=>?_,fun j=>?_,fun j=>?_,fun j hj=>?_,fun j hj hne=>?_,fun j=>?_,hall.nodup_iff.2 h.nd,fun x=>by rw [hall.mem_iff,hW];exact h.mem x⟩
   ·rw [hlp] at hj;rw [hpp];split
    ·show 1 ≤ (Y.p i).N ∧ _;rw [(q.p i).2.1];exact h.N i hil
    ·rw [(q.p j).2.1];exact h.N j hj
   ·rw [hpp];split
    ·exact q.ll h.ll i
    ·exact q.ll h.ll j
   ·rw [hpp];split
    ·show (Y.p i).tu + 1 ≤ B + 1;rw [(q.p i).2.2];have:=h.tu i;omega
    ·rw [(q.p j).2.2];have:=h.tu j;omega
   ·rw [hpp,hlm];split
    ·show -1 ≤ (Y.p i).by_ ∧ _;rw [(q.p i).1];exact h.by_ i
    ·rw [(q.p j).1];exact h.by_ j
   ·rw [hmm] at hj ⊢
    split at hj
    ·exact absurd hj hP
    ·rename_i e;rw [if_neg e,hYm];rw [hYm] at hj;exact h.m0 j hj
   ·rw [hmm] at hne ⊢
    rw [hlm] at hj
    rw [hpp,hlp]
    have key:∀ (a:Nat) (b:Int),(X.p a).by_ = b → (if i = a then ({ Y.p i with tu:=(Y.p i).tu + 1 }:Pm) else Y.p a).by_ = b:=fun a b hab=>by
     split
     ·rename_i e;rw [← e] at hab;show (Y.p i).by_ = b;rw [(q.p i).1];exact hab
     ·rw [(q.p a).1];exact hab
    split
    ·rename_i e;subst e
     obtain ⟨a,b⟩:=h.m1 m hm hP
     exact ⟨a,key _ _ b⟩
    ·rename_i e
     rw [if_neg e,hYm] at hne
     rw [hYm]
     obtain ⟨a,b⟩:=h.m1 j hj hne
     exact ⟨a,key _ _ b⟩
   ·rw [hmm];split
    ·have h2:=h.sl
     show 0 ≤ Y.sl ∧ Y.sl ≤ 1024 ∧ (_ → 1 ≤ Y.sl)
     rw [q.sl];exact ⟨by omega,by omega,fun _=>by omega⟩
    ·rw [hYm];exact h.mL j
theorem perm_in2 {a b c:List Int}:(a ++ (b ++ c)).Perm (b ++ (a ++ c)):=by
 rw [← List.append_assoc,← List.append_assoc];exact List.perm_append_comm.append_right c
theorem SdWF.run {B:Nat} {X:Sd} (h:SdWF B X) (hB:B ≤ 80000) {m:Nat} (hm:m < X.ms.length) (hP:(X.m m).P ≠ -1) (hG:(X.m m).G ≠ -1) (hen:X.W.en = 0) (d:Int):SdWF (B + X.W.ks.length + 1) (runM X m d).1:=by
 obtain ⟨i,hi,hil,hby⟩:=h.at hm hP
 obtain ⟨k,hk,hks,hkl⟩:=h.lets hm hG
 have hlets:X.W.lets (k:Int):=⟨hen,by omega,by omega,by simpa using hks⟩
 have hB2:B ≤ B + X.W.ks.length + 1:=by omega
 have hwf:=(h.wf.exec hB (k:Int) d).1
 obtain ⟨rd,hkeep⟩:=rd_exec h.wf hB hlets d
 unfold runM
 simp only
 have hk2:(X.m m).G.toNat = k:=by rw [hk,Int.toNat_natCast]
 have hi2:(X.m m).P.toNat = i:=by rw [hi,Int.toNat_natCast]
 rw [hk2,hi2]
 rw [← hk] at hwf rd hkeep
 obtain ⟨e,he⟩:∃ e,e = execM X.W (X.m m).G d:=⟨_,rfl⟩
 rw [← he] at hwf rd hkeep ⊢
 have hil2:i < ({ X with W:=e.1 }:Sd).ps.length:=hil
 obtain ⟨q,hq⟩:=qs_ready e.2.2 { X with W:=e.1 } i hil2
 have hall0:({ X with W:=e.1 }:Sd).all = X.all:=rfl
 rw [hall0] at hq
 obtain ⟨Y,hY⟩:∃ Y,Y = readyA { X with W:=e.1 } i e.2.2:=⟨_,rfl⟩
 rw [← hY] at q hq ⊢
 have hYW:Y.W = e.1:=q.W
 have hYm:∀ j,Y.m j = X.m j:=fun j=>by unfold Sd.m;rw [q.ms]
 have hYml:Y.ms.length = X.ms.length:=by rw [q.ms]
 have hYpl:Y.ps.length = X.ps.length:=q.len
 have hkin:(k:Int) ∈ X.all:=by
  obtain ⟨R,r1,-⟩:=all_m hm
  exact r1.mem_iff.2 (by unfold Mm.l;rw [if_neg hG,hk];simp)
 have hndY:Y.all.Nodup:=by
  refine hq.nodup_iff.2 ?_
  rw [List.nodup_append]
  refine ⟨rd.nd,h.nd,fun a ha b hb e2=>?_⟩
  subst e2
  obtain ⟨j,rfl,-,c,-⟩:=rd.st a ha
  obtain ⟨j',e3,c'⟩:=(h.mem _).1 hb
  have:j = j':=by omega
  subst this;exact c c'
 have hkn:(k:Int) ∉ e.2.2:=fun hc=>by
  obtain ⟨j,e3,c,-⟩:=rd.st _ hc
  exact c (by omega)
 have hmemY:∀ x,x ∈ Y.all ↔ x = (k:Int) ∨ ∃ j:Nat,x = (j:Int) ∧ j ≠ k ∧ (e.1.g j).st = 1:=fun x=>by
  rw [hq.mem_iff,List.mem_append]
  constructor
  ·rintro (hx | hx)
   ·obtain ⟨j,e3,c,-,c2⟩:=rd.st x hx
    exact .inr ⟨j,e3,c,c2⟩
   ·obtain ⟨j,e3,c⟩:=(h.mem x).1 hx
    by_cases hjk:j = k
    ·exact .inl (by rw [e3,hjk])
    ·by_cases hin:(j:Int) ∈ e.2.2
     ·obtain ⟨j2,e4,c3,-,c4⟩:=rd.st _ hin
      have:j = j2:=by omega
      subst this;exact .inr ⟨j,e3,hjk,c4⟩
     ·exact .inr ⟨j,e3,hjk,(rd.oth j hjk hin).2 c⟩
  ·rintro (hx | ⟨j,e3,c,c2⟩)
   ·exact .inr (by rw [hx];exact hkin)
   ·by_cases hin:(j:Int) ∈ e.2.2
    ·exact .inl (by rw [e3];exact hin)
    ·exact .inr ((h.mem x).2 ⟨j,e3,(rd.oth j c hin).1 c2⟩)
 have base:∀ (M:Mm) (gl':List Int),M.P = (X.m m).P → (0 ≤ M.L ∧ M.L ≤ 1024 ∧ (M.G ≠ -1 → 1 ≤ M.L)) → ({ Y.setM m M with gl:=gl' }:Sd).all.Nodup → (∀ x,x ∈ ({ Y.setM m M with gl:=gl' }:Sd).all ↔ ∃ j:Nat,x = (j:Int) ∧ (e.1.g j).st = 1) → SdWF (B + X.W.ks.length + 1) { Y.setM m M with gl:=gl' }:=fun M gl' eP hL hnd hmem=>by
  have hm1:m < Y.ms.length:=by rw [hYml];exact hm
  have hmm:∀ j,({ Y.setM m M with gl:=gl' }:Sd).m j = if m = j then M else X.m j:=fun j=>by
   have:=setM_m hm1 M j
   rw [hYm] at this;exact this
  have hlm:({ Y.setM m M with gl:=gl' }:Sd).ms.length = X.ms.length:=by rw [← hYml];unfold Sd.setM;simp
  refine ⟨by show WF _ Y.W;rw [hYW];exact hwf,by show 1 ≤ Y.ps.length ∧ Y.ps.length ≤ 64;rw [hYpl];exact h.np,by rw [hlm];exact h.nm,by show 1 ≤ Y.sl ∧ Y.sl ≤ 1024;rw [q.sl];exact h.sl,by show Y.st ≤ _;rw [q.st];show X.st ≤ _;have:=h.st;omega,
   fun j hj=>by show 1 ≤ (Y.p j).N ∧ (Y.p j).N ≤ 1024;rw [(q.p j).2.1];exact h.N j (by rw [← hYpl];exact hj),fun j=>q.ll h.ll j,fun j=>by show (Y.p j).tu ≤ _;rw [(q.p j).2.2];exact Nat.le_trans (h.tu j) hB2,fun j=>by rw [hlm];show -1 ≤ (Y.p j).by_ ∧ (Y.p j).by_ < _;rw [(q.p j).1];exact h.by_ j,
   fun j hj=>?_,fun j hj hne=>?_,fun j=>?_,hnd,fun x=>by rw [hmem];show _ ↔ ∃ k:Nat,x = (k:Int) ∧ (Y.W.g k).st = 1;rw [hYW]⟩
  ·rw [hmm] at hj ⊢
   split at hj
   ·rw [eP] at hj;exact absurd hj hP
   ·rename_i e;rw [if_neg e];exact h.m0 j hj
  ·rw [hmm] at hne ⊢
   rw [hlm] at hj
   have key:∀ (a:Nat),(Y.p a).by_ = (X.p a).by_:=fun a=>(q.p a).1
   split
   ·rename_i e;subst e
    rw [eP]
    obtain ⟨a,b⟩:=h.m1 m hm hP
    exact ⟨by show 0 ≤ (X.m m).P ∧ (X.m m).P < (Y.ps.length:Int);rw [hYpl];exact a,by show (Y.p _).by_ = _;rw [key];exact b⟩
   ·rename_i e
    rw [if_neg e] at hne
    obtain ⟨a,b⟩:=h.m1 j hj hne
    exact ⟨by show 0 ≤ (X.m j).P ∧ (X.m j).P < (Y.ps.length:Int);rw [hYpl];exact a,by show (Y.p _).by_ = _;rw [key];exact b⟩
  ·rw [hmm];split
   ·exact hL
   ·exact h.mL j
 have hmL:=h.mL m
 have hLpos:=hmL.2.2 hG
 have hm1:m < Y.ms.length:=by rw [hYml];exact hm
 rw [hYm]
 split
 ·rename_i hc
  obtain ⟨c1,c2⟩:=hkeep hc.1
  have hsame:(Y.setM m { X.m m with L:=(X.m m).L - 1 }).all.Perm Y.all:=setM_same hm1 _ (by rw [hYm];rfl)
  refine base { X.m m with L:=(X.m m).L - 1 } Y.gl rfl ⟨by have:=hc.2;simp only;omega,by simp only;omega,fun _=>by have:=hc.2;simp only;omega⟩ (hsame.nodup_iff.2 hndY) (fun x=>?_)
  refine hsame.mem_iff.trans ((hmemY x).trans ?_)
  constructor
  ·rintro (rfl | ⟨j,e3,-,c⟩)
   ·exact ⟨k,rfl,c1⟩
   ·exact ⟨j,e3,c⟩
  ·rintro ⟨j,e3,c⟩
   by_cases hjk:j = k
   ·exact .inl (by rw [e3,hjk])
   ·exact .inr ⟨j,e3,hjk,c⟩
 ·obtain ⟨R,r1,r2⟩:=setM_all hm1 { X.m m with G:=-1,L:=(X.m m).L - 1 }
  have eM:(Y.m m).l = [(k:Int)]:=by rw [hYm];unfold Mm.l;rw [if_neg hG,hk]
  have eM2:Mm.l { X.m m with G:=-1,L:=(X.m m).L - 1 } = []:=by unfold Mm.l;rw [if_pos rfl]
  rw [eM] at r1
  rw [eM2,List.nil_append] at r2
  have hperm:Y.all.Perm ((k:Int) :: (Y.setM m { X.m m with G:=-1,L:=(X.m m).L - 1 }).all):=r1.trans (List.Perm.cons _ r2.symm)
  have hnd1:=hperm.nodup_iff.1 hndY
  rw [List.nodup_cons] at hnd1
  have hmem1:∀ x,x ∈ (Y.setM m { X.m m with G:=-1,L:=(X.m m).L - 1 }).all ↔ ∃ j:Nat,x = (j:Int) ∧ j ≠ k ∧ (e.1.g j).st = 1:=fun x=>by
   constructor
   ·intro hx
    rcases (hmemY x).1 (hperm.mem_iff.2 (by simp [hx])) with rfl | hh
    ·exact absurd hx hnd1.1
    ·exact hh
   ·rintro ⟨j,e3,c,c2⟩
    have:=hperm.mem_iff.1 ((hmemY x).2 (.inr ⟨j,e3,c,c2⟩))
    rcases List.mem_cons.1 this with h5 | h5
    ·exact absurd (by omega) c
    ·exact h5
  have hL2:0 ≤ (X.m m).L - 1 ∧ (X.m m).L - 1 ≤ 1024 ∧ ((-1:Int) ≠ -1 → 1 ≤ (X.m m).L - 1):=⟨by omega,by omega,fun hc=>absurd rfl hc⟩
  rw [show (Y.W.g k).st = (e.1.g k).st by rw [hYW]]
  by_cases hst:(e.1.g k).st = 1
  ·rw [if_pos hst,show [(X.m m).G] = [(k:Int)] by rw [hk]]
   have hp2:({ Y.setM m { X.m m with G:=-1,L:=(X.m m).L - 1 } with gl:=Y.gl ++ [(k:Int)] }:Sd).all.Perm ((k:Int) :: (Y.setM m { X.m m with G:=-1,L:=(X.m m).L - 1 }).all):=by
    unfold Sd.all
    show ((Y.gl ++ [(k:Int)]) ++ _).Perm ((k:Int) :: (Y.gl ++ _))
    rw [List.append_assoc]
    exact List.perm_middle
   refine base { X.m m with G:=-1,L:=(X.m m).L - 1 } (Y.gl ++ [(k:Int)]) rfl hL2 (hp2.nodup_iff.2 (List.nodup_cons.2 hnd1)) (fun x=>?_)
   rw [hp2.mem_iff,List.mem_cons,hmem1]
   constructor
   ·rintro (rfl | ⟨j,e3,-,c⟩)
    ·exact ⟨k,rfl,hst⟩
    ·exact ⟨j,e3,c⟩
   ·rintro ⟨j,e3,c⟩
    by_cases hjk:j = k
    ·exact .inl (by rw [e3,hjk])
    ·exact .inr ⟨j,e3,hjk,c⟩
  ·rw [if_neg hst]
   refine base { X.m m with G:=-1,L:=(X.m m).L - 1 } Y.gl rfl hL2 hnd1.2 (fun x=>?_)
   refine (hmem1 x).trans ?_
   constructor
   ·rintro ⟨j,e3,-,c⟩;exact ⟨j,e3,c⟩
   ·rintro ⟨j,e3,c⟩
    exact ⟨j,e3,fun hjk=>hst (by rw [← hjk];exact c),c⟩
theorem SdWF.clock {B:Nat} {X:Sd} (h:SdWF B X):SdWF (B + 1) (clockM X).1:=by
 have tk:=tk_tick h.wf
 have hwf:=h.wf.tick.1
 have hp:(clockM X).1.all.Perm ((tickM X.W).2 ++ X.all):=by
  unfold Sd.all clockM
  show ((X.gl ++ (tickM X.W).2) ++ _).Perm _
  rw [List.append_assoc]
  exact perm_in2
 have hb2:B ≤ B + 1:=by omega
 refine ⟨hwf,h.np,h.nm,h.sl,Nat.le_trans h.st hb2,h.N,h.ll,fun j=>Nat.le_trans (h.tu j) hb2,h.by_,h.m0,h.m1,h.mL,hp.nodup_iff.2 ?_,fun x=>?_⟩
 ·rw [List.nodup_append]
  refine ⟨tk.nd,h.nd,fun a ha b hb e=>?_⟩
  subst e
  obtain ⟨j,rfl,c,-⟩:=tk.st a ha
  obtain ⟨j',e3,c'⟩:=(h.mem _).1 hb
  have:j = j':=by omega
  subst this;exact c c'
 ·rw [hp.mem_iff,List.mem_append]
  show _ ↔ ∃ k:Nat,x = (k:Int) ∧ ((tickM X.W).1.g k).st = 1
  constructor
  ·rintro (hx | hx)
   ·obtain ⟨j,e3,-,c⟩:=tk.st x hx
    exact ⟨j,e3,c⟩
   ·obtain ⟨j,e3,c⟩:=(h.mem x).1 hx
    by_cases hin:(j:Int) ∈ (tickM X.W).2
    ·obtain ⟨j2,e4,-,c4⟩:=tk.st _ hin
     have:j = j2:=by omega
     subst this;exact ⟨j,e3,c4⟩
    ·exact ⟨j,e3,by rw [tk.oth j hin];exact c⟩
  ·rintro ⟨j,e3,c⟩
   by_cases hin:(j:Int) ∈ (tickM X.W).2
   ·exact .inl (by rw [e3];exact hin)
   ·exact .inr ((h.mem x).2 ⟨j,e3,by rw [← tk.oth j hin];exact c⟩)
theorem SdWF.step {B:Nat} {X:Sd} (h:SdWF B X) (hB:B ≤ 80000) {m:Nat} (hm:m ≤ X.ms.length) (hen:X.W.en = 0) {d:Int} (hd:∀ k n,asks2 X m = some (k,n) → 0 ≤ d ∧ d < n):SdWF (B + X.W.ks.length + 1) (stepM X m d).1:=by
 have key:∀ {C:Nat} {Y:Sd},SdWF C Y → C ≤ B + X.W.ks.length + 1 → SdWF (B + X.W.ks.length + 1) { Y with st:=X.st + 1 }:=fun h1 h2=>(h1.mono h2).stp (by have:=h.st;omega)
 unfold stepM pickedM
 split
 ·exact key h.clock (by omega)
 ·rename_i hne
  have hml:m < X.ms.length:=by omega
  split
  ·rename_i hP;exact key (h.hold hml hP) (by omega)
  ·rename_i hP
   split
   ·rename_i hG
    obtain ⟨i,hi,hil,-⟩:=h.at hml hP
    by_cases ha:∃ k n,asks2 X m = some (k,n)
    ·obtain ⟨k,n,ha⟩:=ha
     have hd2:=hd k n ha
     unfold asks2 at ha
     rw [if_neg hne,if_neg hP,if_pos hG] at ha
     split at ha
     ·cases ha
     ·split at ha
      ·cases ha
       exact key (h.look hml hP hG (by omega)) (by omega)
      ·cases ha
    ·-- nothing is drawn: whatever d is,it isn't looked at
     have h0:(lookM X m d.toNat) = (lookM X m 0):=by
      have ha2:asks2 X m = none:=by
       cases e:asks2 X m with
       | none=>rfl
       | some kn=>exact absurd ⟨kn.1,kn.2,e⟩ ha
      unfold asks2 at ha2
      rw [if_neg hne,if_neg hP,if_pos hG] at ha2
      unfold lookM
      simp only
      split at ha2
      ·rename_i hc;rw [if_pos hc,if_pos hc]
      ·rename_i hc
       rw [if_neg hc,if_neg hc]
       split at ha2
       ·cases ha2
       ·rename_i hv
        have:newTurnM X (X.m m).P.toNat d.toNat = newTurnM X (X.m m).P.toNat 0:=by
         unfold newTurnM
         simp only
         unfold asksV at hv
         cases hn:(nearM (turnM X (X.m m).P.toNat) (X.m m).P.toNat).2 with
         | some g=>rfl
         | none =>
          rw [hn] at hv
          simp only [Option.isNone_none,Bool.true_and,decide_eq_true_eq] at hv
          simp only
          rw [if_neg (fun hh=>hv hh.1),if_neg (fun hh=>hv hh.1)]
        rw [this]
     rw [h0]
     exact key (h.look hml hP hG (by have:=h.np;omega)) (by omega)
   ·rename_i hG
    exact key (h.run hB hml hP hG hen d) (by omega)
def newSd (W:Wd) (np nm:Nat) (ring sl:Int):Sd :=
 { W:=W,ps:=List.replicate np ⟨roomOf ring,⟨none,[]⟩,0,-1⟩,ms:=List.replicate nm ⟨-1,-1,0⟩,gl:=[0],sl:=sl,st:=0 }
theorem getD_rep {α:Type} (n:Nat) (a d:α) (i:Nat):(List.replicate n a).getD i d = if i < n then a else d:=by
 rw [List.getD_eq_getElem?_getD,List.getElem?_replicate];split <;> rfl
theorem newSd_wf {fs:List (List In4)} {ks:List Cs3} {rooms:List Int} {locks:Nat} (hp:PW fs ks rooms.length locks) {np nm:Nat} {ring sl:Int} (h1:1 ≤ np ∧ np ≤ 64) (h2:1 ≤ nm ∧ nm ≤ 64) (h3:1 ≤ sl ∧ sl ≤ 1024):SdWF 0 (newSd (newM fs ks rooms locks) np nm ring sl):=by
 have ep:∀ j,(newSd (newM fs ks rooms locks) np nm ring sl).p j = if j < np then ⟨roomOf ring,⟨none,[]⟩,0,-1⟩ else default:=fun j=>getD_rep _ _ _ _
 have em:∀ j,(newSd (newM fs ks rooms locks) np nm ring sl).m j = ⟨-1,-1,0⟩:=fun j=>by
  show (List.replicate nm _).getD j _ = _
  rw [getD_rep];split <;> rfl
 have hall:(newSd (newM fs ks rooms locks) np nm ring sl).all = [0]:=by
  unfold Sd.all newSd
  have e1:(List.replicate np (⟨roomOf ring,⟨none,[]⟩,0,-1⟩:Pm)).flatMap Pm.l = []:=by
   rw [List.flatMap_eq_nil_iff];intro x hx;rw [(List.mem_replicate.1 hx).2];rfl
  have e2:(List.replicate nm (⟨-1,-1,0⟩:Mm)).flatMap Mm.l = []:=by
   rw [List.flatMap_eq_nil_iff];intro x hx;rw [(List.mem_replicate.1 hx).2];rfl
  simp only
  rw [e1,e2];rfl
 have hr:=roomOf_le ring
 refine ⟨newM_wf hp,by simpa [newSd] using h1,by simpa [newSd] using h2,h3,by simp [newSd],fun j hj=>?_,fun j=>?_,fun j=>?_,fun j=>?_,fun j _=>by rw [em];exact ⟨rfl,rfl⟩,fun j _ hne=>by rw [em] at hne;exact absurd rfl hne,fun j=>by rw [em];exact ⟨by decide,by decide,fun hc=>absurd rfl hc⟩,by rw [hall];simp,fun x=>?_⟩
 ·have hj':j < np:=by simpa [newSd] using hj
  rw [ep,if_pos hj'];exact hr
 ·rw [ep];split <;> simp [default]
 ·rw [ep];split <;> simp [default]
 ·rw [ep]
  have:1 ≤ (newSd (newM fs ks rooms locks) np nm ring sl).ms.length:=by simp [newSd];omega
  split
  ·simp only;omega
  ·show -1 ≤ (-1:Int) ∧ (-1:Int) < _;omega
 ·rw [hall,List.mem_singleton]
  show _ ↔ ∃ k:Nat,x = (k:Int) ∧ ((newM fs ks rooms locks).g k).st = 1
  constructor
  ·rintro rfl;exact ⟨0,rfl,rfl⟩
  ·rintro ⟨k,rfl,hk⟩
   cases k with
   | zero=>rfl
   | succ k=>rw [g_out (by show ¬ k + 1 < 1;omega)] at hk;exact absurd hk (by decide)
theorem readyA_W:∀ (l:List Int) (X:Sd) (i:Nat),(readyA X i l).W = X.W
 | [],X,i=>rfl
 | g :: t,X,i=>readyA_W t _ i
theorem nearM_W (X:Sd) (i:Nat):(nearM X i).1.W = X.W:=by
 unfold nearM
 split
 ·rfl
 ·split <;> rfl
theorem newTurnM_W (X:Sd) (i v:Nat):(newTurnM X i v).1.W = X.W:=by
 have h:(nearM (turnM X i) i).1.W = X.W:=nearM_W _ _
 unfold newTurnM
 simp only
 split
 ·exact h
 ·split
  ·split <;> exact h
  ·exact h
theorem lookM_W (X:Sd) (m v:Nat):(lookM X m v).1.W = X.W:=by
 unfold lookM
 simp only
 split
 ·rfl
 ·split <;> exact newTurnM_W _ _ _
theorem holdM_W (X:Sd) (m:Nat):(holdM X m).1.W = X.W:=by
 unfold holdM
 split <;> rfl
theorem runM_W (X:Sd) (m:Nat) (v:Int):(runM X m v).1.W = (execM X.W (X.m m).G v).1:=by
 have h:=readyA_W (execM X.W (X.m m).G v).2.2 { X with W:=(execM X.W (X.m m).G v).1 } (X.m m).P.toNat
 unfold runM
 simp only
 split <;> exact h
theorem stepM_W (X:Sd) (m:Nat) (v:Int):(stepM X m v).1.W = X.W ∨ (stepM X m v).1.W = (tickM X.W).1 ∨ (m ≠ X.ms.length ∧ (X.m m).G ≠ -1 ∧ (stepM X m v).1.W = (execM X.W (X.m m).G v).1):=by
 unfold stepM pickedM
 split
 ·exact .inr (.inl rfl)
 ·rename_i hm
  split
  ·exact .inl (holdM_W X m)
  ·split
   ·exact .inl (lookM_W X m _)
   ·rename_i hG
    exact .inr (.inr ⟨hm,hG,runM_W X m v⟩)
def Pick1 (Y:Sd) (m:Nat) (v:Int):Prop:=overM Y = 0 ∧ m ≤ Y.ms.length ∧ ∀ kd n,asks2 Y m = some (kd,n) → 0 ≤ v ∧ v < n
inductive Rch (X:Sd):Nat → Sd → Prop
 | here:Rch X 0 X
 | step {k:Nat} {Y:Sd} {m:Nat} {v:Int}:Rch X k Y → Pick1 Y m v → Rch X (k + 1) (stepM Y m v).1
theorem over_en {X:Sd} (h:overM X = 0) (h2:X.W.en = 0 ∨ X.W.en = 1 ∨ X.W.en = 2):X.W.en = 0:=by
 unfold overM at h
 rcases h2 with e | e | e
 ·exact e
 ·rw [if_pos e] at h;cases h
 ·rw [if_neg (by omega),if_pos e] at h;cases h
theorem Rch.keeps {X Y:Sd} {k:Nat} (h:Rch X k Y) (P:Wd → Prop) (hks:∀ W,P W → W.ks = [] ∧ (W.en = 0 ∨ W.en = 1 ∨ W.en = 2)) (ht:∀ W,P W → W.en = 0 → P (tickM W).1)
  (he:∀ B W g d,P W → WF B W → W.en = 0 → g < W.gs.length → (W.g g).st = 1 → P (execM W (g:Int) d).1) (hX:P X.W) (wf:SdWF 0 X) (hk:k ≤ 70000):P Y.W ∧ SdWF k Y:=by
 induction h with
 | here=>exact ⟨hX,wf⟩
 | step h0 hp ih =>
  rename_i k Y m v
  obtain ⟨h1,h2⟩:=ih (by omega)
  obtain ⟨k1,k2⟩:=hks _ h1
  have hen:=over_en hp.1 k2
  have h3:=h2.step (by omega) hp.2.1 hen (d:=v) hp.2.2
  rw [k1] at h3
  refine ⟨?_,h3⟩
  rcases stepM_W Y m v with e | e | ⟨hm,hG,e⟩
  ·rw [e];exact h1
  ·rw [e];exact ht _ h1 hen
  ·rw [e]
   have hml:m < Y.ms.length:=by have:=hp.2.1;omega
   obtain ⟨g,hg,hst,hgl⟩:=h2.lets hml hG
   rw [hg]
   exact he _ _ g v h1 h2.wf hen hgl hst
def fl (q h:Nat → List Int):Nat → List Int
 | 0=>q 0
 | n + 1=>q (n + 1) ++ (h n ++ fl q h n)
theorem fl_congr {q h q' h':Nat → List Int}:∀ (n:Nat),(∀ i,i ≤ n → q' i = q i) → (∀ j,j < n → h' j = h j) → fl q' h' n = fl q h n
 | 0,hq,_=>hq 0 (Nat.le_refl 0)
 | n + 1,hq,hh=>by
  unfold fl
  rw [hq (n + 1) (Nat.le_refl _),hh n (Nat.lt_succ_self n),fl_congr n (fun i hi=>hq i (by omega)) (fun j hj=>hh j (by omega))]
theorem fl_last {q h q':Nat → List Int} (n:Nat) (y:Int) (h1:q n = y :: q' n) (h2:∀ i,i < n → q' i = q i):fl q h n = y :: fl q' h n:=by
 cases n with
 | zero=>exact h1
 | succ n =>
  unfold fl
  rw [h1,fl_congr (q:=q) (q':=q') (h:=h) (h':=h) n (fun i hi=>h2 i (by omega)) (fun _ _=>rfl)]
  rfl
theorem fl_first {q h q':Nat → List Int} (v:Int) (h1:q' 0 = q 0 ++ [v]) (h2:∀ i,i ≠ 0 → q' i = q i):∀ n,fl q' h n = fl q h n ++ [v]
 | 0=>h1
 | n + 1=>by
  unfold fl
  rw [h2 (n + 1) (by omega),fl_first v h1 h2 n]
  simp
theorem fl_take {q h q' h':Nat → List Int} (j:Nat) (y:Int) (h1:q j = y :: q' j) (h2:∀ i,i ≠ j → q' i = q i) (h3:h j = []) (h4:h' j = [y]) (h5:∀ i,i ≠ j → h' i = h i):∀ n,j < n → fl q' h' n = fl q h n
 | n + 1,hn=>by
  unfold fl
  rcases Nat.lt_or_ge j n with hj | hj
  ·rw [h2 (n + 1) (by omega),h5 n (by omega),fl_take j y h1 h2 h3 h4 h5 n hj]
  ·obtain rfl:j = n:=by omega
   rw [h2 (j + 1) (by omega),h4,h3,fl_last j y h1 (fun i hi=>h2 i (by omega)),fl_congr (q:=q') (q':=q') (h:=h') (h':=h) j (fun _ _=>rfl) (fun i hi=>(h5 i (by omega)).symm)]
   rfl
theorem fl_give {q h q' h':Nat → List Int} (j:Nat) (v:Int) (h1:q' (j + 1) = q (j + 1) ++ [v]) (h2:∀ i,i ≠ j + 1 → q' i = q i) (h3:h j = [v]) (h4:h' j = []) (h5:∀ i,i ≠ j → h' i = h i):∀ n,j < n → fl q' h' n = fl q h n
 | n + 1,hn=>by
  unfold fl
  rcases Nat.lt_or_ge j n with hj | hj
  ·rw [h2 (n + 1) (by omega),h5 n (by omega),fl_give j v h1 h2 h3 h4 h5 n hj]
  ·obtain rfl:j = n:=by omega
   rw [h1,h4,h3,fl_congr (q:=q) (q':=q') (h:=h) (h':=h') j (fun i hi=>h2 i (by omega)) (fun i hi=>h5 i (by omega))]
   simp
def widx (S i:Nat):Nat:=if i = 0 then S else i - 1
def qf (Cs:List Ch) (i:Nat):List Int:=match Cs[i]? with
 | some C=>C.buf ++ C.S.map (·.2.2)
 | none=>[]
def hf (cs:List Pg) (j:Nat):List Int:=match cs[j]? with
 | some x=>if x.p = 1 ∧ x.s = 1 then [x.v] else []
 | none=>[]
def rW (A:Pa) (cs:List Pg) (S i:Nat):List Wt:=if i = S then (if A.s = 2 then [(0,0,0)] else []) else match cs[i]? with
 | some x=>if x.p = 1 ∧ x.s = 2 then [(((i + 1:Nat):Int),0,0)] else []
 | none=>[]
def sW (cs:List Pg) (S i:Nat):List Wt:=match cs[widx S i]? with
 | some x=>if x.s = 2 ∧ (i = 0 ∨ x.p = 2) then [(((widx S i + 1:Nat):Int),0,x.v)] else []
 | none=>[]
def hmA (A:Pa) (S:Nat):List Int:=if A.k = S + 2 ∧ A.s = 1 then [A.x] else []
def vals:Nat → List Int
 | 0=>[]
 | n + 1=>vals n ++ [((10 + n:Nat):Int)]
def restF (cs:List Pg) (S m:Nat):List Int:=match cs[S]? with
 | some x=>(vals m).drop (x.p / 2)
 | none=>vals m
def StOk (x:Pg):Prop:=(x.p = 0 ∧ x.s = 1) ∨ (x.p = 1 ∧ x.s = 1) ∨ (x.p = 1 ∧ x.s = 2) ∨ (x.p = 2 ∧ x.s = 1) ∨ (x.p = 2 ∧ x.s = 2)
def FdOk (m:Nat) (x:Pg):Prop:=(x.s = 1 ∧ x.p ≤ 2 * m ∧ (x.p % 2 = 1 → x.v = ((10 + x.p / 2:Nat):Int))) ∨ (x.s = 2 ∧ x.p % 2 = 0 ∧ 2 ≤ x.p ∧ x.p ≤ 2 * m) ∨ (x.s = 4 ∧ x.p = 2 * m + 1)
def PaOk (S:Nat) (A:Pa):Prop:=(A.k ≤ S + 1 ∧ A.s = 1) ∨ (A.k = S + 2 ∧ A.s = 1) ∨ (A.k = S + 2 ∧ A.s = 2) ∨ (A.k = S + 3 ∧ A.s = 1)
structure PpI (S m N:Nat) (W:Wd) (A:Pa) (cs:List Pg) (Cs:List Ch) (out:List Int) (ck:Nat):Prop where
 e:W = ppW S m N A cs Cs out ck
 hC:Cs.length = S + 1
 hn:cs.length = min A.k (S + 1)
 hA:PaOk S A
 hx:∀ (j:Nat) (x:Pg),cs[j]? = some x → j < S → StOk x
 hFd:∀ (x:Pg),cs[S]? = some x → FdOk m x
 cl:∀ (i:Nat) (C:Ch),Cs[i]? = some C → C.cl = false
 hR:∀ (i:Nat) (C:Ch),Cs[i]? = some C → C.R = rW A cs S i
 hS:∀ (i:Nat) (C:Ch),Cs[i]? = some C → C.S = sW cs S i
 em:∀ (i:Nat) (C:Ch),Cs[i]? = some C → C.R ≠ [] → C.buf = [] ∧ C.S = []
 hFl:out ++ (hmA A S ++ (fl (qf Cs) (hf cs) S ++ restF cs S m)) = vals m
def PpFit (S m N:Nat) (W:Wd):Prop:=∃ A cs Cs out ck,PpI S m N W A cs Cs out ck
theorem vals_len:∀ n,(vals n).length = n
 | 0=>rfl
 | n + 1=>by unfold vals;rw [List.length_append,vals_len n];rfl
theorem vals_at:∀ (n i:Nat),i < n → (vals n)[i]? = some ((10 + i:Nat):Int)
 | 0,i,h=>absurd h (by omega)
 | n + 1,i,h=>by
  unfold vals
  rcases Nat.lt_or_ge i n with h1 | h1
  ·rw [List.getElem?_append_left (by rw [vals_len];exact h1)];exact vals_at n i h1
  ·obtain rfl:i = n:=by omega
   rw [List.getElem?_append_right (by rw [vals_len];omega),vals_len,Nat.sub_self];rfl
theorem vals_drop {n i:Nat} (h:i < n):(vals n).drop i = ((10 + i:Nat):Int) :: (vals n).drop (i + 1):=by
 have h1:=vals_at n i h
 have hl:=(List.getElem?_eq_some_iff.1 h1).1
 rw [List.drop_eq_getElem_cons hl,(List.getElem?_eq_some_iff.1 h1).2]
theorem p_get_set {α:Type} {l:List α} {c e:Nat} {x y:α} (h:(l.set c y)[e]? = some x):(e = c ∧ x = y) ∨ (e ≠ c ∧ l[e]? = some x):=by
 rw [List.getElem?_set] at h
 split at h
 ·rename_i q
  split at h
  ·exact .inl ⟨q.symm,(Option.some.inj h).symm⟩
  ·cases h
 ·rename_i q;exact .inr ⟨fun e=>q e.symm,h⟩
theorem p_set {α:Type} {l:List α} {c:Nat} {x:α} (h:l[c]? = some x) (y:α) (i:Nat):(l.set c y)[i]? = if i = c then some y else l[i]?:=by
 have hl:=(List.getElem?_eq_some_iff.1 h).1
 rw [List.getElem?_set]
 by_cases q:c = i
 ·subst q;rw [if_pos rfl,if_pos hl,if_pos rfl]
 ·rw [if_neg q,if_neg (fun e=>q e.symm)]
theorem qf_set {Cs:List Ch} {i:Nat} {C:Ch} (h:Cs[i]? = some C) (C':Ch) (k:Nat):qf (Cs.set i C') k = if k = i then C'.buf ++ C'.S.map (·.2.2) else qf Cs k:=by
 unfold qf
 rw [p_set h]
 by_cases q:k = i
 ·subst q;rw [if_pos rfl,if_pos rfl]
 ·rw [if_neg q,if_neg q]
theorem hf_set {cs:List Pg} {j:Nat} {x:Pg} (h:cs[j]? = some x) (y:Pg) (k:Nat):hf (cs.set j y) k = if k = j then (if y.p = 1 ∧ y.s = 1 then [y.v] else []) else hf cs k:=by
 unfold hf
 rw [p_set h]
 by_cases q:k = j
 ·subst q;rw [if_pos rfl,if_pos rfl]
 ·rw [if_neg q,if_neg q]
theorem rW_set {A:Pa} {cs:List Pg} {S j:Nat} {x:Pg} (h:cs[j]? = some x) (y:Pg) (i:Nat):rW A (cs.set j y) S i = if i = j ∧ i ≠ S then (if y.p = 1 ∧ y.s = 2 then [(((i + 1:Nat):Int),0,0)] else []) else rW A cs S i:=by
 unfold rW
 rw [p_set h]
 by_cases q:i = S
 ·simp [q]
 ·by_cases r:i = j
  ·subst r;simp [q]
  ·simp [q,r]
theorem sW_set {cs:List Pg} {S j:Nat} {x:Pg} (h:cs[j]? = some x) (y:Pg) (i:Nat):sW (cs.set j y) S i = if widx S i = j then (if y.s = 2 ∧ (i = 0 ∨ y.p = 2) then [(((j + 1:Nat):Int),0,y.v)] else []) else sW cs S i:=by
 unfold sW
 rw [p_set h]
 by_cases q:widx S i = j
 ·rw [if_pos q,if_pos q,q]
 ·rw [if_neg q,if_neg q]
theorem rest_set {cs:List Pg} {S m j:Nat} {x:Pg} (h:cs[j]? = some x) (y:Pg):restF (cs.set j y) S m = if S = j then (vals m).drop (y.p / 2) else restF cs S m:=by
 unfold restF
 rw [p_set h]
 by_cases q:S = j
 ·rw [if_pos q,if_pos q]
 ·rw [if_neg q,if_neg q]
theorem widx_inj {S i k:Nat} (hi:i ≤ S) (hk:k ≤ S) (h:widx S i = widx S k):i = k:=by
 unfold widx at h
 split at h <;> split at h <;> omega
section
variable {S m N:Nat} {W:Wd} {A:Pa} {cs:List Pg} {Cs:List Ch} {out:List Int} {ck:Nat}
theorem PpI.at (h:PpI S m N W A cs Cs out ck) {i:Nat} (hi:i ≤ S):∃ C,Cs[i]? = some C:=⟨_,List.getElem?_eq_getElem (by rw [h.hC];omega)⟩
theorem rW_one (A:Pa) (cs:List Pg) (S i:Nat):rW A cs S i = [] ∨ (i = S ∧ A.s = 2 ∧ rW A cs S i = [(0,0,0)]) ∨ (i ≠ S ∧ ∃ x,cs[i]? = some x ∧ x.p = 1 ∧ x.s = 2 ∧ rW A cs S i = [(((i + 1:Nat):Int),0,0)]):=by
 unfold rW
 split
 ·rename_i q
  split
  ·rename_i r;exact .inr (.inl ⟨q,r,rfl⟩)
  ·exact .inl rfl
 ·rename_i q
  split
  ·rename_i x hx
   split
   ·rename_i r;exact .inr (.inr ⟨q,x,hx,r.1,r.2,rfl⟩)
   ·exact .inl rfl
  ·exact .inl rfl
theorem sW_one (cs:List Pg) (S i:Nat):sW cs S i = [] ∨ ∃ x,cs[widx S i]? = some x ∧ x.s = 2 ∧ (i = 0 ∨ x.p = 2) ∧ sW cs S i = [(((widx S i + 1:Nat):Int),0,x.v)]:=by
 unfold sW
 split
 ·rename_i x hx
  split
  ·rename_i r;exact .inr ⟨x,hx,r.1,r.2,rfl⟩
  ·exact .inl rfl
 ·exact .inl rfl
theorem dropW_keep {g:Int} {l:List Wt} (h:∀ w ∈ l,w.1 ≠ g):dropW g l = l:=by
 unfold dropW
 rw [List.filter_eq_self]
 intro x hx
 have:=h x hx
 simp [this]
theorem PpI.leaves (h:PpI S m N W A cs Cs out ck) {g:Int} {i:Nat} {C':Ch} (hR:∀ k C,k ≠ i → Cs[k]? = some C → ∀ w ∈ rW A cs S k,w.1 ≠ g) (hS:∀ k C,k ≠ i → Cs[k]? = some C → ∀ w ∈ sW cs S k,w.1 ≠ g) (h1:∀ w ∈ C'.R,w.1 ≠ g) (h2:∀ w ∈ C'.S,w.1 ≠ g) :
  (Cs.set i C').map (leF g) = Cs.set i C':=by
 rw [List.map_eq_iff]
 intro k
 cases hk:(Cs.set i C')[k]? with
 | none=>rfl
 | some C =>
  simp only [Option.map_some,Option.some.injEq]
  have hl:∀ D:Ch,(∀ w ∈ D.R,w.1 ≠ g) → (∀ w ∈ D.S,w.1 ≠ g) → leF g D = D:=fun D d1 d2=>by
   unfold leF
   rw [dropW_keep d1,dropW_keep d2]
  rcases p_get_set hk with ⟨-,rfl⟩ | ⟨q,hk2⟩
  ·exact (hl _ h1 h2).symm
  ·exact (hl C (by rw [h.hR k C hk2];exact hR k C q hk2) (by rw [h.hS k C hk2];exact hS k C q hk2)).symm
end
end Go.Proofs.YtphfaekpckbepaaGreat
open Go Go.RowKit
set_option linter.unusedVariables false
namespace Go.Proofs.YtphfaekpckbepaaGreat
section
variable {S m N:Nat} {W:Wd} {A:Pa} {cs:List Pg} {Cs:List Ch} {out:List Int} {ck:Nat}
theorem PpI.mkC (h:PpI S m N W A cs Cs out ck) {i:Nat} {C:Ch} (hi:Cs[i]? = some C) (C':Ch) (A':Pa) (cs':List Pg) (hn:cs'.length = min A'.k (S + 1)) (hA:PaOk S A') (hx:∀ (j:Nat) (x:Pg),cs'[j]? = some x → j < S → StOk x) (hF:∀ (x:Pg),cs'[S]? = some x → FdOk m x)
  (cl:C'.cl = false) (r1:C'.R = rW A' cs' S i) (s1:C'.S = sW cs' S i) (r2:∀ k,k ≠ i → k ≤ S → rW A' cs' S k = rW A cs S k) (s2:∀ k,k ≠ i → k ≤ S → sW cs' S k = sW cs S k) (em:C'.R ≠ [] → C'.buf = [] ∧ C'.S = [])
  (hf:out ++ (hmA A' S ++ (fl (qf (Cs.set i C')) (hf cs') S ++ restF cs' S m)) = vals m):PpFit S m N (ppW S m N A' cs' (Cs.set i C') out ck):=by
 have hk:∀ {k:Nat} {D:Ch},Cs[k]? = some D → k ≤ S:=fun q=>by have:=(List.getElem?_eq_some_iff.1 q).1;rw [h.hC] at this;omega
 refine ⟨A',cs',Cs.set i C',out,ck,rfl,by rw [List.length_set];exact h.hC,hn,hA,hx,hF,fun k D hD=>?_,fun k D hD=>?_,fun k D hD=>?_,fun k D hD=>?_,hf⟩
 ·rcases p_get_set hD with ⟨-,rfl⟩ | ⟨q,hD2⟩
  ·exact cl
  ·exact h.cl k D hD2
 ·rcases p_get_set hD with ⟨rfl,rfl⟩ | ⟨q,hD2⟩
  ·exact r1
  ·rw [r2 k q (hk hD2)];exact h.hR k D hD2
 ·rcases p_get_set hD with ⟨rfl,rfl⟩ | ⟨q,hD2⟩
  ·exact s1
  ·rw [s2 k q (hk hD2)];exact h.hS k D hD2
 ·rcases p_get_set hD with ⟨rfl,rfl⟩ | ⟨q,hD2⟩
  ·exact em
  ·exact h.em k D hD2
theorem PpI.mk0 (h:PpI S m N W A cs Cs out ck) (A':Pa) (cs':List Pg) (out':List Int) (hn:cs'.length = min A'.k (S + 1)) (hA:PaOk S A') (hx:∀ (j:Nat) (x:Pg),cs'[j]? = some x → j < S → StOk x) (hF:∀ (x:Pg),cs'[S]? = some x → FdOk m x)
  (r2:∀ k,k ≤ S → rW A' cs' S k = rW A cs S k) (s2:∀ k,k ≤ S → sW cs' S k = sW cs S k)
  (hf:out' ++ (hmA A' S ++ (fl (qf Cs) (hf cs') S ++ restF cs' S m)) = vals m):PpFit S m N (ppW S m N A' cs' Cs out' ck):=by
 have hk:∀ {k:Nat} {D:Ch},Cs[k]? = some D → k ≤ S:=fun q=>by have:=(List.getElem?_eq_some_iff.1 q).1;rw [h.hC] at this;omega
 exact ⟨A',cs',Cs,out',ck,rfl,h.hC,hn,hA,hx,hF,h.cl,fun k D hD=>by rw [r2 k (hk hD)];exact h.hR k D hD,fun k D hD=>by rw [s2 k (hk hD)];exact h.hS k D hD,h.em,hf⟩
theorem set_x {j:Nat} {y:Pg} (hj:j < S) (hy:StOk y) (hx:∀ (j:Nat) (x:Pg),cs[j]? = some x → j < S → StOk x):∀ (k:Nat) (x:Pg),(cs.set j y)[k]? = some x → k < S → StOk x:=fun k x hk hkS=>by
 rcases p_get_set hk with ⟨-,rfl⟩ | ⟨-,h2⟩
 ·exact hy
 ·exact hx k x h2 hkS
theorem set_f {j:Nat} {y:Pg} (hj:j ≠ S) (hF:∀ (x:Pg),cs[S]? = some x → FdOk m x):∀ (x:Pg),(cs.set j y)[S]? = some x → FdOk m x:=fun x hk=>by
 rcases p_get_set hk with ⟨q,-⟩ | ⟨-,h2⟩
 ·exact absurd q.symm hj
 ·exact hF x h2
theorem set_xf {y:Pg} (hx:∀ (j:Nat) (x:Pg),cs[j]? = some x → j < S → StOk x):∀ (k:Nat) (x:Pg),(cs.set S y)[k]? = some x → k < S → StOk x:=fun k x hk hkS=>by
 rcases p_get_set hk with ⟨q,-⟩ | ⟨-,h2⟩
 ·omega
 ·exact hx k x h2 hkS
theorem set_ff {y:Pg} (hy:FdOk m y) (hF:∀ (x:Pg),cs[S]? = some x → FdOk m x):∀ (x:Pg),(cs.set S y)[S]? = some x → FdOk m x:=fun x hk=>by
 rcases p_get_set hk with ⟨-,rfl⟩ | ⟨q,-⟩
 ·exact hy
 ·exact absurd rfl q
theorem snoc_get {α:Type} (l:List α) (y:α) (j:Nat):(l ++ [y])[j]? = if j = l.length then some y else l[j]?:=by
 rcases Nat.lt_trichotomy j l.length with h | h | h
 ·rw [List.getElem?_append_left h,if_neg (by omega)]
 ·subst h;rw [List.getElem?_append_right (Nat.le_refl _),Nat.sub_self,if_pos rfl];rfl
 ·rw [List.getElem?_append_right (by omega),if_neg (by omega),List.getElem?_eq_none (by simp;omega),List.getElem?_eq_none (by omega)]
theorem PpI.spawn (h:PpI S m N W A cs Cs out ck) (hk:A.k ≤ S) (A':Pa) (h1:A'.k = A.k + 1) (h2:A'.s = 1) (hs:A.s = 1):PpFit S m N (ppW S m N A' (cs ++ [⟨0,1,0,0⟩]) Cs out ck):=by
 have hn:=h.hn
 have hl:cs.length = A.k:=by omega
 have hnone:cs[cs.length]? = none:=List.getElem?_eq_none (Nat.le_refl _)
 have e1:∀ j,hf (cs ++ [⟨0,1,0,0⟩]) j = hf cs j:=fun j=>by
  unfold hf
  rw [snoc_get]
  by_cases q:j = cs.length
  ·subst q;rw [if_pos rfl,hnone];rfl
  ·rw [if_neg q]
 have e2:∀ k,rW A' (cs ++ [⟨0,1,0,0⟩]) S k = rW A cs S k:=fun k=>by
  unfold rW
  rw [snoc_get,h2,hs]
  by_cases q:k = S
  ·simp [q]
  ·rw [if_neg q,if_neg q]
   by_cases r:k = cs.length
   ·subst r;rw [if_pos rfl,hnone];rfl
   ·rw [if_neg r]
 have e3:∀ k,sW (cs ++ [⟨0,1,0,0⟩]) S k = sW cs S k:=fun k=>by
  unfold sW
  rw [snoc_get]
  by_cases r:widx S k = cs.length
  ·rw [if_pos r,r,hnone];rfl
  ·rw [if_neg r]
 have e4:restF (cs ++ [⟨0,1,0,0⟩]) S m = restF cs S m:=by
  unfold restF
  rw [snoc_get]
  by_cases r:S = cs.length
  ·rw [if_pos r,r,hnone];rfl
  ·rw [if_neg r]
 have e5:hmA A' S = hmA A S:=by unfold hmA;rw [if_neg (by omega),if_neg (by omega)]
 refine h.mk0 A' _ out (by rw [List.length_append];simp;omega) ?_ (fun j x hx hj=>?_) (fun x hx=>?_) (fun k _=>e2 k) (fun k _=>e3 k) ?_
 ·exact .inl ⟨by omega,h2⟩
 ·rw [snoc_get] at hx
  split at hx
  ·cases hx;exact .inl ⟨rfl,rfl⟩
  ·exact h.hx j x hx hj
 ·rw [snoc_get] at hx
  split at hx
  ·cases hx;exact .inl ⟨rfl,Nat.zero_le _,fun q=>by simp at q⟩
  ·exact h.hFd x hx
 ·rw [e4,e5,fl_congr (q:=qf Cs) (q':=qf Cs) (h:=hf cs) S (fun _ _=>rfl) (fun j _=>e1 j)]
  exact h.hFl
theorem PpI.wsend (h:PpI S m N W A cs Cs out ck) {i:Nat} {C:Ch} (hi:Cs[i]? = some C) (hS:C.S ≠ []):∃ x,cs[widx S i]? = some x ∧ x.s = 2 ∧ (i = 0 ∨ x.p = 2) ∧ C.S = [(((widx S i + 1:Nat):Int),0,x.v)] ∧ 1 ≤ x.p ∧ ∃ a:Int,((ppFs S m).getD (widx S i + 1) [])[x.p - 1]? = some (13,a,1,0):=by
 have hiS:i ≤ S:=by have:=(List.getElem?_eq_some_iff.1 hi).1;rw [h.hC] at this;omega
 rcases sW_one cs S i with q | ⟨x,h1,h2,h3,h4⟩
 ·exact absurd ((h.hS i C hi).trans q) hS
 ·refine ⟨x,h1,h2,h3,(h.hS i C hi).trans h4,?_⟩
  by_cases h0:i = 0
  ·subst h0
   have hw:widx S 0 = S:=rfl
   rw [hw] at h1 ⊢
   rcases h.hFd x h1 with q | ⟨q1,q2,q3,q4⟩ | q
   ·omega
   ·refine ⟨by omega,0,?_⟩
    rw [pp_fs2,show x.p - 1 = 2 * (x.p / 2 - 1) + 1 by omega]
    exact (pp_fd1 (m:=m) (i:=x.p / 2 - 1) (by omega)).2
   ·omega
  ·have hp:x.p = 2:=h3.resolve_left h0
   have hw:widx S i = i - 1:=by unfold widx;rw [if_neg h0]
   rw [hw]
   refine ⟨by omega,((i - 1 + 1:Nat):Int),?_⟩
   rw [pp_fs1 (show i - 1 < S by omega),hp]
   rfl
theorem PpI.leavesW (h:PpI S m N W A cs Cs out ck) {i:Nat} {x:Pg} {C':Ch} (hiS:i ≤ S) (hx:cs[widx S i]? = some x) (hs:x.s = 2) (hp:i = 0 ∨ x.p = 2) (hR:C'.R = []) (hS:C'.S = []):(Cs.set i C').map (leF ((widx S i + 1:Nat):Int)) = Cs.set i C':=by
 refine h.leaves (fun k C hk hC w hw=>?_) (fun k C hk hC w hw=>?_) (fun w hw=>by rw [hR] at hw;cases hw) (fun w hw=>by rw [hS] at hw;cases hw)
 ·rcases rW_one A cs S k with q | ⟨-,-,q⟩ | ⟨h1,y,h2,h3,h4,q⟩
  ·rw [q] at hw;cases hw
  ·rw [q] at hw;rw [List.mem_singleton.1 hw];show (0:Int) ≠ _;omega
  ·rw [q] at hw;rw [List.mem_singleton.1 hw]
   show ((k + 1:Nat):Int) ≠ _
   intro e
   have e2:k = widx S i:=by omega
   rw [e2,hx] at h2
   cases h2
   rcases hp with r | r
   ·subst r;exact h1 e2
   ·omega
 ·have hkS:k ≤ S:=by have:=(List.getElem?_eq_some_iff.1 hC).1;rw [h.hC] at this;omega
  rcases sW_one cs S k with q | ⟨y,-,-,-,q⟩
  ·rw [q] at hw;cases hw
  ·rw [q] at hw;rw [List.mem_singleton.1 hw]
   show ((widx S k + 1:Nat):Int) ≠ _
   intro e
   exact hk (widx_inj hkS hiS (by omega))
theorem PpI.main (h:PpI S m N W A cs Cs out ck) (hS1:1 ≤ S) (hS:S ≤ 10) (hm:m ≤ 10) (hs:A.s = 1) (d:Int):PpFit S m N (execM W 0 d).1:=by
 rw [h.e]
 have hA:=h.hA
 have hn:=h.hn
 have hr0:∀ (A':Pa),A'.s = 1 → ∀ k,rW A' cs S k = rW A cs S k:=fun A' q k=>by unfold rW;rw [q,hs]
 have hlen:out.length ≤ m:=by
  have:=congrArg List.length h.hFl
  rw [List.length_append,vals_len] at this
  omega
 rcases hA with ⟨k1,-⟩ | ⟨k1,-⟩ | ⟨-,k2⟩ | ⟨k1,-⟩
 ·rcases Nat.lt_or_ge S A.k with q | q
  ·have hk:A.k = S + 1:=by omega
   rw [pp_recv0 hs hk]
   obtain ⟨C,hC⟩:=h.at (Nat.le_refl S)
   have hR:C.R = []:=by rw [h.hR S C hC];unfold rW;rw [if_pos rfl,if_neg (by omega)]
   have hcl:=h.cl S C hC
   have hme:hmA A S = []:=by unfold hmA;rw [if_neg (by omega)]
   have hfl:=h.hFl
   rw [hme,List.nil_append] at hfl
   have hqS:qf Cs S = C.buf ++ C.S.map (·.2.2):=by unfold qf;rw [hC]
   by_cases hSe:C.S = []
   ·match hb:C.buf with
    | y :: b =>
     rw [pp_rec1 hC hSe hb]
     refine h.mkC hC ⟨b,[],C.R,C.cl⟩ ⟨S + 2,1,A.b,y,1⟩ cs (by simp only;omega) (.inr (.inl ⟨rfl,rfl⟩)) h.hx h.hFd hcl (by rw [hr0 _ rfl];exact h.hR S C hC) (by rw [← h.hS S C hC];exact hSe.symm) (fun k _ _=>hr0 _ rfl k) (fun k _ _=>rfl) (fun q=>absurd hR q) ?_
     have e1:=fl_last (q:=qf Cs) (q':=qf (Cs.set S ⟨b,[],C.R,C.cl⟩)) (h:=hf cs) S y (by rw [qf_set hC,if_pos rfl,hqS,hb,hSe];rfl) (fun i hi=>by rw [qf_set hC,if_neg (by omega)])
     rw [e1] at hfl
     have e2:hmA ⟨S + 2,1,A.b,y,1⟩ S = [y]:=by unfold hmA;rw [if_pos ⟨rfl,rfl⟩]
     rw [e2]
     exact hfl
    | [] =>
     rw [pp_rec3 hC hSe hb hcl]
     show PpFit S m N (ppW S m N ⟨S + 2,2,A.b,A.x,A.y⟩ cs (Cs.set S ⟨[],[],C.R ++ [(((0:Nat):Int),0,0)],false⟩) out ck)
     refine h.mkC hC ⟨[],[],C.R ++ [(((0:Nat):Int),0,0)],false⟩ ⟨S + 2,2,A.b,A.x,A.y⟩ cs (by simp only;omega) (.inr (.inr (.inl ⟨rfl,rfl⟩))) h.hx h.hFd rfl (by rw [hR];unfold rW;rw [if_pos rfl,if_pos rfl];rfl) (by rw [← h.hS S C hC];exact hSe.symm) (fun k hk2 _=>by unfold rW;rw [if_neg hk2,if_neg hk2]) (fun k _ _=>rfl) (fun _=>⟨rfl,rfl⟩) ?_
     have e2:hmA ⟨S + 2,2,A.b,A.x,A.y⟩ S = []:=by unfold hmA;rw [if_neg (fun q=>by cases q.2)]
     rw [e2,List.nil_append,fl_congr (q:=qf Cs) (h:=hf cs) S (fun i hi=>by rw [qf_set hC];split;(rename_i q;subst q;rw [hqS,hSe,hb]);rfl) (fun _ _=>rfl)]
     exact hfl
   ·obtain ⟨x,x1,x2,x3,x4,x5,a,x6⟩:=h.wsend hC hSe
    have hwS:widx S S = S - 1:=by unfold widx;rw [if_neg (by omega)]
    have hp2:x.p = 2:=x3.resolve_left (by omega)
    obtain ⟨y,b,hyb⟩:∃ y b,C.buf ++ [x.v] = y :: b:=by
     match C.buf with
     | []=>exact ⟨_,_,rfl⟩
     | z :: u=>exact ⟨_,_,rfl⟩
    have hlv:=h.leavesW (C':=⟨b,[],C.R,C.cl⟩) (Nat.le_refl S) x1 x2 x3 hR rfl
    rw [pp_rec2 hC x4 hyb x1 x2 x5 x6 hlv]
    have hne:S ≠ widx S S:=by omega
    refine h.mkC hC ⟨b,[],C.R,C.cl⟩ ⟨S + 2,1,A.b,y,1⟩ (cs.set (widx S S) ⟨x.p,1,x.v,x.y⟩) (by rw [List.length_set];simp only;omega) (.inr (.inl ⟨rfl,rfl⟩)) (set_x (by omega) (.inr (.inr (.inr (.inl ⟨hp2,rfl⟩)))) h.hx) (set_f (fun e=>hne e.symm) h.hFd) hcl ?_ ?_ (fun k hk2 _=>?_) (fun k hk2 hkS=>?_) (fun q=>absurd hR q) ?_
    ·rw [hR];unfold rW;rw [if_pos rfl,if_neg (by simp)]
    ·rw [sW_set x1,if_pos rfl,if_neg (fun q=>by simp at q)]
    ·rw [rW_set x1,hr0 _ rfl]
     split
     ·rename_i q
      obtain ⟨q1,q2⟩:=q
      rw [if_neg (fun q=>by simp at q)]
      subst q1
      unfold rW
      rw [if_neg q2,x1]
      simp only
      rw [if_neg (by omega)]
     ·rfl
    ·rw [sW_set x1,if_neg (fun q=>hk2 (widx_inj hkS (Nat.le_refl S) q))]
    ·have e1:=fl_last (q:=qf Cs) (q':=qf (Cs.set S ⟨b,[],C.R,C.cl⟩)) (h:=hf cs) S y (by rw [qf_set hC,if_pos rfl,hqS,x4];show C.buf ++ [x.v] = _;rw [hyb];simp) (fun i hi=>by rw [qf_set hC,if_neg (by omega)])
     rw [e1] at hfl
     have e2:hmA ⟨S + 2,1,A.b,y,1⟩ S = [y]:=by unfold hmA;rw [if_pos ⟨rfl,rfl⟩]
     have e3:∀ j,hf (cs.set (widx S S) ⟨x.p,1,x.v,x.y⟩) j = hf cs j:=fun j=>by
      rw [hf_set x1]
      split
      ·rename_i r;subst r;unfold hf;rw [x1];simp only;rw [if_neg (by omega),if_neg (by omega)]
      ·rfl
     rw [e2,rest_set x1,if_neg hne,fl_congr (q':=qf (Cs.set S ⟨b,[],C.R,C.cl⟩)) (q:=qf (Cs.set S ⟨b,[],C.R,C.cl⟩)) (h:=hf cs) S (fun _ _=>rfl) (fun j _=>e3 j)]
     exact hfl
  ·rw [pp_spawn hs q (by omega) (by omega)]
   exact h.spawn q _ rfl rfl hs
 ·rw [pp_emit hs k1 (by omega)]
  refine h.mk0 ⟨A.k + 1,1,A.b,A.x,A.y⟩ cs (out ++ [A.x]) (by simp only;omega) (.inr (.inr (.inr ⟨by simp only;omega,rfl⟩))) h.hx h.hFd (fun k _=>hr0 _ rfl k) (fun k _=>rfl) ?_
  have hfl:=h.hFl
  have e1:hmA A S = [A.x]:=by unfold hmA;rw [if_pos ⟨k1,hs⟩]
  have e2:hmA ⟨A.k + 1,1,A.b,A.x,A.y⟩ S = []:=by unfold hmA;rw [if_neg (fun q=>by have:=q.1;simp only at this;omega)]
  rw [e1] at hfl
  rw [e2,List.nil_append,List.append_assoc]
  exact hfl
 ·omega
 ·rw [pp_jump hs k1]
  refine h.mk0 ⟨S + 1,1,A.b,A.x,A.y⟩ cs out (by simp only;omega) (.inl ⟨by simp only;omega,rfl⟩) h.hx h.hFd (fun k _=>hr0 _ rfl k) (fun k _=>rfl) ?_
  have hfl:=h.hFl
  have e1:hmA A S = []:=by unfold hmA;rw [if_neg (by omega)]
  have e2:hmA ⟨S + 1,1,A.b,A.x,A.y⟩ S = []:=by unfold hmA;rw [if_neg (fun q=>by have:=q.1;simp only at this;omega)]
  rw [e1] at hfl
  rw [e2]
  exact hfl
end
end Go.Proofs.YtphfaekpckbepaaGreat
open Go Go.RowKit
set_option linter.unusedVariables false
namespace Go.Proofs.YtphfaekpckbepaaGreat
section
variable {S m N:Nat} {W:Wd} {A:Pa} {cs:List Pg} {Cs:List Ch} {out:List Int} {ck:Nat}
theorem PpI.stRecv (h:PpI S m N W A cs Cs out ck) {c:Nat} {x:Pg} (hcS:c < S) (hx:cs[c]? = some x) (hs:x.s = 1) (hp:x.p = 0) (d:Int):PpFit S m N (execM W ((c + 1:Nat):Int) d).1:=by
 rw [h.e]
 rw [pp_chan (i:=(14,(c:Int),1,2)) hx hs (by rw [pp_fs1 hcS,hp];rfl) (.inr rfl)]
 have hcl:=(List.getElem?_eq_some_iff.1 hx).1
 have hn:=h.hn
 obtain ⟨C,hC⟩:=h.at (i:=c) (by omega)
 have hclo:=h.cl c C hC
 have hR:C.R = []:=by rw [h.hR c C hC];unfold rW;rw [if_neg (by omega),hx];simp only;rw [if_neg (by omega)]
 have hfl:=h.hFl
 have hqc:qf Cs c = C.buf ++ C.S.map (·.2.2):=by unfold qf;rw [hC]
 have hhc:hf cs c = []:=by unfold hf;rw [hx];simp only;rw [if_neg (by omega)]
 have hx1:=pp_cget (⟨x.p + 1,1,x.v,x.y⟩:Pg) hx
 have hcne:c ≠ S:=by omega
 have hsw:∀ (y:Pg),(y.p = 1) → ∀ k,k ≤ S → sW (cs.set c y) S k = sW cs S k:=fun y hy k hk=>by
  rw [sW_set hx]
  split
  ·rename_i q
   have hk0:k ≠ 0:=fun e=>by subst e;exact hcne q.symm
   rw [if_neg (by rintro ⟨-,r | r⟩ <;> omega)]
   unfold sW
   rw [q,hx]
   simp only
   rw [if_neg (by omega)]
  ·rfl
 by_cases hSe:C.S = []
 ·match hb:C.buf with
  | y :: b =>
   rw [pp_rec1 hC hSe hb,pp_finR hx1,List.set_set]
   show PpFit S m N (ppW S m N A (cs.set c ⟨x.p + 1,1,y,1⟩) (Cs.set c ⟨b,[],C.R,C.cl⟩) out ck)
   rw [hp]
   refine h.mkC hC ⟨b,[],C.R,C.cl⟩ A (cs.set c ⟨0 + 1,1,y,1⟩) (by rw [List.length_set];exact hn) h.hA (set_x hcS (.inr (.inl ⟨rfl,rfl⟩)) h.hx) (set_f hcne h.hFd) hclo ?_ ?_ (fun k hk _=>?_) (fun k hk hkS=>hsw _ rfl k hkS) (fun q=>absurd hR q) ?_
   ·rw [rW_set hx,if_pos ⟨rfl,hcne⟩,if_neg (fun q=>by simp at q)];exact hR
   ·rw [hsw _ rfl c (by omega),← h.hS c C hC];exact hSe.symm
   ·rw [rW_set hx,if_neg (fun q=>hk q.1)]
   ·rw [rest_set hx,if_neg (fun e=>hcne e.symm),fl_take (q:=qf Cs) (h:=hf cs) c y (by rw [qf_set hC,if_pos rfl,hqc,hb,hSe];rfl) (fun i hi=>by rw [qf_set hC,if_neg hi]) hhc (by rw [hf_set hx,if_pos rfl,if_pos ⟨rfl,rfl⟩]) (fun i hi=>by rw [hf_set hx,if_neg hi]) S hcS]
    exact hfl
  | [] =>
   rw [pp_rec3 hC hSe hb hclo,pp_st hx1,List.set_set]
   show PpFit S m N (ppW S m N A (cs.set c ⟨x.p + 1,2,x.v,x.y⟩) (Cs.set c ⟨[],[],C.R ++ [(((c + 1:Nat):Int),0,0)],false⟩) out ck)
   rw [hp]
   refine h.mkC hC ⟨[],[],C.R ++ [(((c + 1:Nat):Int),0,0)],false⟩ A (cs.set c ⟨0 + 1,2,x.v,x.y⟩) (by rw [List.length_set];exact hn) h.hA (set_x hcS (.inr (.inr (.inl ⟨rfl,rfl⟩))) h.hx) (set_f hcne h.hFd) rfl ?_ ?_ (fun k hk _=>?_) (fun k hk hkS=>hsw _ rfl k hkS) (fun _=>⟨rfl,rfl⟩) ?_
   ·rw [rW_set hx,if_pos ⟨rfl,hcne⟩,if_pos ⟨rfl,rfl⟩,hR];rfl
   ·rw [hsw _ rfl c (by omega),← h.hS c C hC];exact hSe.symm
   ·rw [rW_set hx,if_neg (fun q=>hk q.1)]
   ·rw [rest_set hx,if_neg (fun e=>hcne e.symm),fl_congr (q:=qf Cs) (h:=hf cs) S (fun i hi=>by rw [qf_set hC];split;(rename_i q;subst q;rw [hqc,hSe,hb]);rfl) (fun j hj=>by
     rw [hf_set hx]
     split
     ·rename_i q;subst q;rw [if_neg (fun q=>by simp at q),hhc]
     ·rfl)]
    exact hfl
 ·obtain ⟨z,x1,x2,x3,x4,x5,a,x6⟩:=h.wsend hC hSe
  have hwc:widx S c ≠ c:=by unfold widx;split <;> omega
  have hz1:(cs.set c ⟨x.p + 1,1,x.v,x.y⟩)[widx S c]? = some z:=by rw [p_set hx,if_neg hwc];exact x1
  obtain ⟨y,b,hyb⟩:∃ y b,C.buf ++ [z.v] = y :: b:=by
   match C.buf with
   | []=>exact ⟨_,_,rfl⟩
   | u :: t=>exact ⟨_,_,rfl⟩
  have hlv:=h.leavesW (C':=⟨b,[],C.R,C.cl⟩) (show c ≤ S by omega) x1 x2 x3 hR rfl
  rw [pp_rec2 hC x4 hyb hz1 x2 x5 x6 hlv]
  have hx2:((cs.set c ⟨x.p + 1,1,x.v,x.y⟩).set (widx S c) ⟨z.p,1,z.v,z.y⟩)[c]? = some ⟨x.p + 1,1,x.v,x.y⟩:=by rw [p_set hz1,if_neg (fun e=>hwc e.symm)];exact hx1
  show PpFit S m N ((ppW S m N A ((cs.set c ⟨x.p + 1,1,x.v,x.y⟩).set (widx S c) ⟨z.p,1,z.v,z.y⟩) (Cs.set c ⟨b,[],C.R,C.cl⟩) out ck).fin (14,(c:Int),1,2) (((c + 1:Nat):Int),0,y) true)
  rw [pp_finR hx2]
  have hcomm:((cs.set c ⟨x.p + 1,1,x.v,x.y⟩).set (widx S c) ⟨z.p,1,z.v,z.y⟩).set c ⟨x.p + 1,1,y,1⟩ = (cs.set (widx S c) ⟨z.p,1,z.v,z.y⟩).set c ⟨x.p + 1,1,y,1⟩:=by
   rw [List.set_comm _ _ (fun e=>hwc e.symm),List.set_set]
  rw [hcomm,hp]
  have hxw:(cs.set (widx S c) ⟨z.p,1,z.v,z.y⟩)[c]? = some x:=by rw [p_set x1,if_neg (fun e=>hwc e.symm)];exact hx
  have hzok:widx S c < S → StOk ⟨z.p,1,z.v,z.y⟩:=fun q=>.inr (.inr (.inr (.inl ⟨by
   rcases x3 with r | r
   ·subst r;exact absurd q (by unfold widx;simp)
   ·exact r,rfl⟩)))
  have hxs:∀ (j:Nat) (w:Pg),(cs.set (widx S c) ⟨z.p,1,z.v,z.y⟩)[j]? = some w → j < S → StOk w:=fun j w hj hjS=>by
   rcases p_get_set hj with ⟨q,rfl⟩ | ⟨-,q⟩
   ·exact hzok (by rw [← q];exact hjS)
   ·exact h.hx j w q hjS
  have hfs:∀ (w:Pg),(cs.set (widx S c) ⟨z.p,1,z.v,z.y⟩)[S]? = some w → FdOk m w:=fun w hj=>by
   rcases p_get_set hj with ⟨q,rfl⟩ | ⟨-,q⟩
   ·rw [← q] at x1
    rcases h.hFd z x1 with r | ⟨r1,r2,r3,r4⟩ | r
    ·omega
    ·exact .inl ⟨rfl,r4,fun q=>by simp only at q;omega⟩
    ·omega
   ·exact h.hFd w q
  refine h.mkC hC ⟨b,[],C.R,C.cl⟩ A ((cs.set (widx S c) ⟨z.p,1,z.v,z.y⟩).set c ⟨0 + 1,1,y,1⟩) (by rw [List.length_set,List.length_set];exact hn) h.hA (set_x hcS (.inr (.inl ⟨rfl,rfl⟩)) hxs) (set_f hcne hfs) hclo ?_ ?_ (fun k hk hkS=>?_) (fun k hk hkS=>?_) (fun q=>absurd hR q) ?_
  ·rw [rW_set hxw,if_pos ⟨rfl,hcne⟩,if_neg (fun q=>by simp at q)];exact hR
  ·rw [sW_set hxw,if_neg hwc,sW_set x1,if_pos rfl,if_neg (fun q=>by simp at q)]
  ·rw [rW_set hxw,if_neg (fun q=>hk q.1),rW_set x1]
   split
   ·rename_i q
    obtain ⟨q1,q2⟩:=q
    rw [if_neg (fun q=>by simp at q)]
    subst q1
    unfold rW
    rw [if_neg q2,x1]
    simp only
    rcases x3 with r | r
    ·subst r;exact absurd rfl q2
    ·rw [if_neg (by omega)]
   ·rfl
  ·rw [sW_set hxw]
   split
   ·rename_i q
    have hk0:k ≠ 0:=fun e=>by subst e;exact hcne q.symm
    rw [if_neg (by rintro ⟨r,-⟩;simp at r)]
    unfold sW
    rw [q,hx]
    simp only
    rw [if_neg (by omega)]
   ·rw [sW_set x1,if_neg (fun q=>hk (widx_inj hkS (by omega) q))]
  ·have e3:∀ j,hf (cs.set (widx S c) ⟨z.p,1,z.v,z.y⟩) j = if j = S then hf (cs.set (widx S c) ⟨z.p,1,z.v,z.y⟩) j else hf cs j:=fun j=>by
    split
    ·rfl
    ·rename_i q
     rw [hf_set x1]
     split
     ·rename_i r;subst r
      unfold hf;rw [x1];simp only
      rcases x3 with r | r
      ·subst r;exact absurd rfl q
      ·rw [if_neg (by omega),if_neg (by omega)]
     ·rfl
   have e4:fl (qf Cs) (hf (cs.set (widx S c) ⟨z.p,1,z.v,z.y⟩)) S = fl (qf Cs) (hf cs) S:=fl_congr S (fun _ _=>rfl) (fun j hj=>by rw [e3,if_neg (by omega)])
   have e5:restF (cs.set (widx S c) ⟨z.p,1,z.v,z.y⟩) S m = restF cs S m:=by
    rw [rest_set x1]
    split
    ·rename_i q
     unfold restF
     rw [q,x1]
    ·rfl
   rw [rest_set hxw,if_neg (fun e=>hcne e.symm),e5,fl_take (q:=qf Cs) (h:=hf (cs.set (widx S c) ⟨z.p,1,z.v,z.y⟩)) c y (by rw [qf_set hC,if_pos rfl,hqc,x4];show C.buf ++ [z.v] = _;rw [hyb];simp) (fun i hi=>by rw [qf_set hC,if_neg hi]) (by rw [e3,if_neg hcne];exact hhc) (by rw [hf_set hxw,if_pos rfl,if_pos ⟨rfl,rfl⟩]) (fun i hi=>by rw [hf_set hxw,if_neg hi]) S hcS,e4]
   exact hfl
theorem PpI.stJump (h:PpI S m N W A cs Cs out ck) {c:Nat} {x:Pg} (hcS:c < S) (hx:cs[c]? = some x) (hs:x.s = 1) (hp:x.p = 2) (d:Int):PpFit S m N (execM W ((c + 1:Nat):Int) d).1:=by
 rw [h.e]
 rw [pp_jmpc hx hs (by rw [pp_fs1 hcS,hp];rfl)]
 have hcne:c ≠ S:=by omega
 refine h.mk0 A (cs.set c ⟨0,1,x.v,x.y⟩) out (by rw [List.length_set];exact h.hn) h.hA (set_x hcS (.inl ⟨rfl,rfl⟩) h.hx) (set_f hcne h.hFd) (fun k hk=>?_) (fun k hk=>?_) ?_
 ·rw [rW_set hx]
  split
  ·rename_i q
   obtain ⟨q1,q2⟩:=q
   rw [if_neg (fun q=>by simp at q)]
   subst q1
   unfold rW
   rw [if_neg q2,hx]
   simp only
   rw [if_neg (by omega)]
  ·rfl
 ·rw [sW_set hx]
  split
  ·rename_i q
   rw [if_neg (fun q=>by simp at q)]
   unfold sW
   rw [q,hx]
   simp only
   rw [if_neg (by omega)]
  ·rfl
 ·rw [rest_set hx,if_neg (fun e=>hcne e.symm),fl_congr (q:=qf Cs) (q':=qf Cs) (h:=hf cs) S (fun _ _=>rfl) (fun j hj=>by
   rw [hf_set hx]
   split
   ·rename_i q;subst q;rw [if_neg (fun q=>by simp at q)];unfold hf;rw [hx];simp only;rw [if_neg (by omega)]
   ·rfl)]
  exact h.hFl
end
end Go.Proofs.YtphfaekpckbepaaGreat
open Go Go.RowKit
set_option linter.unusedVariables false
namespace Go.Proofs.YtphfaekpckbepaaGreat
section
variable {S m N:Nat} {W:Wd} {A:Pa} {cs:List Pg} {Cs:List Ch} {out:List Int} {ck:Nat}
def Snd (S m c i:Nat) (x:Pg):Prop:=(c < S ∧ i = c + 1 ∧ x.p = 1 ∧ x.s = 1) ∨ (c = S ∧ i = 0 ∧ x.p % 2 = 1 ∧ x.p < 2 * m ∧ x.s = 1 ∧ x.v = ((10 + x.p / 2:Nat):Int))
theorem Snd.w {c i:Nat} {x:Pg} (h:Snd S m c i x):widx S i = c:=by
 unfold widx
 rcases h with ⟨h1,h2,-⟩ | ⟨h1,h2,-⟩
 ·rw [if_neg (by omega)];omega
 ·rw [if_pos h2];exact h1.symm
theorem Snd.i {c i:Nat} {x:Pg} (h:Snd S m c i x):i ≤ S:=by
 rcases h with ⟨h1,h2,-⟩ | ⟨h1,h2,-⟩ <;> omega
theorem Snd.s {c i:Nat} {x:Pg} (h:Snd S m c i x):x.s = 1:=by
 rcases h with ⟨-,-,-,h⟩ | ⟨-,-,-,-,h,-⟩ <;> exact h
theorem Snd.op {c i:Nat} {x:Pg} (h:Snd S m c i x):((ppFs S m).getD (c + 1) [])[x.p]? = some (13,(i:Int),1,0):=by
 rcases h with ⟨h1,h2,h3,-⟩ | ⟨h1,h2,h3,h4,-⟩
 ·rw [pp_fs1 h1,h3,h2];rfl
 ·subst h1;subst h2
  rw [pp_fs2,show x.p = 2 * (x.p / 2) + 1 by omega]
  exact (pp_fd1 (m:=m) (i:=x.p / 2) (by omega)).2
theorem Snd.flow {c i:Nat} {x:Pg} (h:Snd S m c i x) (hx:cs[c]? = some x) (s:Int) {q':Nat → List Int} (h1:q' i = qf Cs i ++ [x.v]) (h2:∀ k,k ≠ i → q' k = qf Cs k) :
  fl q' (hf (cs.set c ⟨x.p + 1,s,x.v,x.y⟩)) S ++ restF (cs.set c ⟨x.p + 1,s,x.v,x.y⟩) S m = fl (qf Cs) (hf cs) S ++ restF cs S m:=by
 rcases h with ⟨g1,g2,g3,g4⟩ | ⟨g1,g2,g3,g4,g5,g6⟩
 ·subst g2
  rw [rest_set hx,if_neg (by omega),fl_give (q:=qf Cs) (h:=hf cs) c x.v h1 h2 (by unfold hf;rw [hx];simp only;rw [if_pos ⟨g3,g4⟩]) (by rw [hf_set hx,if_pos rfl,if_neg (by simp only;omega)]) (fun k hk=>by rw [hf_set hx,if_neg hk]) S g1]
 ·subst g1;subst g2
  have e1:restF cs c m = x.v :: (vals m).drop (x.p / 2 + 1):=by
   unfold restF;rw [hx];simp only;rw [vals_drop (show x.p / 2 < m by omega),g6]
  have e2:restF (cs.set c ⟨x.p + 1,s,x.v,x.y⟩) c m = (vals m).drop (x.p / 2 + 1):=by
   rw [rest_set hx,if_pos rfl];simp only;rw [show (x.p + 1) / 2 = x.p / 2 + 1 by omega]
  rw [e1,e2,fl_congr (q:=q') (q':=q') (h:=hf cs) c (fun _ _=>rfl) (fun j hj=>by rw [hf_set hx,if_neg (by omega)]),fl_first (q:=qf Cs) (h:=hf cs) x.v h1 h2 c]
  simp
theorem Snd.rW {c i:Nat} {x:Pg} (h:Snd S m c i x) (hx:cs[c]? = some x) (s:Int) (k:Nat):rW A (cs.set c ⟨x.p + 1,s,x.v,x.y⟩) S k = Go.Proofs.YtphfaekpckbepaaGreat.rW A cs S k:=by
 rw [rW_set hx]
 split
 ·rename_i q
  obtain ⟨q1,q2⟩:=q
  subst q1
  rcases h with ⟨g1,g2,g3,g4⟩ | ⟨g1,-⟩
  ·rw [if_neg (by simp only;omega)]
   unfold Go.Proofs.YtphfaekpckbepaaGreat.rW
   rw [if_neg q2,hx]
   simp only
   rw [if_neg (by omega)]
  ·exact absurd g1 q2
 ·rfl
theorem Snd.sW {c i:Nat} {x:Pg} (h:Snd S m c i x) (hx:cs[c]? = some x) (y:Pg) (k:Nat) (hk:k ≠ i) (hkS:k ≤ S):sW (cs.set c y) S k = Go.Proofs.YtphfaekpckbepaaGreat.sW cs S k:=by
 rw [sW_set hx,if_neg (fun q=>hk (widx_inj hkS h.i (q.trans h.w.symm)))]
theorem Snd.ok {c i:Nat} {x:Pg} (h:Snd S m c i x) (hx:cs[c]? = some x) (H:PpI S m N W A cs Cs out ck) (s:Int) (hs:s = 1 ∨ s = 2) :
  (∀ (j:Nat) (w:Pg),(cs.set c ⟨x.p + 1,s,x.v,x.y⟩)[j]? = some w → j < S → StOk w) ∧ (∀ (w:Pg),(cs.set c ⟨x.p + 1,s,x.v,x.y⟩)[S]? = some w → FdOk m w):=by
 rcases h with ⟨g1,g2,g3,g4⟩ | ⟨g1,g2,g3,g4,g5,g6⟩
 ·refine ⟨set_x g1 ?_ H.hx,set_f (by omega) H.hFd⟩
  rcases hs with r | r
  ·exact .inr (.inr (.inr (.inl ⟨by simp only;omega,r⟩)))
  ·exact .inr (.inr (.inr (.inr ⟨by simp only;omega,r⟩)))
 ·subst g1
  refine ⟨set_xf H.hx,set_ff ?_ H.hFd⟩
  rcases hs with r | r
  ·exact .inl ⟨r,by simp only;omega,fun q=>by simp only at q;omega⟩
  ·exact .inr (.inl ⟨r,by simp only;omega,by simp only;omega,by simp only;omega⟩)
theorem PpI.send (h:PpI S m N W A cs Cs out ck) {c i:Nat} {x:Pg} (hx:cs[c]? = some x) (hq:Snd S m c i x) (d:Int):PpFit S m N (execM W ((c + 1:Nat):Int) d).1:=by
 rw [h.e]
 rw [pp_chan (i:=(13,(i:Int),1,0)) hx hq.s hq.op (.inl rfl)]
 have hn:=h.hn
 have hiS:=hq.i
 obtain ⟨C,hC⟩:=h.at (i:=i) hiS
 have hclo:=h.cl i C hC
 have hSe:C.S = []:=by
  rw [h.hS i C hC];unfold sW;rw [hq.w,hx];simp only;rw [if_neg (fun q=>by have:=q.1;rw [hq.s] at this;cases this)]
 have hfl:=h.hFl
 have hqi:qf Cs i = C.buf:=by unfold qf;rw [hC];simp only;rw [hSe];simp
 have hx1:=pp_cget (⟨x.p + 1,1,x.v,x.y⟩:Pg) hx
 rcases rW_one A cs S i with r | ⟨r1,r2,r3⟩ | ⟨r1,z,r2,r3,r4,r5⟩
 ·have hR:C.R = []:=(h.hR i C hC).trans r
  by_cases hb:C.buf.length < N
  ·rw [pp_sen2 hiS hC hclo hR hb hx1]
   show PpFit S m N (ppW S m N A (cs.set c ⟨x.p + 1,1,x.v,x.y⟩) (Cs.set i ⟨C.buf ++ [x.v],C.S,[],false⟩) out ck)
   obtain ⟨o1,o2⟩:=hq.ok hx h 1 (.inl rfl)
   refine h.mkC hC ⟨C.buf ++ [x.v],C.S,[],false⟩ A _ (by rw [List.length_set];exact hn) h.hA o1 o2 rfl ?_ ?_ (fun k _ _=>hq.rW hx 1 k) (fun k hk hkS=>hq.sW hx _ k hk hkS) (fun q=>absurd rfl q) ?_
   ·rw [hq.rW hx 1 i];exact r.symm
   ·rw [sW_set hx,if_pos hq.w,if_neg (fun q=>by simp at q)];exact hSe
   ·rw [hq.flow hx 1 (Cs:=Cs) (by rw [qf_set hC,if_pos rfl,hqi,hSe];simp) (fun k hk=>by rw [qf_set hC,if_neg hk])]
    exact hfl
  ·rw [pp_sen3 hiS hC hclo hR hb hx1,List.set_set]
   show PpFit S m N (ppW S m N A (cs.set c ⟨x.p + 1,2,x.v,x.y⟩) (Cs.set i ⟨C.buf,C.S ++ [(((c + 1:Nat):Int),0,x.v)],[],false⟩) out ck)
   obtain ⟨o1,o2⟩:=hq.ok hx h 2 (.inr rfl)
   refine h.mkC hC ⟨C.buf,C.S ++ [(((c + 1:Nat):Int),0,x.v)],[],false⟩ A _ (by rw [List.length_set];exact hn) h.hA o1 o2 rfl ?_ ?_ (fun k _ _=>hq.rW hx 2 k) (fun k hk hkS=>hq.sW hx _ k hk hkS) (fun q=>absurd rfl q) ?_
   ·rw [hq.rW hx 2 i];exact r.symm
   ·rw [sW_set hx,if_pos hq.w,if_pos ⟨rfl,by rcases hq with ⟨g1,g2,g3,g4⟩ | ⟨g1,g2,-⟩;(exact .inr (by simp only;omega));exact .inl g2⟩,hSe];rfl
   ·rw [hq.flow hx 2 (Cs:=Cs) (by rw [qf_set hC,if_pos rfl,hqi,hSe];simp) (fun k hk=>by rw [qf_set hC,if_neg hk])]
    exact hfl
 ·-- the first one waits for it
  have hR:C.R = [(0,0,0)]:=(h.hR i C hC).trans r3
  obtain ⟨b1,b2⟩:=h.em i C hC (by rw [hR];simp)
  have hk:A.k = S + 2:=by have:=h.hA;rcases this with q | q | q | q <;> omega
  have hlv:(Cs.set i ⟨C.buf,C.S,[],false⟩).map (leF 0) = Cs.set i ⟨C.buf,C.S,[],false⟩:=by
   refine h.leaves (fun k D hk hD w hw=>?_) (fun k D hk hD w hw=>?_) (fun w hw=>by cases hw) (fun w hw=>by rw [show (⟨C.buf,C.S,[],false⟩:Ch).S = C.S from rfl,hSe] at hw;cases hw)
   ·rcases rW_one A cs S k with q | ⟨q1,-,-⟩ | ⟨-,y,-,-,-,q⟩
    ·rw [q] at hw;cases hw
    ·exact absurd (q1.trans r1.symm) hk
    ·rw [q] at hw;rw [List.mem_singleton.1 hw];show ((k + 1:Nat):Int) ≠ 0;omega
   ·rcases sW_one cs S k with q | ⟨y,-,-,-,q⟩
    ·rw [q] at hw;cases hw
    ·rw [q] at hw;rw [List.mem_singleton.1 hw];show ((widx S k + 1:Nat):Int) ≠ 0;omega
  rw [pp_senM hC hclo hR hx1 r2 hk hlv]
  show PpFit S m N (ppW S m N ⟨A.k,1,A.b,x.v,1⟩ (cs.set c ⟨x.p + 1,1,x.v,x.y⟩) (Cs.set i ⟨C.buf,C.S,[],false⟩) out ck)
  obtain ⟨o1,o2⟩:=hq.ok hx h 1 (.inl rfl)
  refine h.mkC hC ⟨C.buf,C.S,[],false⟩ ⟨A.k,1,A.b,x.v,1⟩ _ (by rw [List.length_set];exact hn) (.inr (.inl ⟨hk,rfl⟩)) o1 o2 rfl ?_ ?_ (fun k hk2 _=>?_) (fun k hk hkS=>hq.sW hx _ k hk hkS) (fun q=>absurd rfl q) ?_
  ·unfold rW;rw [if_pos r1,if_neg (by simp)]
  ·rw [sW_set hx,if_pos hq.w,if_neg (fun q=>by simp at q)];exact hSe
  ·rw [← hq.rW (A:=A) hx 1 k]
   unfold rW
   rw [if_neg (by omega),if_neg (by omega)]
  ·have e1:hmA A S = []:=by unfold hmA;rw [if_neg (by omega)]
   have e2:hmA ⟨A.k,1,A.b,x.v,1⟩ S = [x.v]:=by unfold hmA;rw [if_pos ⟨hk,rfl⟩]
   rw [e1,List.nil_append] at hfl
   rw [e2]
   have f1:=hq.flow hx 1 (Cs:=Cs) (q':=fun k=>if k = i then [x.v] else qf Cs k) (by rw [if_pos rfl,hqi,b1];rfl) (fun k hk=>by rw [if_neg hk])
   rw [fl_last (q':=qf (Cs.set i ⟨C.buf,C.S,[],false⟩)) S x.v (by rw [if_pos r1.symm,qf_set hC,if_pos r1.symm,b1,b2];rfl) (fun k hk=>by rw [if_neg (by omega),qf_set hC,if_neg (by omega)])] at f1
   rw [← hfl,← f1]
   rfl
 ·-- a stage waits for it
  have hR:C.R = [(((i + 1:Nat):Int),0,0)]:=(h.hR i C hC).trans r5
  obtain ⟨b1,b2⟩:=h.em i C hC (by rw [hR];simp)
  have hiS2:i < S:=by omega
  have hci:i ≠ c:=fun e=>by subst e;rw [hx] at r2;cases r2;have:=hq.s;omega
  have hz1:(cs.set c ⟨x.p + 1,1,x.v,x.y⟩)[i]? = some z:=by rw [p_set hx,if_neg hci];exact r2
  have hlv:(Cs.set i ⟨C.buf,C.S,[],false⟩).map (leF ((i + 1:Nat):Int)) = Cs.set i ⟨C.buf,C.S,[],false⟩:=by
   refine h.leaves (fun k D hk hD w hw=>?_) (fun k D hk hD w hw=>?_) (fun w hw=>by cases hw) (fun w hw=>by rw [show (⟨C.buf,C.S,[],false⟩:Ch).S = C.S from rfl,hSe] at hw;cases hw)
   ·rcases rW_one A cs S k with q | ⟨q1,-,q⟩ | ⟨-,y,-,-,-,q⟩
    ·rw [q] at hw;cases hw
    ·rw [q] at hw;rw [List.mem_singleton.1 hw];show (0:Int) ≠ ((i + 1:Nat):Int);omega
    ·rw [q] at hw;rw [List.mem_singleton.1 hw];show ((k + 1:Nat):Int) ≠ ((i + 1:Nat):Int);omega
   ·rcases sW_one cs S k with q | ⟨y,q1,q2,q3,q⟩
    ·rw [q] at hw;cases hw
    ·rw [q] at hw;rw [List.mem_singleton.1 hw]
     show ((widx S k + 1:Nat):Int) ≠ ((i + 1:Nat):Int)
     intro e
     have e2:widx S k = i:=by omega
     rw [e2,r2] at q1
     cases q1
     rcases q3 with t | t
     ·subst t;unfold widx at e2;rw [if_pos rfl] at e2;omega
     ·omega
  rw [pp_sen1 (e:=i) (a:=(i:Int)) hC hclo hR hx1 hz1 r4 (by omega) (by rw [pp_fs1 hiS2,r3];rfl) hlv]
  show PpFit S m N (ppW S m N A ((cs.set c ⟨x.p + 1,1,x.v,x.y⟩).set i ⟨z.p,1,x.v,1⟩) (Cs.set i ⟨C.buf,C.S,[],false⟩) out ck)
  obtain ⟨o1,o2⟩:=hq.ok hx h 1 (.inl rfl)
  refine h.mkC hC ⟨C.buf,C.S,[],false⟩ A _ (by rw [List.length_set,List.length_set];exact hn) h.hA (set_x hiS2 (.inr (.inl ⟨r3,rfl⟩)) o1) (set_f (by omega) o2) rfl ?_ ?_ (fun k hk2 _=>?_) (fun k hk hkS=>?_) (fun q=>absurd rfl q) ?_
  ·rw [rW_set hz1,if_pos ⟨rfl,r1⟩,if_neg (fun q=>by simp at q)]
  ·rw [sW_set hz1,if_neg (by rw [hq.w];exact fun e=>hci e.symm),sW_set hx,if_pos hq.w,if_neg (fun q=>by simp at q)];exact hSe
  ·rw [rW_set hz1,if_neg (fun q=>hk2 q.1)];exact hq.rW hx 1 k
  ·rw [sW_set hz1]
   split
   ·rename_i q
    rw [if_neg (fun q=>by simp at q)]
    unfold sW
    rw [q,r2]
    simp only
    rw [if_neg]
    rintro ⟨-,t | t⟩
    ·subst t;unfold widx at q;rw [if_pos rfl] at q;omega
    ·omega
   ·exact hq.sW hx _ k hk hkS
  ·have f1:=hq.flow hx 1 (Cs:=Cs) (q':=fun k=>if k = i then [x.v] else qf Cs k) (by rw [if_pos rfl,hqi,b1];rfl) (fun k hk=>by rw [if_neg hk])
   rw [rest_set hz1,if_neg (by omega),fl_take (q:=fun k=>if k = i then [x.v] else qf Cs k) (h:=hf (cs.set c ⟨x.p + 1,1,x.v,x.y⟩)) i x.v (by rw [if_pos rfl,qf_set hC,if_pos rfl,b1,b2];rfl) (fun k hk=>by rw [if_neg hk,qf_set hC,if_neg hk]) (by rw [hf_set hx,if_neg hci];unfold hf;rw [r2];simp only;rw [if_neg (by omega)]) (by rw [hf_set hz1,if_pos rfl,if_pos ⟨r3,rfl⟩]) (fun k hk=>by rw [hf_set hz1,if_neg hk]) S hiS2,f1]
   exact hfl
end
end Go.Proofs.YtphfaekpckbepaaGreat
open Go Go.RowKit
set_option linter.unusedVariables false
namespace Go.Proofs.YtphfaekpckbepaaGreat
section
variable {S m N:Nat} {W:Wd} {A:Pa} {cs:List Pg} {Cs:List Ch} {out:List Int} {ck:Nat}
theorem PpI.feedTo (h:PpI S m N W A cs Cs out ck) {x y:Pg} (hx:cs[S]? = some x) (hs:x.s = 1) (hy:y.s ≠ 2) (ok:FdOk m y) (hp:y.p / 2 = x.p / 2):PpFit S m N (ppW S m N A (cs.set S y) Cs out ck):=by
 refine h.mk0 A (cs.set S y) out (by rw [List.length_set];exact h.hn) h.hA (set_xf h.hx) (set_ff ok h.hFd) (fun k hk=>?_) (fun k hk=>?_) ?_
 ·rw [rW_set hx,if_neg (fun q=>q.2 q.1)]
 ·rw [sW_set hx]
  split
  ·rename_i q
   rw [if_neg (fun q=>hy q.1)]
   unfold sW
   rw [q,hx]
   simp only
   rw [if_neg (by omega)]
  ·rfl
 ·have e:restF cs S m = (vals m).drop (x.p / 2):=by unfold restF;rw [hx]
  rw [rest_set hx,if_pos rfl,hp,← e,fl_congr (q:=qf Cs) (q':=qf Cs) (h:=hf cs) S (fun _ _=>rfl) (fun j hj=>by rw [hf_set hx,if_neg (by omega)])]
  exact h.hFl
theorem PpI.feed (h:PpI S m N W A cs Cs out ck) {x:Pg} (hx:cs[S]? = some x) (hs:x.s = 1) (d:Int):PpFit S m N (execM W ((S + 1:Nat):Int) d).1:=by
 rcases h.hFd x hx with ⟨-,q2,q3⟩ | ⟨q,-⟩ | ⟨q,-⟩
 ·rcases Nat.mod_two_eq_zero_or_one x.p with e | e
  ·rw [h.e]
   rcases Nat.lt_or_ge x.p (2 * m) with g | g
   ·rw [pp_const (v:=((10 + x.p / 2:Nat):Int)) hx hs (by rw [pp_fs2];have:=(pp_fd1 (m:=m) (i:=x.p / 2) (by omega)).1;rw [show 2 * (x.p / 2) = x.p by omega] at this;exact this)]
    exact h.feedTo hx hs (show (1:Int) ≠ 2 by decide) (.inl ⟨rfl,by simp only;omega,fun _=>by simp only;congr 1;omega⟩) (by simp only;omega)
   ·have hp:x.p = 2 * m:=by omega
    rw [pp_cret hx hs (by rw [pp_fs2,hp];exact pp_fd2 m)]
    exact h.feedTo hx hs (show (4:Int) ≠ 2 by decide) (.inr (.inr ⟨rfl,by simp only;omega⟩)) (by simp only;omega)
  ·exact h.send (i:=0) hx (.inr ⟨rfl,rfl,e,by omega,hs,q3 e⟩) d
 ·omega
 ·omega
theorem PpI.other (h:PpI S m N W A cs Cs out ck) {c:Nat} {x:Pg} (hx:cs[c]? = some x) (hs:x.s = 1) (d:Int):PpFit S m N (execM W ((c + 1:Nat):Int) d).1:=by
 have hc:c < cs.length:=(List.getElem?_eq_some_iff.1 hx).1
 have hn:=h.hn
 rcases Nat.lt_or_ge c S with g | g
 ·rcases h.hx c x hx g with ⟨p,-⟩ | ⟨p,-⟩ | ⟨-,p⟩ | ⟨p,-⟩ | ⟨-,p⟩
  ·exact h.stRecv g hx hs p d
  ·exact h.send (i:=c + 1) hx (.inl ⟨g,rfl,p,hs⟩) d
  ·omega
  ·exact h.stJump g hx hs p d
  ·omega
 ·obtain rfl:c = S:=by omega
  exact h.feed hx hs d
end
def ppRooms (S:Nat) (room:Int):List Int:=List.replicate (S + 1) room
def ppX0 (S m:Nat) (room:Int) (np nm:Nat) (ring sl:Int):Sd:=newSd (newM (ppFs S m) [] (ppRooms S room) 0) np nm ring sl
def ppCs (n:Nat):List Ch:=List.replicate n ⟨[],[],[],false⟩
theorem ppCs_at {n i:Nat} {C:Ch} (h:(ppCs n)[i]? = some C):C = ⟨[],[],[],false⟩:=by
 unfold ppCs at h
 exact (List.eq_of_mem_replicate (List.mem_of_getElem? h))
theorem pp_fl0:∀ (n k:Nat),fl (qf (ppCs k)) (hf []) n = []
 | 0,k=>by
  unfold fl qf
  split
  ·rename_i C h;rw [ppCs_at h];rfl
  ·rfl
 | n + 1,k=>by
  unfold fl
  rw [pp_fl0 n k]
  unfold qf hf
  split
  ·rename_i C h;rw [ppCs_at h];rfl
  ·rfl
theorem pp_new (S m:Nat) (room:Int):newM (ppFs S m) [] (ppRooms S room) 0 = ppW S m (roomC room) ⟨0,1,0,0,0⟩ [] (ppCs (S + 1)) [] 0:=by
 unfold newM ppW ppRooms ppCs
 simp
 exact ⟨rfl,rfl⟩
theorem pp_first (S m:Nat) (room:Int):PpFit S m (roomC room) (newM (ppFs S m) [] (ppRooms S room) 0):=by
 refine ⟨⟨0,1,0,0,0⟩,[],ppCs (S + 1),[],0,pp_new S m room,by unfold ppCs;rw [List.length_replicate],by simp,.inl ⟨by simp only;omega,rfl⟩,fun j x h=>(by simp at h),fun x h=>(by simp at h),fun i C h=>by rw [ppCs_at h],fun i C h=>?_,fun i C h=>?_,fun i C h=>?_,?_⟩
 ·rw [ppCs_at h];unfold rW;split <;> simp
 ·rw [ppCs_at h];unfold sW;simp
 ·rw [ppCs_at h];exact fun q=>absurd rfl q
 ·rw [pp_fl0];unfold hmA restF;simp
end Go.Proofs.YtphfaekpckbepaaGreat
open Go Go.RowKit
set_option linter.unusedVariables false
namespace Go.Proofs.YtphfaekpckbepaaGreat
theorem pp_pw (S m:Nat) (room:Int) (hS:1 ≤ S) (hS2:S ≤ 10) (hm:m ≤ 10):PW (ppFs S m) [] (ppRooms S room).length 0:=by
 have hR:(ppRooms S room).length = S + 1:=by unfold ppRooms;rw [List.length_replicate]
 have hF:(ppFs S m).length = S + 2:=by unfold ppFs;rw [List.length_cons,List.length_append,ppSts_len];rfl
 have hM:(ppMain S).length = S + 4:=by unfold ppMain;rw [List.length_append,ppSp_len];rfl
 have hD:(ppFd m).length = 2 * m + 1:=by unfold ppFd;rw [List.length_append,ppFe_len];rfl
 have hmem:∀ l ∈ ppFs S m,l = ppMain S ∨ (∃ i,i < S ∧ l = ppSt i) ∨ l = ppFd m:=fun l hl=>by
  unfold ppFs at hl
  rcases List.mem_cons.1 hl with h | h
  ·exact .inl h
  ·rcases List.mem_append.1 h with h | h
   ·obtain ⟨i,hi⟩:=List.mem_iff_getElem?.1 h
    have hi2:i < S:=by have:=(List.getElem?_eq_some_iff.1 hi).1;rw [ppSts_len] at this;exact this
    rw [ppSts_at S i hi2] at hi
    exact .inr (.inl ⟨i,hi2,(Option.some.inj hi).symm⟩)
   ·exact .inr (.inr (List.mem_singleton.1 h))
 rw [hR]
 refine ⟨by omega,fun l hl=>?_,fun l hl x hx=>?_,by decide,fun k hk=>by simp at hk,by omega,by decide⟩
 ·rcases hmem l hl with rfl | ⟨i,-,rfl⟩ | rfl
  ·omega
  ·show 3 ≤ 900;omega
  ·omega
 ·rw [hF]
  rcases hmem l hl with rfl | ⟨i,hi,rfl⟩ | rfl
  ·rw [hM]
   unfold ppMain at hx
   rcases List.mem_append.1 hx with h | h
   ·obtain ⟨i,hi⟩:=List.mem_iff_getElem?.1 h
    have hi2:i < S + 1:=by have:=(List.getElem?_eq_some_iff.1 hi).1;rw [ppSp_len] at this;exact this
    rw [ppSp_at (S + 1) i hi2] at hi
    obtain rfl:=Option.some.inj hi
    refine ⟨by simp only;omega,?_⟩
    simp [goodB,inn]
    omega
   ·simp at h
    rcases h with rfl | rfl | rfl
    ·refine ⟨by simp only;omega,?_⟩
     simp [goodB,inn]
     try omega
    ·exact ⟨by decide,rfl⟩
    ·refine ⟨by simp only;omega,?_⟩
     simp [goodB,inn]
     try omega
  ·show _ ∧ goodB (S + 2) (S + 1) _ _ 3 x = _
   simp [ppSt] at hx
   rcases hx with rfl | rfl | rfl
   ·refine ⟨by simp only;omega,?_⟩
    simp [goodB,inn]
    try omega
   ·refine ⟨by simp only;omega,?_⟩
    simp [goodB,inn]
    try omega
   ·exact ⟨by decide,rfl⟩
  ·rw [hD]
   unfold ppFd at hx
   rcases List.mem_append.1 hx with h | h
   ·obtain ⟨i,hi⟩:=List.mem_iff_getElem?.1 h
    have hi2:i < 2 * m:=by have:=(List.getElem?_eq_some_iff.1 hi).1;rw [ppFe_len] at this;exact this
    have h2:=ppFe_at m (i / 2) (by omega)
    rcases Nat.mod_two_eq_zero_or_one i with e | e
    ·rw [show i = 2 * (i / 2) by omega,h2.1] at hi
     obtain rfl:=Option.some.inj hi
     exact ⟨by simp only;omega,rfl⟩
    ·rw [show i = 2 * (i / 2) + 1 by omega,h2.2] at hi
     obtain rfl:=Option.some.inj hi
     refine ⟨by simp only;omega,?_⟩
     simp [goodB,inn]
     try omega
   ·obtain rfl:=List.mem_singleton.1 h
    exact ⟨by decide,rfl⟩
theorem pp_keeps_all {S m:Nat} {room:Int} {k np nm:Nat} {ring sl:Int} {Y:Sd} (hS:1 ≤ S) (hS2:S ≤ 10) (hm:m ≤ 10) (h1:1 ≤ np ∧ np ≤ 64) (h2:1 ≤ nm ∧ nm ≤ 64) (h3:1 ≤ sl ∧ sl ≤ 1024) (hk:k ≤ 70000) (h:Rch (ppX0 S m room np nm ring sl) k Y):PpFit S m (roomC room) Y.W ∧ SdWF k Y:=by
 refine h.keeps (PpFit S m (roomC room)) (fun W hW=>?_) (fun W hW hen=>?_) (fun B W g d hW wf hen hg hst=>?_) (pp_first S m room) (newSd_wf (rooms:=ppRooms S room) (pp_pw S m room hS hS2 hm) h1 h2 h3) hk
 ·obtain ⟨A,cs,Cs,out,ck,h⟩:=hW
  rw [h.e]
  exact ⟨rfl,.inl rfl⟩
 ·obtain ⟨A,cs,Cs,out,ck,h⟩:=hW
  obtain ⟨rfl,p1,p2,p3,p4,p5,p6,p7,p8,p9,p10⟩:=h
  rw [pp_tick]
  exact ⟨A,cs,Cs,out,ck + 1,rfl,p1,p2,p3,p4,p5,p6,p7,p8,p9,p10⟩
 ·obtain ⟨A,cs,Cs,out,ck,h⟩:=hW
  cases g with
  | zero =>
   have hs:A.s = 1:=by rw [h.e] at hst;exact hst
   exact h.main hS hS2 hm hs d
  | succ c =>
   have hc:c < cs.length:=by have:=hg;rw [h.e,pp_len] at this;omega
   obtain ⟨x,hx⟩:∃ x,cs[c]? = some x:=⟨_,List.getElem?_eq_getElem hc⟩
   rw [h.e,pp_gc hx] at hst
   exact h.other hx hst d
section
variable {S m N:Nat} {W:Wd} {A:Pa} {cs:List Pg} {Cs:List Ch} {out:List Int} {ck:Nat}
theorem PpI.dry (h:PpI S m N W A cs Cs out ck) (hl:cs.length = S + 1) (hst:∀ x ∈ cs,x.s ≠ 1):∀ j,j ≤ S → rW A cs S j ≠ [] → fl (qf Cs) (hf cs) j ++ restF cs S m = []
 | 0,hj,hr=>by
  obtain ⟨C,hC⟩:=h.at hj
  obtain ⟨b1,b2⟩:=h.em 0 C hC (by rw [h.hR 0 C hC];exact hr)
  have hq:qf Cs 0 = []:=by unfold qf;rw [hC];simp only;rw [b1,b2];rfl
  obtain ⟨x,hx⟩:∃ x,cs[S]? = some x:=⟨_,List.getElem?_eq_getElem (by omega)⟩
  have hne:=hst x (List.mem_of_getElem? hx)
  have hs:=h.hS 0 C hC
  rw [b2] at hs
  rcases h.hFd x hx with ⟨q,-⟩ | ⟨q,-⟩ | ⟨-,q⟩
  ·exact absurd q hne
  ·unfold sW at hs
   rw [show widx S 0 = S from rfl,hx] at hs
   simp only at hs
   rw [if_pos ⟨q,.inl trivial⟩] at hs
   cases hs
  ·show qf Cs 0 ++ restF cs S m = []
   rw [hq]
   unfold restF
   rw [hx]
   simp only
   rw [show x.p / 2 = m by omega,List.drop_eq_nil_of_le (by rw [vals_len];omega)]
   rfl
 | j + 1,hj,hr=>by
  obtain ⟨C,hC⟩:=h.at hj
  obtain ⟨b1,b2⟩:=h.em (j + 1) C hC (by rw [h.hR (j + 1) C hC];exact hr)
  have hq:qf Cs (j + 1) = []:=by unfold qf;rw [hC];simp only;rw [b1,b2];rfl
  obtain ⟨x,hx⟩:∃ x,cs[j]? = some x:=⟨_,List.getElem?_eq_getElem (by omega)⟩
  have hne:=hst x (List.mem_of_getElem? hx)
  have hs:=h.hS (j + 1) C hC
  rw [b2] at hs
  have hp:x.p = 1 ∧ x.s = 2:=by
   rcases h.hx j x hx (by omega) with ⟨-,q⟩ | ⟨-,q⟩ | q | ⟨-,q⟩ | ⟨q1,q2⟩
   ·exact absurd q hne
   ·exact absurd q hne
   ·exact q
   ·exact absurd q hne
   ·unfold sW at hs
    rw [show widx S (j + 1) = j by unfold widx;rw [if_neg (by omega)];omega,hx] at hs
    simp only at hs
    rw [if_pos ⟨q2,.inr q1⟩] at hs
    cases hs
  have hh:hf cs j = []:=by unfold hf;rw [hx];simp only;rw [if_neg (by omega)]
  have hr2:rW A cs S j ≠ []:=by
   unfold rW
   rw [if_neg (by omega),hx]
   simp only
   rw [if_pos hp]
   simp
  show (qf Cs (j + 1) ++ (hf cs j ++ fl (qf Cs) (hf cs) j)) ++ restF cs S m = []
  rw [hq,hh]
  exact h.dry hl hst j (by omega) hr2
end
theorem pp_sees {S m N:Nat} {Y:Sd} (hS:1 ≤ S) (h:PpFit S m N Y.W):(Y.W.out.length ≤ m ∧ ∀ (i:Nat) (v:Int),Y.W.out[i]? = some v → v = ((10 + i:Nat):Int)) ∧ (overM Y = 0 ∨ (overM Y = 3 ∧ Y.W.out.length = m)):=by
 obtain ⟨A,cs,Cs,out,ck,h⟩:=h
 have hfl:=h.hFl
 have hlen:=congrArg List.length hfl
 rw [List.length_append,vals_len] at hlen
 have eo:Y.W.out = out:=by rw [h.e];rfl
 rw [eo]
 refine ⟨⟨by omega,fun i v hv=>?_⟩,?_⟩
 ·have hi:=(List.getElem?_eq_some_iff.1 hv).1
  have h2:=vals_at m i (by omega)
  rw [← hfl,List.getElem?_append_left hi,hv] at h2
  exact Option.some.inj h2
 ·unfold overM
  rw [h.e,show (ppW S m N A cs Cs out ck).en = 0 from rfl,if_neg (by decide),if_neg (by decide)]
  by_cases hs:stuckM (ppW S m N A cs Cs out ck) = true
  ·rw [if_pos hs]
   refine .inr ⟨rfl,?_⟩
   unfold stuckM at hs
   have hall:∀ G ∈ (ppW S m N A cs Cs out ck).gs,G.st ≠ 1:=fun G hG e=>by
    have:((ppW S m N A cs Cs out ck).gs.any fun G=>decide (G.st = 1) || decide (G.st = 3)) = true:=List.any_eq_true.2 ⟨G,hG,by rw [e];rfl⟩
    rw [this] at hs
    cases hs
   have hA1:A.s ≠ 1:=hall (paG A) (List.mem_cons_self ..)
   have hA:A.k = S + 2 ∧ A.s = 2:=by rcases h.hA with q | q | q | q <;> omega
   have hl:cs.length = S + 1:=by have:=h.hn;omega
   have hc:∀ x ∈ cs,x.s ≠ 1:=fun x hx=>by
    obtain ⟨c,hcx⟩:=List.getElem?_of_mem hx
    exact hall (pgG (1 + c) x) (List.mem_cons_of_mem _ (List.mem_of_getElem? (pgs_at 1 cs c x hcx)))
   have hd:=h.dry hl hc S (Nat.le_refl S) (by unfold rW;rw [if_pos rfl,if_pos hA.2];simp)
   have e2:hmA A S = []:=by unfold hmA;rw [if_neg (by omega)]
   rw [hd,e2] at hlen
   simpa using hlen
  ·rw [if_neg hs];exact .inl rfl
end Go.Proofs.YtphfaekpckbepaaGreat
open Go Go.RowKit
set_option linter.unusedVariables false
namespace Go.Proofs.YtphfaekpckbepaaGreat
theorem info_case:(Tryz.prog.info? 119).map (fun i=>(i.zero,i.size,i.bytes)) = some (some (.agg #[.int .i64 0,.int .i64 0,.int .i64 0]),3,24):=by kernel_rfl
theorem info_ins:(Tryz.prog.info? 29).map (fun i=>(i.zero,i.size,i.bytes)) = some (some (.agg #[.int .i64 0,.int .i64 0,.int .i64 0,.int .i64 0]),4,32):=by kernel_rfl
theorem clonek_any (w:World) (a:Option Addr) (n c:Nat) (cs:List Value) (h:CellsAt w a cs) (hlen:cs.length = n * 3) (hnil:a = none → c = 0) (hone:∀ u ∈ cs,u.oneCell' = true) (hl:n ≤ 1000000) :
  Calls Tryz.prog 39 #[.slice a n c] w fun r w'=>∃ a' c',r = .returned (.slice a' n c') ∧ RowG 3 w' a' c' n cs ∧ (∀ x ∈ blk a',w.heap.size ≤ x) ∧ Below w.heap.size w w':=by
 cases a with
 | none =>
  have hcs:cs = []:=by
   cases cs with
   | nil=>rfl
   | cons u t=>obtain ⟨b,off,hx,-⟩:=h 0 u rfl;cases hx
  subst hcs
  obtain rfl:c = 0:=hnil rfl
  obtain rfl:n = 0:=by simp at hlen;omega
  clear h hone hlen hnil
  have he:∀ w:World,(binOp .eql 32 (.slice none 0 0) (.slice none 0 0)).run Tryz.prog w = .ok (.bool true) w:=fun _=>rfl
  go_enter Tryz.func39,Tryz.ntmps39
  go_wp2
  go_ret
  exact ⟨none,0,rfl,RowG.nil _ _,fun x hx=>by simp [blk] at hx,Below.refl _ _⟩
 | some ad =>
  obtain ⟨i0,hi0,hz0,hz1,hz2⟩:=info_parts info_case
  have Hi:=Lib.hid hi0;clear hi0
  have Hz0:=Lib.hid hz0;clear hz0
  have Hz1:=Lib.hid hz1;clear hz1
  have Hz2:=Lib.hid hz2;clear hz2
  have H:=Lib.hid h
  have HN:=Lib.hid hlen
  have HO:=Lib.hid hone
  clear h hone hlen hnil
  have he:∀ w:World,(binOp .eql 32 (.slice (some ad) n c) (.slice none 0 0)).run Tryz.prog w = .ok (.bool false) w:=fun _=>rfl
  go_enter Tryz.func39,Tryz.ntmps39
  go_wp2_with (at_builtin;refine wpList_append_rowG (m:=n) (n:=0) (cs:=[]) (ds:=cs) rfl _ _ 32 rfl 119 i0 _ Tryz.underlying32 Hi.out Hz0.out Hz1.out Hz2.out rfl (by omega) (by omega) rfl rfl (RowG.zero (by simp)) (H.out.below (below_alloc1 _ _)) HN.out HO.out (by omega) ?_)
  intro a1 c1 w1 k1 ch1 f1
  have hf:RowG 3 w1 a1 c1 n cs ∧ (∀ x ∈ blk a1,w.heap.size ≤ x) ∧ Below w.heap.size w w1:=by
   refine ⟨by simpa using k1,fun x hx=>?_,Chg.below (below_alloc1 _ _) ch1 (fun x hx=>by simp [blk] at hx;omega)⟩
   rcases f1 x hx with h | h
   ·simp [blk] at h;omega
   ·first | omega | (simp at h;omega)
  have HF:=Lib.hid hf
  clear hf k1 ch1 f1
  go_wp2
  go_ret
  exact ⟨a1,c1,by simp,HF.out⟩
theorem clonef_any (w:World) (a:Option Addr) (n c:Nat) (cs:List Value) (h:CellsAt w a cs) (hlen:cs.length = n * 4) (hnil:a = none → c = 0) (hone:∀ u ∈ cs,u.oneCell' = true) (hl:n ≤ 1000000) :
  Calls Tryz.prog 41 #[.slice a n c] w fun r w'=>∃ a' c',r = .returned (.slice a' n c') ∧ RowG 4 w' a' c' n cs ∧ (∀ x ∈ blk a',w.heap.size ≤ x) ∧ Below w.heap.size w w':=by
 cases a with
 | none =>
  have hcs:cs = []:=by
   cases cs with
   | nil=>rfl
   | cons u t=>obtain ⟨b,off,hx,-⟩:=h 0 u rfl;cases hx
  subst hcs
  obtain rfl:c = 0:=hnil rfl
  obtain rfl:n = 0:=by simp at hlen;omega
  clear h hone hlen hnil
  have he:∀ w:World,(binOp .eql 26 (.slice none 0 0) (.slice none 0 0)).run Tryz.prog w = .ok (.bool true) w:=fun _=>rfl
  go_enter Tryz.func41,Tryz.ntmps41
  go_wp2
  go_ret
  exact ⟨none,0,rfl,RowG.nil _ _,fun x hx=>by simp [blk] at hx,Below.refl _ _⟩
 | some ad =>
  obtain ⟨i0,hi0,hz0,hz1,hz2⟩:=info_parts info_ins
  have Hi:=Lib.hid hi0;clear hi0
  have Hz0:=Lib.hid hz0;clear hz0
  have Hz1:=Lib.hid hz1;clear hz1
  have Hz2:=Lib.hid hz2;clear hz2
  have H:=Lib.hid h
  have HN:=Lib.hid hlen
  have HO:=Lib.hid hone
  clear h hone hlen hnil
  have he:∀ w:World,(binOp .eql 26 (.slice (some ad) n c) (.slice none 0 0)).run Tryz.prog w = .ok (.bool false) w:=fun _=>rfl
  go_enter Tryz.func41,Tryz.ntmps41
  go_wp2_with (at_builtin;refine wpList_append_rowG (m:=n) (n:=0) (cs:=[]) (ds:=cs) rfl _ _ 26 rfl 29 i0 _ Tryz.underlying26 Hi.out Hz0.out Hz1.out Hz2.out rfl (by omega) (by omega) rfl rfl (RowG.zero (by simp)) (H.out.below (below_alloc1 _ _)) HN.out HO.out (by omega) ?_)
  intro a1 c1 w1 k1 ch1 f1
  have hf:RowG 4 w1 a1 c1 n cs ∧ (∀ x ∈ blk a1,w.heap.size ≤ x) ∧ Below w.heap.size w w1:=by
   refine ⟨by simpa using k1,fun x hx=>?_,Chg.below (below_alloc1 _ _) ch1 (fun x hx=>by simp [blk] at hx;omega)⟩
   rcases f1 x hx with h | h
   ·simp [blk] at h;omega
   ·first | omega | (simp at h;omega)
  have HF:=Lib.hid hf
  clear hf k1 ch1 f1
  go_wp2
  go_ret
  exact ⟨a1,c1,by simp,HF.out⟩
theorem info_code:(Tryz.prog.info? 26).map (fun i=>(i.zero,i.size,i.bytes)) = some (some (.slice none 0 0),1,24):=by kernel_rfl
theorem Own.rowNil {w0 w:World} {As:List Asr} (h:Own w0 w As) (s:Nat):Own w0 w (RowGA s none 0 0 [] :: As):=h.add (Below.refl _ _) (A:=RowGA s none 0 0 []) (F:=[]) ⟨rfl,RowG.nil s w⟩ (fun x hx=>by simp at hx)
theorem frw_app {fr:List (Option Addr × Nat)} {fs:List (List In4)} (h:fr.length = fs.length) (r:Option Addr × Nat) (l:List In4):frw (fr ++ [r]) (fs ++ [l]) = frw fr fs ++ [.slice r.1 l.length r.2]:=by
 unfold frw;rw [List.zipWith_append h];rfl
theorem info_chp:(Tryz.prog.info? 122).map (fun i=>(i.zero,i.size,i.bytes)) = some (some (.pointer none),1,8):=by kernel_rfl
theorem info_lkp:(Tryz.prog.info? 124).map (fun i=>(i.zero,i.size,i.bytes)) = some (some (.pointer none),1,8):=by kernel_rfl
theorem ptrs_app (ps:List Pl) (x:Pl):ptrs (ps ++ [x]) = ptrs ps ++ [.pointer (some ⟨x.1,0,none⟩)]:=by unfold ptrs;rw [List.map_append];rfl
theorem chs_app {ps:List Pl} {Cs:List Ch} (h:ps.length = Cs.length) (x:Pl) (C:Ch):chs (ps ++ [x]) (Cs ++ [C]) = chs ps Cs ++ [ChanA x.1 x.2 C]:=by unfold chs;rw [List.zipWith_append h];rfl
theorem lptr_app (lp:List Nat) (x:Nat):lptr (lp ++ [x]) = lptr lp ++ [.pointer (some ⟨x,0,none⟩)]:=by unfold lptr;rw [List.map_append];rfl
theorem lks_app {lp:List Nat} {Ls:List (List Int)} (h:lp.length = Ls.length) (x:Nat) (L:List Int):lks (lp ++ [x]) (Ls ++ [L]) = lks lp Ls ++ [LockA x L]:=by unfold lks;rw [List.zipWith_append h];rfl
theorem Sep.mem {w:World}:∀ {l:List Asr} {F:List Nat} {i:Nat} {A:Asr},Sep w l F → l[i]? = some A → ∃ G,A.at_ w G ∧ ∀ x ∈ G,x ∈ F
 | [],_,_,_,_,hi=>by simp at hi
 | B :: t,F,0,A,h,hi=>by
  obtain ⟨F1,F2,rfl,h1,-,h2⟩:=h
  simp at hi;subst hi
  exact ⟨F1,h1,fun x hx=>by simp [hx]⟩
 | B :: t,F,i + 1,A,h,hi=>by
  obtain ⟨F1,F2,rfl,h1,-,h2⟩:=h
  obtain ⟨G,g1,g2⟩:=Sep.mem h2 (by simpa using hi)
  exact ⟨G,g1,fun x hx=>by simp [g2 x hx]⟩
structure ProgIn (w:World) (fa:Option Addr) (fr:List (Option Addr × Nat)) (fs:List (List In4)) (ra:Option Addr) (rooms:List Int) (ca:Option Addr) (cc:Nat) (ks:List Cs3):Prop where
 f:CellsAt w fa (frw fr fs)
 fl:fr.length = fs.length
 each:∀ (i:Nat) (r:Option Addr × Nat) (l:List In4),fr[i]? = some r → fs[i]? = some l → CellsAt w r.1 (i4s l) ∧ (r.1 = none → r.2 = 0) ∧ l.length ≤ 1000000
 c:CellsAt w ra (intc rooms)
 k:CellsAt w ca (c3s ks)
 kn:ca = none → cc = 0
 kl:ks.length ≤ 1000
 nf:fs.length ≤ 1000
 nc:rooms.length ≤ 1000
def clns (fr:List (Option Addr × Nat)) (fs:List (List In4)):List Asr:=List.zipWith (fun r l=>RowGA 4 r.1 r.2 l.length (i4s l)) fr fs
theorem clns_app {fr:List (Option Addr × Nat)} {fs:List (List In4)} (h:fr.length = fs.length) (r:Option Addr × Nat) (l:List In4):clns (fr ++ [r]) (fs ++ [l]) = clns fr fs ++ [RowGA 4 r.1 r.2 l.length (i4s l)]:=by
 unfold clns;rw [List.zipWith_append h];rfl
theorem code_fold {w0 w:World} {fA:Option Addr} {fC n m cc:Nat} {fr:List (Option Addr × Nat)} {fs:List (List In4)} {ca:Option Addr} {ks:List Cs3} {R:List Asr} (h:Own w0 w (RowGA 1 fA fC n (frw fr fs) :: LstA (clns fr fs) :: RowGA 3 ca cc m (c3s ks) :: R)):Own w0 w (CodeA fA fr fs ca ks :: R):=by
 refine Own.turn (As:=[RowGA 1 fA fC n (frw fr fs),LstA (clns fr fs),RowGA 3 ca cc m (c3s ks)]) (As':=[CodeA fA fr fs ca ks]) (R:=R) h (fun F hF=>?_)
 refine ⟨F,sep_one.2 ?_,Chg.refl _ _,fun x hx=>.inl hx⟩
 have hlt:=hF.lt
 obtain ⟨F1,Fa,rfl,⟨rfl,h1⟩,-,F2,Fb,rfl,h2,-,F3,F4,rfl,⟨rfl,h3⟩,-,rfl⟩:=hF
 refine ⟨hlt,⟨fun x hx=>by simp [hx],h1.cells⟩,⟨fun x hx=>by simp [hx],h3.cells⟩,fun i r l hr hl=>?_⟩
 have hi:(clns fr fs)[i]? = some (RowGA 4 r.1 r.2 l.length (i4s l)):=by unfold clns;rw [List.getElem?_zipWith,hr,hl]
 obtain ⟨G,⟨rfl,g1⟩,g2⟩:=Sep.mem h2 hi
 exact ⟨fun x hx=>by simp [g2 x hx],g1.cells⟩
theorem i4s_len2 (l:List In4):(i4s l).length = l.length * 4:=by
 induction l with
 | nil=>rfl
 | cons x t ih=>simp only [i4s,List.flatMap_cons,List.length_append,List.length_cons] at ih ⊢;rw [ih];simp [i4c];omega
def nwc (fA:Option Addr) (i fC:Nat) (hA:Option Addr) (j hC:Nat) (lA:Option Addr) (k lC:Nat) (ca:Option Addr) (nk cc:Nat) (aa:Option Addr):List Value :=
 [.slice fA i fC,.slice ca nk cc,.slice aa 1 1,.slice hA j hC,.slice lA k lC,.slice none 0 0,.int .u64 0,.int .u64 0,.slice none 0 0,.int .i64 0,.int .i64 0]
def npts (b:Nat) (fA:Option Addr) (fC:Nat) (fr:List (Option Addr × Nat)) (fs:List (List In4)) (hA:Option Addr) (hC:Nat) (ps:List Pl) (Cs:List Ch) (lA:Option Addr) (lC:Nat) (lp:List Nat) (Ls:List (List Int)) (ca:Option Addr) (cc:Nat) (ks:List Cs3) (aa:Option Addr) (g:Nat):List Asr :=
 [CelA b (nwc fA fs.length fC hA Cs.length hC lA Ls.length lC ca ks.length cc aa),RowGA 1 fA fC fs.length (frw fr fs),LstA (clns fr fs),RowGA 3 ca cc ks.length (c3s ks),RowGA 2 aa 1 1 [.int .i64 1,.slice (some ⟨g,0,none⟩) 1 1],LstA [StkA g 1 1 (newF 0 0 0)],
  RowGA 1 hA hC Cs.length (ptrs ps),LstA (chs ps Cs),RowGA 1 lA lC Ls.length (lptr lp),LstA (lks lp Ls)]
theorem c3s_one (ks:List Cs3):∀ u ∈ c3s ks,u.oneCell' = true:=by
 intro u hu
 unfold c3s at hu
 obtain ⟨k,-,hk⟩:=List.mem_flatMap.1 hu
 simp only [c3c,List.mem_cons,List.not_mem_nil,or_false] at hk
 rcases hk with rfl | rfl | rfl <;> rfl
theorem i4s_one (l:List In4):∀ u ∈ i4s l,u.oneCell' = true:=by
 intro u hu
 unfold i4s at hu
 obtain ⟨k,-,hk⟩:=List.mem_flatMap.1 hu
 simp [i4c] at hk
 rcases hk with rfl | rfl | rfl | rfl <;> rfl
theorem wnew_any (w:World) (fa:Option Addr) (fc:Nat) (fr:List (Option Addr × Nat)) (fs:List (List In4)) (ra:Option Addr) (rc:Nat) (rooms:List Int) (locks:Nat) (ca:Option Addr) (cc:Nat) (ks:List Cs3) (hp:ProgIn w fa fr fs ra rooms ca cc ks) (hlk:locks ≤ 1000) :
  Calls Tryz.prog 28 #[.agg #[.slice fa fs.length fc,.slice ra rooms.length rc,.int .i64 (locks:Int),.slice ca ks.length cc]] w fun r w'=>∃ b D,r = .returned (.pointer (some ⟨b,0,none⟩)) ∧ D.fits (newM fs ks rooms locks) ∧ Own w w' (wparts b (newM fs ks rooms locks) D []):=by
 obtain ⟨hf,hfl,heach,hc,hk,hkn,hkl,hnf,hnc⟩:=hp
 have b1:=below_alloc1 w (.cells #[.slice fa fs.length fc,.slice ra rooms.length rc,.int .i64 (locks:Int),.slice ca ks.length cc] 34)
 have x0:=Blk.mk w [.slice fa fs.length fc,.slice ra rooms.length rc,.int .i64 (locks:Int),.slice ca ks.length cc] 34 w.heap.size rfl
 have o1:Own w (w.alloc (.cells #[.slice fa fs.length fc,.slice ra rooms.length rc,.int .i64 (locks:Int),.slice ca ks.length cc] 34)) [CelA w.heap.size [.slice fa fs.length fc,.slice ra rooms.length rc,.int .i64 (locks:Int),.slice ca ks.length cc]] :=
  (Own.nil (Below.refl _ _)).alloc _ _ rfl
 have HO1:=Lib.hid o1
 have HKC:=Lib.hid (clonek_any _ ca ks.length cc (c3s ks) (hk.below b1) (c3s_len ks) hkn (c3s_one ks) (by omega))
 have HF:=Lib.hid hf
 have HC:=Lib.hid hc
 have HE:=Lib.hid heach
 have HFL:=Lib.hid hfl
 obtain ⟨i1,-⟩:=x0 0 _ rfl
 obtain ⟨i2,-⟩:=x0 1 _ rfl
 obtain ⟨i3,-⟩:=x0 2 _ rfl
 obtain ⟨i4,-⟩:=x0 3 _ rfl
 clear hf hfl heach hc hk hkn x0 o1 b1
 go_enter Tryz.func28,Tryz.ntmps28
 go_wp2_with fail
 refine HKC.out.mono ?_
 rintro r w2 ⟨ca',cc',rfl,hr2,hf2,hb2⟩
 have o2:=HO1.out.add hb2 (A:=RowGA 3 ca' cc' ks.length (c3s ks)) (F:=blk ca') ⟨rfl,hr2⟩ hf2
 have H2:=Lib.hid o2
 clear o2 hr2 hf2 hb2 HKC HO1
 go_wp2_with fail
 refine (gbegin_any 0 0 _).mono ?_
 rintro r w3 ⟨g,rfl,hg,hs,hb3⟩
 have o3:=H2.out.add hb3 (A:=StkA g 1 1 (newF 0 0 0)) (F:=[g]) ⟨rfl,hs⟩ (by intro x hx;simp at hx;omega)
 have H3:=Lib.hid o3
 clear o3 hg hs hb3 H2
 have H4:=Lib.hid (((((((H3.out.pick 2 rfl).lst (l:=[])).rowNil 1).lst (l:=[])).rowNil 1).pick 5 rfl).lst (l:=[StkA g 1 1 (newF 0 0 0)]))
 clear H3
 have o5:=H4.out.add (below_alloc1 w3 (.cells #[.int .i64 1,.slice (some ⟨g,0,none⟩) 1 1] 88)) (A:=RowGA 2 (some ⟨w3.heap.size,0,none⟩) 1 1 [.int .i64 1,.slice (some ⟨g,0,none⟩) 1 1]) (F:=[w3.heap.size]) ⟨rfl,RowG.new 2 1 w3 [.int .i64 1,.slice (some ⟨g,0,none⟩) 1 1] _ rfl (by simp [maxLen]) rfl⟩ (by intro x hx;simp at hx;subst hx;exact Nat.le_refl _)
 have o6:=(((o5.pick 7 rfl).lst (l:=[])).rowNil 1).alloc (nwc none 0 0 none 0 0 none 0 0 ca' ks.length cc' (some ⟨w3.heap.size,0,none⟩)) 74 (b:=w3.heap.size + 1) (by simp)
 have H6:Hid (Own w ((w3.alloc (.cells #[.int .i64 1,.slice (some ⟨g,0,none⟩) 1 1] 88)).alloc (.cells #[.slice none 0 0,.slice ca' ks.length cc',.slice (some ⟨w3.heap.size,0,none⟩) 1 1,.slice none 0 0,.slice none 0 0,.slice none 0 0,.int .u64 0,.int .u64 0,.slice none 0 0,.int .i64 0,.int .i64 0] 74)) (npts (w3.heap.size + 1) none 0 [] [] none 0 [] [] none 0 [] [] ca' cc' ks (some ⟨w3.heap.size,0,none⟩) g ++ [CelA w.heap.size [.slice fa fs.length fc,.slice ra rooms.length rc,.int .i64 (locks:Int),.slice ca ks.length cc]])):=Lib.hid o6
 clear o5 o6 H4
 go_upto_region 2 with fail
 generalize ((w3.alloc (.cells #[.int .i64 1,.slice (some ⟨g,0,none⟩) 1 1] 88)).alloc (.cells #[.slice none 0 0,.slice ca' ks.length cc',.slice (some ⟨w3.heap.size,0,none⟩) 1 1,.slice none 0 0,.slice none 0 0,.slice none 0 0,.int .u64 0,.int .u64 0,.slice none 0 0,.int .i64 0,.int .i64 0] 74)) = w6 at *
 generalize w3.heap.size + 1 = b at *
 generalize w3.heap.size = sa at *
 generalize w.heap.size = pb at *
 have z0:=(H6.out.cel 10 rfl 0 _ rfl).1
 clear i1 i2 i3 i4
 go_wp2_with fail
 go_loopw [18] (fun iv wr=>∃ i:Nat,∃ fA fC fr',i ≤ fs.length ∧ iv = .int .i64 i ∧ Hid (fr'.length = i ∧ Own w wr (npts b fA fC fr' (fs.take i) none 0 [] [] none 0 [] [] ca' cc' ks (some ⟨sa,0,none⟩) g ++ [CelA pb [.slice fa fs.length fc,.slice ra rooms.length rc,.int .i64 (locks:Int),.slice ca ks.length cc]]))) (fun iv _=>fs.length - (intOf iv).toNat)
 case atStart=>exact ⟨0,none,0,[],by omega,rfl,Lib.hid ⟨rfl,H6.out⟩⟩
 case round =>
  obtain ⟨i,fA,fC,fr',hi,rfl,hr⟩:=hrel
  by_cases hlt:i < fs.length
  ·have hifr:i < fr.length:=by rw [HFL.out];exact hlt
   obtain ⟨l,hl⟩:∃ l,l = fs[i]:=⟨_,rfl⟩
   have hle:fs[i]? = some l:=by rw [hl];exact List.getElem?_eq_getElem hlt
   obtain ⟨r0,hr0⟩:∃ r,r = fr[i]:=⟨_,rfl⟩
   have hre:fr[i]? = some r0:=by rw [hr0];exact List.getElem?_eq_getElem hifr
   obtain ⟨hrl,ho⟩:=hr.out
   obtain ⟨e1,e2,e3⟩:=HE.out i r0 l hre hle
   obtain ⟨r1,rcap⟩:=r0
   simp only at e1 e2 e3
   obtain ⟨bf,off,rfl,hcf⟩:=HF.out i (.slice r1 l.length rcap) (by unfold frw;rw [List.getElem?_zipWith,hre,hle])
   have hcf2:=cell_below hcf ho.bel
   have htl:(fs.take i).length = i:=by rw [List.length_take];omega
   have SB:∀ (wx:World) (L:List Asr),Own w wx L → ∀ k:Nat,L[k]? = some (CelA b (nwc fA (fs.take i).length fC none 0 0 none 0 0 ca' ks.length cc' (some ⟨sa,0,none⟩))) → wx.cell? ⟨b,0,none⟩ = some (.slice fA i fC):=fun wx L ho k hk=>by
    have:=(ho.cel k hk 0 _ rfl).1
    rw [htl] at this
    exact this
   have HSB:=Lib.hid SB
   have o1:=ho.step (below_drew1 wr)
   have HCl:=Lib.hid (clonef_any wr.drew r1 l.length rcap (i4s l) (e1.below o1.bel) (i4s_len2 l) e2 (i4s_one l) e3)
   have HT:Hid (fs.take (i + 1) = fs.take i ++ [l]):=Lib.hid (by rw [hl];exact List.take_succ_eq_append_getElem hlt)
   have HTL:=Lib.hid htl
   have HRL:=Lib.hid hrl
   obtain ⟨i0,hi0,hz0,hz1,hz2⟩:=info_parts info_code
   have Hi:=Lib.hid hi0;clear hi0
   have Hz0:=Lib.hid hz0;clear hz0
   have Hz1:=Lib.hid hz1;clear hz1
   have Hz2:=Lib.hid hz2;clear hz2
   have hli:(i:Int) < (fs.length:Int):=by omega
   have hl0:(0:Int) ≤ (i:Int):=by omega
   generalize hln:l.length = ln at *
   have HLN:=Lib.hid hln
   clear hln
   clear hl hr0 hre hle e1 e2 e3 hcf SB htl hrl hr hifr
   go_upto_region 5 with fail
   refine wp_region_lexY (fun wx=>wx.cell? ⟨b,0,none⟩ = some (.slice fA i fC)) 11 12 (Array.replicate 12 false) (by kernel_rfl) (by kernel_rfl) ?_
   refine wpAnyY_seg 0 6 _ #[true,true,true,true,true,true,false,false,false,false,false,false] 6 (by kernel_rfl) noPanic_put (HSB.out _ _ o1 0 rfl) (by kernel_rfl) ?_
   simp only [List.take_succ_cons,List.take_zero,List.drop_zero]
   repeat ((first | refine wpSegH_no (by rfl) ?_ | (refine wpSegH_yes (by rfl) ?_;apply Exists.intro;apply And.intro;(· (intro wx hS;(try dsimp only at hS);go_simp;first | done | with_reducible rfl))));simp only [Act.put,List.setIfInBounds_toArray,List.set_cons_zero,List.set_cons_succ])
   refine wpSegH_nil ?_
   refine wpAnyY_one 6 _ #[true,true,true,true,true,true,true,false,false,false,false,false] 5 (by kernel_rfl) (fun K hK=>?_)
   have HKK:=Lib.hid hK
   clear hK
   simp only [List.drop_succ_cons,List.drop_zero]
   refine headH_mk (by rfl) ?_
   go_simp
   refine HCl.out.mono ?_
   rintro r w2 ⟨r1',c1',rfl,hrow,hfr,hb⟩
   have o2:=o1.add hb (A:=RowGA 4 r1' c1' ln (i4s l)) (F:=blk r1') ⟨rfl,hrow⟩ hfr
   refine HKK.out _ _ (HSB.out _ _ o2 1 rfl) ?_
   clear HKK K
   refine wpAnyY_one 7 _ #[true,true,true,true,true,true,true,true,false,false,false,false] 4 (by kernel_rfl) (fun K hK=>?_)
   have HKK:=Lib.hid hK
   clear hK
   simp only [List.drop_succ_cons,List.drop_zero]
   refine headH_mk (by rfl) ?_
   go_simp
   have o3:=o2.step (below_alloc1 _ (.cells #[.slice r1' ln c1'] 26))
   refine HKK.out _ _ (HSB.out _ _ o3 1 rfl) ?_
   clear HKK K
   refine wpAnyY_one 8 _ #[true,true,true,true,true,true,true,true,true,false,false,false] 3 (by kernel_rfl) (fun K hK=>?_)
   have HKK:=Lib.hid hK
   clear hK
   simp only [List.drop_succ_cons,List.drop_zero]
   refine headH_mk (by rfl) ?_
   have hrow3:=o3.rowG 2 rfl
   rw [HTL.out] at hrow3
   refine wp_append_rowG (n:=i) (m:=1) (cs:=frw fr' (fs.take i)) (ds:=[.slice r1' ln c1']) _ _ 31 (by rfl) 26 i0 _ Tryz.underlying31 Hi.out Hz0.out Hz1.out Hz2.out rfl (by omega) (by omega) (by rfl) (by rfl) hrow3 (CellsAt.new _ [.slice r1' ln c1'] _ rfl) rfl (by simp [Value.oneCell']) (by omega) ?_
   intro a9 c9 w9 k9 ch9 f9
   have o4:=(Own.rowTurn (o3.pick 2 rfl) k9 ch9 f9)
   refine HKK.out _ _ (HSB.out _ _ o4 2 rfl) ?_
   clear HKK K
   refine wpAnyY_segT 9 1 _ #[true,true,true,true,true,true,true,true,true,true,false,false] 2 (by kernel_rfl) noPanic_put (by kernel_rfl) ?_
   simp only [List.take_succ_cons,List.take_zero,List.drop_succ_cons,List.drop_zero]
   repeat ((first | refine wpSegH_no (by rfl) ?_ | (refine wpSegH_yes (by rfl) ?_;apply Exists.intro;apply And.intro;(· (intro wx hS;(try dsimp only at hS);go_simp;first | done | with_reducible rfl))));simp only [Act.put,List.setIfInBounds_toArray,List.set_cons_zero,List.set_cons_succ])
   refine wpSegH_nil ?_
   refine wpAnyY_seg 10 1 _ #[true,true,true,true,true,true,true,true,true,true,true,false] 1 (by kernel_rfl) noPanic_put (HSB.out _ _ o4 2 rfl) (by kernel_rfl) ?_
   simp only [List.take_succ_cons,List.take_zero,List.drop_succ_cons,List.drop_zero]
   repeat ((first | refine wpSegH_no (by rfl) ?_ | (refine wpSegH_yes (by rfl) ?_;apply Exists.intro;apply And.intro;(· (intro wx hS;(try dsimp only at hS);go_simp;first | done | with_reducible rfl))));simp only [Act.put,List.setIfInBounds_toArray,List.set_cons_zero,List.set_cons_succ])
   refine wpSegH_nil ?_
   obtain ⟨z8,f8⟩:=o4.cel 2 rfl 0 _ rfl
   have o5:=((((((o4.setAt 2 rfl 0 (.slice a9 (i + 1) c9)).pick 1 rfl).pick 3 rfl).pick 1 rfl).lstAdd).pick 1 rfl).pick 2 rfl
   have H5:=Lib.hid o5
   clear o1 o2 o3 o4 o5 k9 ch9 f9 hrow3 hrow hfr hb HSB HCl ho
   refine wpAnyY_late 11 _ #[true,true,true,true,true,true,true,true,true,true,true,true] 0 (by kernel_rfl) (fun K hK=>?_)
   have HKK:=Lib.hid hK
   clear hK
   simp only [List.drop_succ_cons,List.drop_zero]
   refine headH_mk (by rfl) ?_
   go_simp
   refine HKK.out _ _ ?_
   clear HKK K
   refine wpAnyY_done (by kernel_rfl) (NoPanic.normal ?_) _
   have HFIN:Hid ((fr' ++ [(r1',c1')]).length = i + 1 ∧ Own w (w9.setCell ⟨b,0,none⟩ (.slice a9 (i + 1) c9)) (npts b a9 c9 (fr' ++ [(r1',c1')]) (fs.take (i + 1)) none 0 [] [] none 0 [] [] ca' cc' ks (some ⟨sa,0,none⟩) g ++ [CelA pb [.slice (some ⟨bf,off,none⟩) fs.length fc,.slice ra rooms.length rc,.int .i64 (locks:Int),.slice ca ks.length cc]])):=Lib.hid ⟨by simp [HRL.out],by
    have e:(fs.take i ++ [l]).length = i + 1:=by rw [List.length_append,HTL.out];rfl
    rw [HT.out]
    unfold npts
    rw [frw_app (by rw [HRL.out,HTL.out]),clns_app (by rw [HRL.out,HTL.out]),e,HLN.out]
    exact H5.out⟩
   clear H5 HT HTL HRL HLN
   go_wp2
   exact ⟨⟨i + 1,a9,c9,_,by omega,by go_num,HFIN⟩,by simp [intOf];omega⟩
  ·have hge:¬ (i:Int) < (fs.length:Int):=by omega
   obtain rfl:i = fs.length:=by omega
   have HR1:Hid (fr'.length = fs.length ∧ Own w wr (npts b fA fC fr' fs none 0 [] [] none 0 [] [] ca' cc' ks (some ⟨sa,0,none⟩) g ++ [CelA pb [.slice fa fs.length fc,.slice ra rooms.length rc,.int .i64 (locks:Int),.slice ca ks.length cc]])):=Lib.hid (by
    have:=hr.out
    rw [List.take_length] at this
    exact this)
   obtain ⟨z1,-⟩:=HR1.out.2.cel 10 rfl 1 _ rfl
   clear hr
   go_wp2_with fail
   go_loopw [37] (fun iv wr=>∃ i:Nat,∃ hA hC pa,i ≤ rooms.length ∧ iv = .int .i64 i ∧ Hid (pa.length = i ∧ Own w wr (npts b fA fC fr' fs hA hC (List.zip pa ((rooms.take i).map roomC)) ((rooms.take i).map fun _=>⟨[],[],[],false⟩) none 0 [] [] ca' cc' ks (some ⟨sa,0,none⟩) g ++ [CelA pb [.slice fa fs.length fc,.slice ra rooms.length rc,.int .i64 (locks:Int),.slice ca ks.length cc]]))) (fun iv _=>rooms.length - (intOf iv).toNat)
   case atStart=>exact ⟨0,none,0,[],by omega,rfl,Lib.hid ⟨rfl,HR1.out.2⟩⟩
   case round =>
    obtain ⟨i,hA,hC,pa,hi,rfl,hr⟩:=hrel
    by_cases hlt:i < rooms.length
    ·obtain ⟨z,hz⟩:∃ z,z = rooms[i]:=⟨_,rfl⟩
     have hze:rooms[i]? = some z:=by rw [hz];exact List.getElem?_eq_getElem hlt
     obtain ⟨hrl,ho⟩:=hr.out
     obtain ⟨bf,off,rfl,hcf⟩:=HC.out i (.int .i64 z) (by rw [intc_get,hze];rfl)
     have hcf2:=cell_below hcf ho.bel
     have htl:((rooms.take i).map fun _=>(⟨[],[],[],false⟩:Ch)).length = i:=by rw [List.length_map,List.length_take];omega
     have hzl:(List.zip pa ((rooms.take i).map roomC)).length = i:=by rw [List.length_zip,List.length_map,List.length_take];omega
     have SB:∀ (wx:World) (L:List Asr),Own w wx L → ∀ k:Nat,L[k]? = some (CelA b (nwc fA fs.length fC hA ((rooms.take i).map fun _=>(⟨[],[],[],false⟩:Ch)).length hC none 0 0 ca' ks.length cc' (some ⟨sa,0,none⟩))) → wx.cell? ⟨b,3,none⟩ = some (.slice hA i hC):=fun wx L ho k hk=>by
      have:=(ho.cel k hk 3 _ rfl).1
      rw [htl] at this
      exact this
     have HSB:=Lib.hid SB
     have o1:=ho.step (below_drew1 wr)
     have HCl:=Lib.hid (cnew_any o1 z)
     have HT:Hid (rooms.take (i + 1) = rooms.take i ++ [z]):=Lib.hid (by rw [hz];exact List.take_succ_eq_append_getElem hlt)
     have HTL:=Lib.hid htl
     have HRL:=Lib.hid hrl
     have HZL:=Lib.hid hzl
     obtain ⟨i0,hi0,hz0,hz1,hz2⟩:=info_parts info_chp
     have Hi:=Lib.hid hi0;clear hi0
     have Hz0:=Lib.hid hz0;clear hz0
     have Hz1:=Lib.hid hz1;clear hz1
     have Hz2:=Lib.hid hz2;clear hz2
     have hli:(i:Int) < (rooms.length:Int):=by omega
     have hl0:(0:Int) ≤ (i:Int):=by omega
     clear hz hze hcf SB htl hrl hr hzl
     go_upto_region 10 with fail
     refine wp_region_lexY (fun wx=>wx.cell? ⟨b,3,none⟩ = some (.slice hA i hC)) 11 12 (Array.replicate 12 false) (by kernel_rfl) (by kernel_rfl) ?_
     refine wpAnyY_seg 0 6 _ #[true,true,true,true,true,true,false,false,false,false,false,false] 6 (by kernel_rfl) noPanic_put (HSB.out _ _ o1 0 rfl) (by kernel_rfl) ?_
     simp only [List.take_succ_cons,List.take_zero,List.drop_zero]
     repeat ((first | refine wpSegH_no (by rfl) ?_ | (refine wpSegH_yes (by rfl) ?_;apply Exists.intro;apply And.intro;(· (intro wx hS;(try dsimp only at hS);go_simp;first | done | with_reducible rfl))));simp only [Act.put,List.setIfInBounds_toArray,List.set_cons_zero,List.set_cons_succ])
     refine wpSegH_nil ?_
     refine wpAnyY_one 6 _ #[true,true,true,true,true,true,true,false,false,false,false,false] 5 (by kernel_rfl) (fun K hK=>?_)
     have HKK:=Lib.hid hK
     clear hK
     simp only [List.drop_succ_cons,List.drop_zero]
     refine headH_mk (by rfl) ?_
     go_simp
     refine HCl.out.mono ?_
     rintro r w2 ⟨pt,rfl,o2,hb⟩
     refine HKK.out _ _ (HSB.out _ _ o2 1 rfl) ?_
     clear HKK K
     refine wpAnyY_one 7 _ #[true,true,true,true,true,true,true,true,false,false,false,false] 4 (by kernel_rfl) (fun K hK=>?_)
     have HKK:=Lib.hid hK
     clear hK
     simp only [List.drop_succ_cons,List.drop_zero]
     refine headH_mk (by rfl) ?_
     go_simp
     have o3:=o2.step (below_alloc1 _ (.cells #[.pointer (some ⟨pt,0,none⟩)] 122))
     refine HKK.out _ _ (HSB.out _ _ o3 1 rfl) ?_
     clear HKK K
     refine wpAnyY_one 8 _ #[true,true,true,true,true,true,true,true,true,false,false,false] 3 (by kernel_rfl) (fun K hK=>?_)
     have HKK:=Lib.hid hK
     clear hK
     simp only [List.drop_succ_cons,List.drop_zero]
     refine headH_mk (by rfl) ?_
     have hrow3:=o3.rowG 7 rfl
     rw [HTL.out] at hrow3
     refine wp_append_rowG (n:=i) (m:=1) (cs:=ptrs (List.zip pa ((rooms.take i).map roomC))) (ds:=[.pointer (some ⟨pt,0,none⟩)]) _ _ 68 (by rfl) 122 i0 _ Tryz.underlying68 Hi.out Hz0.out Hz1.out Hz2.out rfl (by omega) (by omega) (by rfl) (by rfl) hrow3 (CellsAt.new _ [.pointer (some ⟨pt,0,none⟩)] _ rfl) rfl (by simp [Value.oneCell']) (by omega) ?_
     intro a9 c9 w9 k9 ch9 f9
     have o4:=(Own.rowTurn (o3.pick 7 rfl) k9 ch9 f9)
     refine HKK.out _ _ (HSB.out _ _ o4 2 rfl) ?_
     clear HKK K
     refine wpAnyY_segT 9 1 _ #[true,true,true,true,true,true,true,true,true,true,false,false] 2 (by kernel_rfl) noPanic_put (by kernel_rfl) ?_
     simp only [List.take_succ_cons,List.take_zero,List.drop_succ_cons,List.drop_zero]
     repeat ((first | refine wpSegH_no (by rfl) ?_ | (refine wpSegH_yes (by rfl) ?_;apply Exists.intro;apply And.intro;(· (intro wx hS;(try dsimp only at hS);go_simp;first | done | with_reducible rfl))));simp only [Act.put,List.setIfInBounds_toArray,List.set_cons_zero,List.set_cons_succ])
     refine wpSegH_nil ?_
     refine wpAnyY_seg 10 1 _ #[true,true,true,true,true,true,true,true,true,true,true,false] 1 (by kernel_rfl) noPanic_put (HSB.out _ _ o4 2 rfl) (by kernel_rfl) ?_
     simp only [List.take_succ_cons,List.take_zero,List.drop_succ_cons,List.drop_zero]
     repeat ((first | refine wpSegH_no (by rfl) ?_ | (refine wpSegH_yes (by rfl) ?_;apply Exists.intro;apply And.intro;(· (intro wx hS;(try dsimp only at hS);go_simp;first | done | with_reducible rfl))));simp only [Act.put,List.setIfInBounds_toArray,List.set_cons_zero,List.set_cons_succ])
     refine wpSegH_nil ?_
     obtain ⟨z8,f8⟩:=o4.cel 2 rfl 3 _ rfl
     have o5:=((((((((((((o4.setAt 2 rfl 3 (.slice a9 (i + 1) c9)).pick 1 rfl).pick 8 rfl).pick 1 rfl).lstAdd).pick 1 rfl).pick 7 rfl).pick 7 rfl).pick 7 rfl).pick 7 rfl).pick 7 rfl).pick 7 rfl)
     have H5:=Lib.hid o5
     clear o1 o2 o3 o4 o5 k9 ch9 f9 hrow3 hb HSB HCl ho
     refine wpAnyY_late 11 _ #[true,true,true,true,true,true,true,true,true,true,true,true] 0 (by kernel_rfl) (fun K hK=>?_)
     have HKK:=Lib.hid hK
     clear hK
     simp only [List.drop_succ_cons,List.drop_zero]
     refine headH_mk (by rfl) ?_
     go_simp
     refine HKK.out _ _ ?_
     clear HKK K
     refine wpAnyY_done (by kernel_rfl) (NoPanic.normal ?_) _
     have HFIN:Hid ((pa ++ [pt]).length = i + 1 ∧ Own w (w9.setCell ⟨b,3,none⟩ (.slice a9 (i + 1) c9)) (npts b fA fC fr' fs a9 c9 (List.zip (pa ++ [pt]) ((rooms.take (i + 1)).map roomC)) ((rooms.take (i + 1)).map fun _=>(⟨[],[],[],false⟩:Ch)) none 0 [] [] ca' cc' ks (some ⟨sa,0,none⟩) g ++ [CelA pb [.slice fa fs.length fc,.slice (some ⟨bf,off,none⟩) rooms.length rc,.int .i64 (locks:Int),.slice ca ks.length cc]])):=Lib.hid ⟨by simp [HRL.out],by
      have e:(((rooms.take i).map fun _=>(⟨[],[],[],false⟩:Ch)) ++ [(⟨[],[],[],false⟩:Ch)]).length = i + 1:=by rw [List.length_append,HTL.out];rfl
      have e2:List.zip (pa ++ [pt]) ((rooms.take i).map roomC ++ [roomC z]) = (List.zip pa ((rooms.take i).map roomC)) ++ [(pt,roomC z)]:=List.zip_append (by rw [HRL.out,List.length_map,List.length_take];have:=hi;omega)
      rw [HT.out,List.map_append,List.map_append]
      unfold npts
      rw [show List.map roomC [z] = [roomC z] from rfl,show List.map (fun _=>(⟨[],[],[],false⟩:Ch)) [z] = [(⟨[],[],[],false⟩:Ch)] from rfl,e2,ptrs_app,chs_app (by rw [HZL.out,HTL.out]),e]
      exact H5.out⟩
     clear H5 HT HTL HRL HZL
     go_wp2
     exact ⟨⟨i + 1,a9,c9,_,by omega,by go_num,HFIN⟩,by simp [intOf];omega⟩
    ·have hge:¬ (i:Int) < (rooms.length:Int):=by omega
     obtain rfl:i = rooms.length:=by omega
     have HR2:Hid (pa.length = rooms.length ∧ Own w wr (npts b fA fC fr' fs hA hC (List.zip pa (rooms.map roomC)) (rooms.map fun _=>(⟨[],[],[],false⟩:Ch)) none 0 [] [] ca' cc' ks (some ⟨sa,0,none⟩) g ++ [CelA pb [.slice fa fs.length fc,.slice ra rooms.length rc,.int .i64 (locks:Int),.slice ca ks.length cc]])):=Lib.hid (by
      have:=hr.out
      rw [List.take_length] at this
      exact this)
     obtain ⟨z1,-⟩:=HR2.out.2.cel 10 rfl 2 _ rfl
     have HCL:Hid ((rooms.map fun _=>(⟨[],[],[],false⟩:Ch)).length = rooms.length):=Lib.hid (by simp)
     have HFR:Hid (fr'.length = fs.length):=Lib.hid HR1.out.1
     clear hr HR1
     generalize hZP:(List.zip pa (rooms.map roomC)) = zp at *
     generalize hCP:(rooms.map fun _=>(⟨[],[],[],false⟩:Ch)) = cp at *
     have HZP:=Lib.hid hZP
     have HCP:=Lib.hid hCP
     clear hZP hCP
     go_wp2_with fail
     go_loopw [55] (fun iv wr=>∃ i:Nat,∃ lA lC lp,i ≤ locks ∧ iv = .int .i64 i ∧ Hid (lp.length = i ∧ Own w wr (npts b fA fC fr' fs hA hC zp cp lA lC lp (List.replicate i []) ca' cc' ks (some ⟨sa,0,none⟩) g ++ [CelA pb [.slice fa fs.length fc,.slice ra rooms.length rc,.int .i64 (locks:Int),.slice ca ks.length cc]]))) (fun iv _=>locks - (intOf iv).toNat)
     case atStart=>exact ⟨0,none,0,[],by omega,rfl,Lib.hid ⟨rfl,HR2.out.2⟩⟩
     case round =>
      obtain ⟨i,lA,lC,lp,hi,rfl,hr⟩:=hrel
      by_cases hlt:i < locks
      ·obtain ⟨hrl,ho⟩:=hr.out
       have htl:(List.replicate i ([]:List Int)).length = i:=List.length_replicate
       have SB:∀ (wx:World) (L:List Asr),Own w wx L → ∀ k:Nat,L[k]? = some (CelA b (nwc fA fs.length fC hA cp.length hC lA (List.replicate i ([]:List Int)).length lC ca' ks.length cc' (some ⟨sa,0,none⟩))) → wx.cell? ⟨b,4,none⟩ = some (.slice lA i lC):=fun wx L ho k hk=>by
        have:=(ho.cel k hk 4 _ rfl).1
        rw [htl] at this
        exact this
       have HSB:=Lib.hid SB
       have o1:=ho.step (below_drew1 wr)
       have HTL:=Lib.hid htl
       have HRL:=Lib.hid hrl
       obtain ⟨i0,hi0,hz0,hz1,hz2⟩:=info_parts info_lkp
       have Hi:=Lib.hid hi0;clear hi0
       have Hz0:=Lib.hid hz0;clear hz0
       have Hz1:=Lib.hid hz1;clear hz1
       have Hz2:=Lib.hid hz2;clear hz2
       have hli:(i:Int) < (locks:Int):=by omega
       have hl0:(0:Int) ≤ (i:Int):=by omega
       clear SB htl hrl hr
       go_upto_region 14 with fail
       refine wp_region_lexY (fun wx=>wx.cell? ⟨b,4,none⟩ = some (.slice lA i lC)) 10 11 (Array.replicate 11 false) (by kernel_rfl) (by kernel_rfl) ?_
       refine wpAnyY_seg 0 5 _ #[true,true,true,true,true,false,false,false,false,false,false] 6 (by kernel_rfl) noPanic_put (HSB.out _ _ o1 0 rfl) (by kernel_rfl) ?_
       simp only [List.take_succ_cons,List.take_zero,List.drop_zero]
       repeat ((first | refine wpSegH_no (by rfl) ?_ | (refine wpSegH_yes (by rfl) ?_;apply Exists.intro;apply And.intro;(· (intro wx hS;(try dsimp only at hS);go_simp;first | done | with_reducible rfl))));simp only [Act.put,List.setIfInBounds_toArray,List.set_cons_zero,List.set_cons_succ])
       refine wpSegH_nil ?_
       refine wpAnyY_one 5 _ #[true,true,true,true,true,true,false,false,false,false,false] 5 (by kernel_rfl) (fun K hK=>?_)
       have HKK:=Lib.hid hK
       clear hK
       simp only [List.drop_succ_cons,List.drop_zero]
       refine headH_mk (by rfl) ?_
       go_simp
       refine (knew_any _).mono ?_
       rintro r w2 ⟨pt,rfl,hk1,hk2,hb⟩
       have o2:=o1.add hb (A:=LockA pt []) (F:=[pt]) hk1 (by intro x hx;simp at hx;omega)
       refine HKK.out _ _ (HSB.out _ _ o2 1 rfl) ?_
       clear HKK K
       refine wpAnyY_one 6 _ #[true,true,true,true,true,true,true,false,false,false,false] 4 (by kernel_rfl) (fun K hK=>?_)
       have HKK:=Lib.hid hK
       clear hK
       simp only [List.drop_succ_cons,List.drop_zero]
       refine headH_mk (by rfl) ?_
       go_simp
       have o3:=o2.step (below_alloc1 _ (.cells #[.pointer (some ⟨pt,0,none⟩)] 124))
       refine HKK.out _ _ (HSB.out _ _ o3 1 rfl) ?_
       clear HKK K
       refine wpAnyY_one 7 _ #[true,true,true,true,true,true,true,true,false,false,false] 3 (by kernel_rfl) (fun K hK=>?_)
       have HKK:=Lib.hid hK
       clear hK
       simp only [List.drop_succ_cons,List.drop_zero]
       refine headH_mk (by rfl) ?_
       have hrow3:=o3.rowG 9 rfl
       rw [HTL.out] at hrow3
       refine wp_append_rowG (n:=i) (m:=1) (cs:=lptr lp) (ds:=[.pointer (some ⟨pt,0,none⟩)]) _ _ 69 (by rfl) 124 i0 _ Tryz.underlying69 Hi.out Hz0.out Hz1.out Hz2.out rfl (by omega) (by omega) (by rfl) (by rfl) hrow3 (CellsAt.new _ [.pointer (some ⟨pt,0,none⟩)] _ rfl) rfl (by simp [Value.oneCell']) (by omega) ?_
       intro a9 c9 w9 k9 ch9 f9
       have o4:=(Own.rowTurn (o3.pick 9 rfl) k9 ch9 f9)
       refine HKK.out _ _ (HSB.out _ _ o4 2 rfl) ?_
       clear HKK K
       refine wpAnyY_segT 8 1 _ #[true,true,true,true,true,true,true,true,true,false,false] 2 (by kernel_rfl) noPanic_put (by kernel_rfl) ?_
       simp only [List.take_succ_cons,List.take_zero,List.drop_succ_cons,List.drop_zero]
       repeat ((first | refine wpSegH_no (by rfl) ?_ | (refine wpSegH_yes (by rfl) ?_;apply Exists.intro;apply And.intro;(· (intro wx hS;(try dsimp only at hS);go_simp;first | done | with_reducible rfl))));simp only [Act.put,List.setIfInBounds_toArray,List.set_cons_zero,List.set_cons_succ])
       refine wpSegH_nil ?_
       refine wpAnyY_seg 9 1 _ #[true,true,true,true,true,true,true,true,true,true,false] 1 (by kernel_rfl) noPanic_put (HSB.out _ _ o4 2 rfl) (by kernel_rfl) ?_
       simp only [List.take_succ_cons,List.take_zero,List.drop_succ_cons,List.drop_zero]
       repeat ((first | refine wpSegH_no (by rfl) ?_ | (refine wpSegH_yes (by rfl) ?_;apply Exists.intro;apply And.intro;(· (intro wx hS;(try dsimp only at hS);go_simp;first | done | with_reducible rfl))));simp only [Act.put,List.setIfInBounds_toArray,List.set_cons_zero,List.set_cons_succ])
       refine wpSegH_nil ?_
       obtain ⟨z8,f8⟩:=o4.cel 2 rfl 4 _ rfl
       have o5:=((((((((((((((o4.setAt 2 rfl 4 (.slice a9 (i + 1) c9)).pick 1 rfl).pick 10 rfl).pick 1 rfl).lstAdd).pick 1 rfl).pick 9 rfl).pick 9 rfl).pick 9 rfl).pick 9 rfl).pick 9 rfl).pick 9 rfl).pick 9 rfl).pick 9 rfl)
       have H5:=Lib.hid o5
       clear o1 o2 o3 o4 o5 k9 ch9 f9 hrow3 hb hk1 hk2 HSB ho
       refine wpAnyY_late 10 _ #[true,true,true,true,true,true,true,true,true,true,true] 0 (by kernel_rfl) (fun K hK=>?_)
       have HKK:=Lib.hid hK
       clear hK
       simp only [List.drop_succ_cons,List.drop_zero]
       refine headH_mk (by rfl) ?_
       go_simp
       refine HKK.out _ _ ?_
       clear HKK K
       refine wpAnyY_done (by kernel_rfl) (NoPanic.normal ?_) _
       have HFIN:Hid ((lp ++ [pt]).length = i + 1 ∧ Own w (w9.setCell ⟨b,4,none⟩ (.slice a9 (i + 1) c9)) (npts b fA fC fr' fs hA hC zp cp a9 c9 (lp ++ [pt]) (List.replicate (i + 1) []) ca' cc' ks (some ⟨sa,0,none⟩) g ++ [CelA pb [.slice fa fs.length fc,.slice ra rooms.length rc,.int .i64 (locks:Int),.slice ca ks.length cc]])):=Lib.hid ⟨by simp [HRL.out],by
        rw [List.replicate_succ']
        have e:(List.replicate i ([]:List Int) ++ [[]]).length = i + 1:=by rw [List.length_append,HTL.out];rfl
        unfold npts
        rw [lptr_app,lks_app (by rw [HRL.out,HTL.out]),e]
        exact H5.out⟩
       clear H5 HTL HRL
       go_wp2
       exact ⟨⟨i + 1,a9,c9,_,by omega,by go_num,HFIN⟩,by simp [intOf];omega⟩
      ·have hge:¬ (i:Int) < (locks:Int):=by omega
       obtain rfl:i = locks:=by omega
       have h0:=hr.out.2
       have hk:=(h0.rowG 3 rfl).2.1
       have h1:=code_fold (((((h0.pick 10 rfl).drop).pick 3 rfl).pick 3 rfl).pick 3 rfl)
       have h2:=((h1.pick 1 rfl).rowNil 1).add (Below.refl _ _) (A:=ItemsA (.slice none 0 0) []) (F:=[]) ⟨rfl,World.ownsRow_nil _ _ _ _⟩ (fun x hx=>by simp at hx)
       have h3:=(((((((h2.pick 9 rfl).pick 9 rfl).pick 9 rfl).pick 9 rfl).pick 9 rfl).pick 9 rfl).pick 9 rfl).pick 9 rfl
       have hrl:=hr.out.1
       have hpl:=HR2.out.1
       have hfl:=HFR.out
       have e1:=HZP.out
       have e2:=HCP.out
       subst e1 e2
       have HE3:Hid ((⟨fA,fC,fr',ca',cc',some ⟨sa,0,none⟩,1,[(g,1)],hA,hC,pa,lA,lC,lp,.slice none 0 0,none,0⟩:Wa).fits (newM fs ks rooms i) ∧ Own w wr (wparts b (newM fs ks rooms i) ⟨fA,fC,fr',ca',cc',some ⟨sa,0,none⟩,1,[(g,1)],hA,hC,pa,lA,lC,lp,.slice none 0 0,none,0⟩ [])) :=
        Lib.hid ⟨⟨hfl,rfl,by simp [newM,hpl],by simp [newM],by simp [newM,hrl],hk⟩,h3⟩
       clear h0 h1 h2 h3 hk hr HR2
       go_wp2
       go_ret
       exact ⟨_,rfl,_,HE3.out⟩
theorem pp_prog {w:World} {a:Option Addr} {cap M:Nat} {fb:Option Addr} {fcap F:Nat} {bs:List Nat} {fa ra:Option Addr} {S m:Nat} {room:Int}
  (h0:CellsAt w a (i4s (ppMain S))) (hn:a = none → cap = 0) (h1:∀ i b,bs[i]? = some b → CellsAt w (some ⟨b,0,none⟩) (i4s (ppSt i))) (hb:bs.length = S)
  (h2:CellsAt w fb (i4s (ppFd m))) (hn2:fb = none → fcap = 0) (hM:M = S + 4) (hF:F = 2 * m + 1)
  (hf:CellsAt w fa (.slice a M cap :: (bs.map (fun b=>.slice (some ⟨b,0,none⟩) 3 3) ++ [.slice fb F fcap])))
  (hc:CellsAt w ra (intc (ppRooms S room))) (hS:S ≤ 40) (hm:m ≤ 40) :
  ProgIn w fa ((a,cap) :: (bs.map (fun b=>(some ⟨b,0,none⟩,3)) ++ [(fb,fcap)])) (ppFs S m) ra (ppRooms S room) none 0 []:=by
 have eM:(ppMain S).length = S + 4:=by unfold ppMain;rw [List.length_append,ppSp_len];rfl
 have eD:(ppFd m).length = 2 * m + 1:=by unfold ppFd;rw [List.length_append,ppFe_len];rfl
 have hl:((a,cap) :: (bs.map (fun b=>((some ⟨b,0,none⟩:Option Addr),3)) ++ [(fb,fcap)])).length = (ppFs S m).length:=by
  unfold ppFs;simp [ppSts_len,hb]
 refine ⟨?_,hl,fun i r l hr hl=>?_,hc,CellsAt.nil _ _,fun _=>rfl,by decide,?_,?_⟩
 ·have e:∀ (bs:List Nat) (n:Nat),bs.length = n → frw (bs.map (fun b=>((some ⟨b,0,none⟩:Option Addr),3)) ++ [(fb,fcap)]) (ppSts n ++ [ppFd m]) = bs.map (fun b=>Value.slice (some ⟨b,0,none⟩) 3 3) ++ [.slice fb F fcap]:=fun bs n hn=>by
   have hz:∀ (bs:List Nat) (ls:List (List In4)),bs.length = ls.length → (∀ l ∈ ls,l.length = 3) → frw (bs.map (fun b=>((some ⟨b,0,none⟩:Option Addr),3)) ++ [(fb,fcap)]) (ls ++ [ppFd m]) = bs.map (fun b=>Value.slice (some ⟨b,0,none⟩) 3 3) ++ [.slice fb F fcap]:=fun bs=>by
    induction bs with
    | nil =>
     intro ls h1 h2
     obtain rfl:=List.length_eq_zero_iff.1 h1.symm
     show [Value.slice fb (ppFd m).length fcap] = _
     rw [eD,hF];rfl
    | cons b t ih =>
     intro ls h1 h2
     match ls with
     | l :: ls =>
      have:=ih ls (by simpa using h1) (fun x hx=>h2 x (List.mem_cons_of_mem _ hx))
      show Value.slice (some ⟨b,0,none⟩) l.length 3 :: frw (t.map (fun b=>((some ⟨b,0,none⟩:Option Addr),3)) ++ [(fb,fcap)]) (ls ++ [ppFd m]) = _
      rw [this,h2 l (List.mem_cons_self ..)]
      rfl
   refine hz bs (ppSts n) (by rw [ppSts_len,hn]) (fun l hl=>?_)
   obtain ⟨i,hi⟩:=List.mem_iff_getElem?.1 hl
   have hi2:i < n:=by have:=(List.getElem?_eq_some_iff.1 hi).1;rw [ppSts_len] at this;exact this
   rw [ppSts_at n i hi2] at hi
   rw [← Option.some.inj hi];rfl
  show CellsAt w fa (.slice a (ppMain S).length cap :: frw _ (ppSts S ++ [ppFd m]))
  rw [e bs S hb,eM,← hM]
  exact hf
 ·match i with
  | 0=>simp [ppFs] at hr hl;subst hr hl;exact ⟨h0,hn,by omega⟩
  | i + 1 =>
   unfold ppFs at hl
   simp only [List.getElem?_cons_succ] at hr hl
   rcases Nat.lt_or_ge i S with q | q
   ·rw [List.getElem?_append_left (by rw [List.length_map];omega)] at hr
    rw [List.getElem?_append_left (by rw [ppSts_len];exact q),ppSts_at S i q] at hl
    rw [List.getElem?_map] at hr
    cases hbi:bs[i]? with
    | none=>rw [hbi] at hr;cases hr
    | some b =>
     rw [hbi] at hr
     cases hr;cases hl
     exact ⟨h1 i b hbi,(fun q=>by cases q),by show 3 ≤ 1000000;omega⟩
   ·rw [List.getElem?_append_right (by rw [List.length_map];omega)] at hr
    rw [List.getElem?_append_right (by rw [ppSts_len];exact q)] at hl
    rw [List.length_map,hb] at hr
    rw [ppSts_len] at hl
    cases hi:i - S with
    | zero =>
     rw [hi] at hr hl
     cases hr;cases hl
     exact ⟨h2,hn2,by omega⟩
    | succ k=>rw [hi] at hr;simp at hr
 ·unfold ppFs;rw [List.length_cons,List.length_append,ppSts_len];simp;omega
 ·unfold ppRooms;rw [List.length_replicate];omega
section
variable {w0 w:World} {p:Nat} {W:Wd} {D:Wa} {T:List Value} {Y:List Asr}
theorem wend_any (h:Own w0 w (wparts p W D T ++ Y)) :
  Calls Tryz.prog 23 #[.pointer (some ⟨p,0,none⟩)] w fun r w'=>r = .returned (.tuple #[.int .i64 W.en,.int .i64 W.why]) ∧ ∃ k,w' = w.drewN k:=by
 have p9:=(h.cel 0 rfl 9 _ rfl).1
 have p10:=(h.cel 0 rfl 10 _ rfl).1
 generalize W.en = n at *
 generalize W.why = m at *
 clear h
 go_enter Tryz.func23,Tryz.ntmps23
 go_upto_region 1 with fail
 go_quiet (fail)
 go_wp2
 go_ret2
 exact ⟨rfl,⟨_,rfl⟩⟩
theorem wout_any (h:Own w0 w (wparts p W D T ++ Y)) (hl:W.out.length ≤ 1000000) :
  Calls Tryz.prog 10 #[.pointer (some ⟨p,0,none⟩)] w fun r w'=>∃ a' c',r = .returned (.slice a' W.out.length c') ∧ RowG 1 w' a' c' W.out.length (intc W.out) ∧ (∀ x ∈ blk a',w.heap.size ≤ x) ∧ Below w.heap.size w w':=by
 have p8:=(h.cel 0 rfl 8 _ rfl).1
 have HC:=Lib.hid (clonei_any w D.oa W.out.length D.oc (intc W.out) (h.rowG 9 rfl) (by intro u hu;obtain ⟨v,-,rfl⟩:=List.mem_map.1 hu;rfl) hl)
 generalize W.out.length = n at *
 clear h hl
 go_enter Tryz.func10,Tryz.ntmps10
 go_wp2_with fail
 refine HC.out.mono ?_
 rintro r w2 ⟨a',c',rfl,h2⟩
 have H2:=Lib.hid h2
 clear h2
 go_wp2
 go_ret
 exact ⟨_,_,rfl,H2.out⟩
end
end Go.Proofs.YtphfaekpckbepaaGreat
open Go Go.RowKit
set_option linter.unusedVariables false
namespace Go.Proofs.YtphfaekpckbepaaGreat
def WldA (p:Nat) (W:Wd) (T:List Value):Asr where
 at_ w F:=∃ D:Wa,D.fits W ∧ Sep w (wparts p W D T) F
 lt:=by rintro w F ⟨D,-,h⟩;exact h.lt
 chg:=by rintro w w' F G ⟨D,h1,h⟩ c hd;exact ⟨D,h1,h.chg c hd⟩
theorem Own.wld {w0 w:World} {p:Nat} {W:Wd} {T:List Value} {R:List Asr} (h:Own w0 w (WldA p W T :: R)):∃ D:Wa,D.fits W ∧ Own w0 w (wparts p W D T ++ R):=by
 obtain ⟨As,⟨D,hf,rfl⟩,h1⟩:=Own.unfold h (P:=fun As=>∃ D:Wa,D.fits W ∧ As = wparts p W D T) (fun F ⟨D,hf,hF⟩=>⟨_,⟨D,hf,rfl⟩,hF⟩)
 exact ⟨D,hf,h1⟩
theorem Own.toWld {w0 w:World} {p:Nat} {W:Wd} {T:List Value} {R:List Asr} {D:Wa} (hf:D.fits W) (h:Own w0 w (wparts p W D T ++ R)):Own w0 w (WldA p W T :: R):=Own.fold h (fun F hF=>⟨D,hf,hF⟩)
theorem Own.rowNil0 {w0 w:World} {R:List Asr} (s:Nat) (h:Own w0 w R):Own w0 w (RowGA s none 0 0 [] :: R):=h.add (Below.refl _ _) (F:=[]) ⟨rfl,RowG.nil s w⟩ (by intro x hx;simp at hx)
theorem Own.wldBack {w0 w:World} {p:Nat} {W:Wd} {T:List Value} {R:List Asr} {A:Asr} {D:Wa} (hf:D.fits W) (h:Own w0 w (A :: (wparts p W D T ++ R))):Own w0 w (A :: WldA p W T :: R):=by
 have h1:Own w0 w (wparts p W D T ++ (A :: R)):=h.perm (by
  have:=(List.perm_middle (a:=A) (l₁:=wparts p W D T) (l₂:=R)).symm
  exact this)
 have h2:=Own.toWld hf h1
 exact h2.perm (List.Perm.swap _ _ _)
theorem execM_none {B:Nat} {W:Wd} (wf:WF B W) {g:Int} (h:W.lets g → askN W ((W.ins g.toNat).getD (0,0,0,0)) = 0) (u v:Int):execM W g u = execM W g v:=by
 unfold execM
 by_cases hl:W.lets g
 ·rw [if_pos hl,if_pos hl]
  have hk:AskIn W ((W.ins g.toNat).getD (0,0,0,0)):=by
   cases hx:W.ins g.toNat with
   | none=>exact ⟨fun e=>absurd e (by decide),fun e=>absurd e (by decide)⟩
   | some x =>
    obtain ⟨k1,-,-⟩:=wf.insOk hx
    exact ⟨fun e=>⟨k1.casX (.inr (.inr e)),by have:=wf.p.kl;omega,k1.casOk (.inr (.inr e)) wf.p.ck⟩,fun e=>by have:=k1.o21 e;simp only [Option.getD_some] at *;omega⟩
  simp only [askM_none hk (h hl)]
 ·rw [if_neg hl,if_neg hl]
def ExecW (w0:World) (p:Nat) (T:List Value) (W:Wd) (g:Int) (R:List Asr) (Qd:Int → List Asr → Prop) (Qp:Ending → List Asr → Prop) (r:Ending) (w':World):Prop :=
 (∃ v R' ra rc,((¬ W.lets g ∨ askN W ((W.ins g.toNat).getD (0,0,0,0)) = 0) ∧ R' = R ∨ (W.lets g ∧ 1 ≤ askN W ((W.ins g.toNat).getD (0,0,0,0))) ∧ Qd v R') ∧
  r = .returned (.agg #[.bool (execM W g v).2.1,.slice ra (execM W g v).2.2.length rc]) ∧ Own w0 w' (RowGA 1 ra rc (execM W g v).2.2.length (intc (execM W g v).2.2) :: WldA p (execM W g v).1 T :: R')) ∨
 (∃ chain R',r = .panicked chain ∧ (W.lets g ∧ 1 ≤ askN W ((W.ins g.toNat).getD (0,0,0,0))) ∧ Qp r R' ∧ Own w0 w' (WldA p W T :: R'))
theorem exec_w {w0 w:World} {p:Nat} {T:List Value} {W:Wd} {R:List Asr} {F:Nat} {fst cap:Array Value} {Qd:Int → List Asr → Prop} {Qp:Ending → List Asr → Prop} {B:Nat} (h:Own w0 w (WldA p W T :: R)) (wf:WF B W) (hB:B ≤ 80000) (g:Int)
  (en:∀ (args:Array Value) (w:World),(callFunc F args).run Tryz.prog w = .ok (.enter F args) w) (hd:W.lets g → 1 ≤ askN W ((W.ins g.toNat).getD (0,0,0,0)) → DrawOk w0 p T W F fst cap (askK ((W.ins g.toNat).getD (0,0,0,0))) (askN W ((W.ins g.toNat).getD (0,0,0,0)):Int) R Qd Qp) :
  Calls Tryz.prog 58 #[.pointer (some ⟨p,0,none⟩),.int .i64 g,.func (.func F) fst cap] w fun r w'=>ExecW w0 p T W g R Qd Qp r w':=by
 obtain ⟨D,hf,ho⟩:=h.wld
 by_cases hl:W.lets g
 ·obtain ⟨k,rfl⟩:∃ k:Nat,g = (k:Int):=⟨g.toNat,by have:=hl.2.1;omega⟩
  have hl2:=hl
  refine (exec_all (Qd:=Qd) (Qp:=Qp) ho hf k (wf.execOk hB hl) en (hd hl)).mono (fun r w' hh=>?_)
  rcases hh with ⟨v,R',D',ra,rc,hq,h1,h2,h3⟩ | ⟨D',ch,R',h1,h2,h3,h4,h5⟩
  ·refine .inl ⟨v,R',ra,rc,?_,h1,Own.wldBack h2 h3⟩
   rcases hq with ⟨a,b⟩ | ⟨a,b⟩
   ·exact .inl ⟨.inr a,b⟩
   ·exact .inr ⟨⟨hl2,a⟩,b⟩
  ·exact .inr ⟨ch,R',h1,⟨hl2,h2⟩,h3,Own.toWld h4 h5⟩
 ·refine (exec_no ho hf g hl (.func (.func F) fst cap)).mono (fun r w' hh=>?_)
  have e:execM W g 0 = (W,false,[]):=by unfold execM;rw [if_neg hl]
  refine .inl ⟨0,R,none,0,.inl ⟨.inl hl,rfl⟩,?_,?_⟩
  ·rw [e];exact hh.1
  ·rw [e];exact Own.rowNil0 1 (Own.toWld hf hh.2)
section
variable {w0 w:World} {p:Nat} {W:Wd} {T:List Value} {R:List Asr}
theorem end_w (h:Own w0 w (WldA p W T :: R)):Calls Tryz.prog 23 #[.pointer (some ⟨p,0,none⟩)] w fun r w'=>r = .returned (.tuple #[.int .i64 W.en,.int .i64 W.why]) ∧ ∃ k,w' = w.drewN k:=by
 obtain ⟨D,hf,ho⟩:=h.wld
 exact wend_any ho
theorem status_w (h:Own w0 w (WldA p W T :: R)) (g:Int):Calls Tryz.prog 13 #[.pointer (some ⟨p,0,none⟩),.int .i64 g] w fun r w'=>r = .returned (.int .i64 (statusM W g)) ∧ w' = w:=by
 obtain ⟨D,hf,ho⟩:=h.wld
 exact status_any ho hf g
theorem out_w (h:Own w0 w (WldA p W T :: R)) {B:Nat} (wf:WF B W):Calls Tryz.prog 10 #[.pointer (some ⟨p,0,none⟩)] w fun r w'=>∃ a' c',r = .returned (.slice a' W.out.length c') ∧ RowG 1 w' a' c' W.out.length (intc W.out) ∧ (∀ x ∈ blk a',w.heap.size ≤ x) ∧ Below w.heap.size w w':=by
 obtain ⟨D,hf,ho⟩:=h.wld
 exact wout_any ho (by have:=wf.out;omega)
end
theorem new_w (w:World) (fa:Option Addr) (fc:Nat) (fr:List (Option Addr × Nat)) (fs:List (List In4)) (ra:Option Addr) (rc:Nat) (rooms:List Int) (locks:Nat) (ca:Option Addr) (cc:Nat) (ks:List Cs3) (hp:ProgIn w fa fr fs ra rooms ca cc ks) (hlk:locks ≤ 1000) :
  Calls Tryz.prog 28 #[.agg #[.slice fa fs.length fc,.slice ra rooms.length rc,.int .i64 (locks:Int),.slice ca ks.length cc]] w fun r w'=>∃ b,r = .returned (.pointer (some ⟨b,0,none⟩)) ∧ Own w w' [WldA b (newM fs ks rooms locks) []]:=by
 refine (wnew_any w fa fc fr fs ra rc rooms locks ca cc ks hp hlk).mono (fun r w' hh=>?_)
 obtain ⟨b,D,h1,hf,ho⟩:=hh
 exact ⟨b,h1,Own.toWld (R:=[]) hf (by rw [List.append_nil];exact ho)⟩
end Go.Proofs.YtphfaekpckbepaaGreat
open Go Go.RowKit
set_option linter.unusedVariables false
namespace Go.Proofs.YtphfaekpckbepaaGreat
structure Sa where
 D:Wa
 pa:Option Addr
 pc:Nat
 ld:List (Nat × Nat)
 ma:Option Addr
 mc:Nat
 ga:Option Addr
 gc:Nat
def qd1 (l:Nat × Nat) (P:Pm):Qd:=⟨l.1,l.2,P.N,P.q,none,0⟩
def qds (ld:List (Nat × Nat)) (ps:List Pm):List Qd:=List.zipWith qd1 ld ps
def pc1 (x:(Nat × Nat) × Pm):List Value:=[.pointer (some ⟨x.1.1,0,none⟩),.int .i64 (x.2.tu:Int),.int .i64 x.2.by_]
def pcs (ld:List (Nat × Nat)) (ps:List Pm):List Value:=(List.zip ld ps).flatMap pc1
def mc1 (M:Mm):List Value:=[.int .i64 M.P,.int .i64 M.G,.int .i64 M.L]
def mcs (ms:List Mm):List Value:=ms.flatMap mc1
def stl (sp:Nat) (X:Sd) (S:Sa):List Value:=[.pointer (some ⟨sp,0,none⟩),.slice S.pa X.ps.length S.pc,.slice S.ma X.ms.length S.mc,.slice S.ga X.gl.length S.gc,.int .i64 X.sl,.int .i64 (X.st:Int)]
def swr (W:Wd) (D:Wa):List Asr:=(wparts 0 W D []).tail
theorem wparts_eq (p:Nat) (W:Wd) (D:Wa) (T:List Value):wparts p W D T = CelA p (wcells W D ++ T) :: swr W D:=rfl
def schP (b sp:Nat) (X:Sd) (S:Sa):List Asr :=
 [CelA b (wcells X.W S.D ++ stl sp X S),RowGA 3 S.pa S.pc X.ps.length (pcs S.ld X.ps),LstA (locs (qds S.ld X.ps)),RowGA 3 S.ma S.mc X.ms.length (mcs X.ms),RowGA 1 S.ga S.gc X.gl.length (intc X.gl),LstA (swr X.W S.D)]
structure Sa.fits (S:Sa) (X:Sd):Prop where
 w:S.D.fits X.W
 l:S.ld.length = X.ps.length
def SchA (b sp:Nat) (X:Sd):Asr where
 at_ w F:=∃ S:Sa,S.fits X ∧ Sep w (schP b sp X S) F
 lt:=by rintro w F ⟨S,-,h⟩;exact h.lt
 chg:=by rintro w w' F G ⟨S,h1,h⟩ c hd;exact ⟨S,h1,h.chg c hd⟩
section
variable {w0 w:World} {b sp:Nat} {X:Sd} {R:List Asr}
theorem Own.sch (h:Own w0 w (SchA b sp X :: R)):∃ S:Sa,S.fits X ∧ Own w0 w (schP b sp X S ++ R):=by
 obtain ⟨As,⟨S,hf,rfl⟩,h1⟩:=Own.unfold h (P:=fun As=>∃ S:Sa,S.fits X ∧ As = schP b sp X S) (fun F ⟨S,hf,hF⟩=>⟨_,⟨S,hf,rfl⟩,hF⟩)
 exact ⟨S,hf,h1⟩
theorem Own.toSch {S:Sa} (hf:S.fits X) (h:Own w0 w (schP b sp X S ++ R)):Own w0 w (SchA b sp X :: R):=Own.fold h (fun F hF=>⟨S,hf,hF⟩)
def squeue (X:Sd) (S:Sa):List Asr:=[RowGA 3 S.pa S.pc X.ps.length (pcs S.ld X.ps),LstA (locs (qds S.ld X.ps)),RowGA 3 S.ma S.mc X.ms.length (mcs X.ms),RowGA 1 S.ga S.gc X.gl.length (intc X.gl)]
theorem Own.toW {S:Sa} (hf:S.fits X) (h:Own w0 w (schP b sp X S ++ R)):Own w0 w (WldA b X.W (stl sp X S) :: (squeue X S ++ R)):=by
 have h1:Own w0 w (LstA (swr X.W S.D) :: CelA b (wcells X.W S.D ++ stl sp X S) :: (squeue X S ++ R)):=h.pick 5 rfl
 have h2:=h1.unl
 refine Own.toWld hf.w (T:=stl sp X S) (h2.perm ?_)
 rw [wparts_eq]
 exact List.perm_middle
theorem Own.ofW {S:Sa} {W':Wd} (hl:S.ld.length = X.ps.length) (h:Own w0 w (WldA b W' (stl sp X S) :: (squeue X S ++ R))):∃ D',(Sa.fits { S with D:=D' } { X with W:=W' }) ∧ Own w0 w (schP b sp { X with W:=W' } { S with D:=D' } ++ R):=by
 obtain ⟨D',hD,h1⟩:=h.wld
 rw [wparts_eq] at h1
 refine ⟨D',⟨hD,hl⟩,?_⟩
 have h2:Own w0 w (swr W' D' ++ (CelA b (wcells W' D' ++ stl sp X S) :: (squeue X S ++ R))):=h1.perm List.perm_middle.symm
 have h3:Own w0 w (LstA (swr W' D') :: CelA b (wcells W' D' ++ stl sp X S) :: (squeue X S ++ R)):=Own.lst h2
 exact h3.back (As:=CelA b (wcells W' D' ++ stl sp X S) :: RowGA 3 S.pa S.pc X.ps.length (pcs S.ld X.ps) :: LstA (locs (qds S.ld X.ps)) :: RowGA 3 S.ma S.mc X.ms.length (mcs X.ms) :: RowGA 1 S.ga S.gc X.gl.length (intc X.gl) :: LstA (swr W' D') :: R) (i:=5) (by simp)
def gpOf (b sp:Nat) (X:Sd) (S:Sa):Gp :=
 {b:=b,c0:=.slice S.D.fa X.W.fs.length S.D.fc,c1:=.slice S.D.ca X.W.ks.length S.D.cc,c2:=.slice S.D.aa X.W.gs.length S.D.ac,c3:=.slice S.D.ha X.W.Cs.length S.D.hc,c4:=.slice S.D.la X.W.Ls.length S.D.lc,c5:=S.D.sv,
  c6:=.int .u64 (X.W.nx:Int),c7:=.int .u64 (X.W.clock:Int),c8:=.slice S.D.oa X.W.out.length S.D.oc,c9:=.int .i64 X.W.en,c10:=.int .i64 X.W.why,c11:=.pointer (some ⟨sp,0,none⟩),c12:=.slice S.pa X.ps.length S.pc,c13:=.slice S.ma X.ms.length S.mc,T:=[.int .i64 X.sl,.int .i64 (X.st:Int)] }
theorem Own.toGlo {g:Gp} {a:Option Addr} {c:Nat} {gl:List Int} (h:Own w0 w (CelA g.b (g.cs (.slice a gl.length c)) :: RowGA 1 a c gl.length (intc gl) :: R)):Own w0 w (gloA g gl :: R):=by
 refine Own.fold (As:=[CelA g.b (g.cs (.slice a gl.length c)),RowGA 1 a c gl.length (intc gl)]) h ?_
 rintro F ⟨F1,F2,rfl,⟨rfl,hb,hB⟩,hd,F3,F4,rfl,⟨rfl,hr⟩,-,rfl⟩
 refine ⟨a,c,by simp,?_,hB,(RowG.to_row hr).1⟩
 have:=hd g.b (by simp)
 simpa using this
theorem Own.ofGlo {g:Gp} {gl:List Int} (h:Own w0 w (gloA g gl :: R)):∃ a c,Own w0 w (CelA g.b (g.cs (.slice a gl.length c)) :: RowGA 1 a c gl.length (intc gl) :: R):=by
 obtain ⟨As,⟨a,c,rfl⟩,h1⟩:=Own.unfold h (P:=fun As=>∃ a c,As = [CelA g.b (g.cs (.slice a gl.length c)),RowGA 1 a c gl.length (intc gl)]) (fun F hF=>by
  obtain ⟨a,c,rfl,h2,h3,h4⟩:=hF
  exact ⟨_,⟨a,c,rfl⟩,[g.b],blk a,by simp,⟨rfl,h3.lt (by simp [Gp.cs]),h3⟩,fun x hx hc=>by simp at hx;subst hx;exact h2 hc,blk a,[],by simp,⟨rfl,RowG.of_row h4⟩,fun x hx=>by simp,rfl⟩)
 exact ⟨a,c,h1⟩
theorem gp_cells (b sp:Nat) (X:Sd) (S:Sa):(gpOf b sp X S).cs (.slice S.ga X.gl.length S.gc) = wcells X.W S.D ++ stl sp X S:=rfl
def sfar (X:Sd) (S:Sa):List Asr:=[RowGA 3 S.pa S.pc X.ps.length (pcs S.ld X.ps),RowGA 3 S.ma S.mc X.ms.length (mcs X.ms),LstA (swr X.W S.D)]
theorem Own.toG {S:Sa} (h:Own w0 w (schP b sp X S ++ R)):Own w0 w (gloA (gpOf b sp X S) X.gl :: LstA (locs (qds S.ld X.ps)) :: (sfar X S ++ R)):=by
 have h1:Own w0 w (CelA b ((gpOf b sp X S).cs (.slice S.ga X.gl.length S.gc)) :: RowGA 1 S.ga S.gc X.gl.length (intc X.gl) :: LstA (locs (qds S.ld X.ps)) :: (sfar X S ++ R)):=by
  rw [gp_cells]
  refine h.perm ?_
  show List.Perm (CelA b _ :: RowGA 3 _ _ _ _ :: LstA _ :: RowGA 3 _ _ _ _ :: RowGA 1 _ _ _ _ :: LstA _ :: R) (CelA b _ :: RowGA 1 _ _ _ _ :: LstA _ :: RowGA 3 _ _ _ _ :: RowGA 3 _ _ _ _ :: LstA _ :: R)
  refine List.Perm.cons _ ?_
  exact (pick_perm _ 3 _ rfl).trans (List.Perm.cons _ (pick_perm _ 1 _ rfl))
 exact Own.toGlo (g:=gpOf b sp X S) h1
theorem Own.ofG {S:Sa} {gl:List Int} {ps:List Pm} (hp:ps.length = X.ps.length) (h:Own w0 w (gloA (gpOf b sp X S) gl :: LstA (locs (qds S.ld ps)) :: (sfar X S ++ R))) (hpc:pcs S.ld ps = pcs S.ld X.ps):∃ a c,Own w0 w (schP b sp { X with gl:=gl,ps:=ps } { S with ga:=a,gc:=c } ++ R):=by
 obtain ⟨a,c,h1⟩:=h.ofGlo
 refine ⟨a,c,?_⟩
 have h2:Own w0 w (CelA b (wcells X.W S.D ++ stl sp { X with gl:=gl,ps:=ps } { S with ga:=a,gc:=c }) :: RowGA 1 a c gl.length (intc gl) :: LstA (locs (qds S.ld ps)) :: RowGA 3 S.pa S.pc ps.length (pcs S.ld ps) :: RowGA 3 S.ma S.mc X.ms.length (mcs X.ms) :: LstA (swr X.W S.D) :: R):=by
  rw [hpc]
  have e:wcells X.W S.D ++ stl sp { X with gl:=gl,ps:=ps } { S with ga:=a,gc:=c } = (gpOf b sp X S).cs (.slice a gl.length c):=by
   unfold stl;simp only [hp];rfl
  rw [e,hp]
  exact h1
 refine h2.perm ?_
 show List.Perm _ (CelA b _ :: RowGA 3 _ _ _ _ :: LstA _ :: RowGA 3 _ _ _ _ :: RowGA 1 _ _ _ _ :: LstA _ :: R)
 refine List.Perm.cons _ ?_
 exact ((pick_perm [RowGA 3 S.pa S.pc ps.length (pcs S.ld ps),LstA (locs (qds S.ld ps)),RowGA 3 S.ma S.mc X.ms.length (mcs X.ms),RowGA 1 a c gl.length (intc gl),LstA (swr X.W S.D)] 3 _ rfl).trans (List.Perm.cons _ (pick_perm _ 1 _ rfl))).symm.append_right R
end
theorem pcs_len (ld:List (Nat × Nat)) (ps:List Pm) (h:ld.length = ps.length):(pcs ld ps).length = ps.length * 3:=by
 unfold pcs;rw [flat_len pc1 3 (fun _=>rfl),List.length_zip,h,Nat.min_self]
theorem RowG.part {s:Nat} {w:World} {b off cap n:Nat} {cs:List Value} (h:RowG s w (some ⟨b,off,none⟩) cap n cs) (j:Nat) (v:Value) (hj:cs[j]? = some v):w.cell? ⟨b,off + j,none⟩ = some v ∧ w.frozen? ⟨b,off + j,none⟩ = false:=by
 obtain ⟨b',off',e,hc⟩:=h.cells j v hj
 cases e
 have hl:=(List.getElem?_eq_some_iff.1 hj).1
 have h1:=h
 obtain ⟨h2,h3,h4,h5⟩:=h1
 obtain ⟨u,-,hz⟩:=h.spot j (by
  have:n * s ≤ cap * s:=Nat.mul_le_mul_right s (by first | exact h3 | exact h2)
  omega)
 exact ⟨hc,hz⟩
theorem RowG.some {s:Nat} {w:World} {a:Option Addr} {cap n:Nat} {cs:List Value} (h:RowG s w a cap n cs) {j:Nat} (hj:j < cs.length):∃ b off,a = some ⟨b,off,none⟩:=by
 obtain ⟨b,off,e,-⟩:=h.cells j _ (List.getElem?_eq_getElem hj)
 exact ⟨b,off,e⟩
section
variable {w0 w:World} {R:List Asr} {ld:List (Nat × Nat)} {ps:List Pm} {a:Option Addr} {cap:Nat}
theorem zip_at3 {i:Nat} {l:Nat × Nat} {P:Pm} (hl:ld[i]? = some l) (hP:ps[i]? = some P):(List.zip ld ps)[i]? = some (l,P):=by rw [List.getElem?_zip_eq_some];exact ⟨hl,hP⟩
theorem pcs_at {i:Nat} {l:Nat × Nat} {P:Pm} (hl:ld[i]? = some l) (hP:ps[i]? = some P) (k:Nat) (hk:k < 3):(pcs ld ps)[i * 3 + k]? = (pc1 (l,P))[k]?:=by
 have hz:=zip_at3 hl hP
 obtain ⟨h1,h2⟩:=List.getElem?_eq_some_iff.1 hz
 unfold pcs
 rw [flat_at pc1 3 (fun _=>rfl) _ i k h1 hk,h2]
theorem pcs_set {i:Nat} {l:Nat × Nat} {P P':Pm} (hl:ld[i]? = some l) (hP:ps[i]? = some P):pcs ld (ps.set i P') = setL (pcs ld ps) (i * 3) (pc1 (l,P')):=by
 have hz:=zip_at3 hl hP
 obtain ⟨h1,h2⟩:=List.getElem?_eq_some_iff.1 hz
 unfold pcs
 rw [flat_set pc1 3 (fun _=>rfl) _ i _ h1,zip_set2,set_self ld i l hl]
theorem mcs_at {ms:List Mm} {i:Nat} {M:Mm} (hM:ms[i]? = some M) (k:Nat) (hk:k < 3):(mcs ms)[i * 3 + k]? = (mc1 M)[k]?:=by
 obtain ⟨h1,h2⟩:=List.getElem?_eq_some_iff.1 hM
 unfold mcs
 rw [flat_at mc1 3 (fun _=>rfl) _ i k h1 hk,h2]
theorem mcs_set {ms:List Mm} {i:Nat} {M:Mm} (hi:i < ms.length):mcs (ms.set i M) = setL (mcs ms) (i * 3) (mc1 M):=by
 unfold mcs;rw [flat_set mc1 3 (fun _=>rfl) _ i _ hi]
theorem mcs_len (ms:List Mm):(mcs ms).length = ms.length * 3:=by unfold mcs;exact flat_len mc1 3 (fun _=>rfl) ms
theorem setL3 (cs:List Value) (o:Nat) (x y z:Value):setL cs o [x,y,z] = ((cs.set o x).set (o + 1) y).set (o + 2) z:=by
 unfold setL;rfl
theorem pcs_tu {i:Nat} {l:Nat × Nat} {P:Pm} (hl:ld[i]? = some l) (hP:ps[i]? = some P) (t:Nat):(pcs ld ps).set (i * 3 + 1) (.int .i64 (t:Int)) = pcs ld (ps.set i { P with tu:=t }):=by
 rw [pcs_set hl hP]
 show _ = setL _ _ [_,_,_]
 rw [setL3,set_self (pcs ld ps) (i * 3) _ ((pcs_at hl hP 0 (by omega)).trans rfl),set_self _ (i * 3 + 2) _ (by
  rw [List.getElem?_set_ne (by omega),pcs_at hl hP 2 (by omega)];rfl)]
theorem pcs_by {i:Nat} {l:Nat × Nat} {P:Pm} (hl:ld[i]? = some l) (hP:ps[i]? = some P) (t:Int):(pcs ld ps).set (i * 3 + 2) (.int .i64 t) = pcs ld (ps.set i { P with by_:=t }):=by
 rw [pcs_set hl hP]
 show _ = setL _ _ [_,_,_]
 rw [setL3,set_self (pcs ld ps) (i * 3) _ ((pcs_at hl hP 0 (by omega)).trans rfl),set_self (pcs ld ps) (i * 3 + 1) _ (by
  rw [pcs_at hl hP 1 (by omega)];rfl)]
theorem pcs_q {i:Nat} {l:Nat × Nat} {P:Pm} (hl:ld[i]? = some l) (hP:ps[i]? = some P) (q:LQ):pcs ld (ps.set i { P with q:=q }) = pcs ld ps:=by
 rw [pcs_set hl hP]
 show setL _ _ [_,_,_] = _
 rw [setL3,set_self (pcs ld ps) (i * 3) _ ((pcs_at hl hP 0 (by omega)).trans rfl),set_self (pcs ld ps) (i * 3 + 1) _ (by
  rw [pcs_at hl hP 1 (by omega)];rfl),set_self (pcs ld ps) (i * 3 + 2) _ (by rw [pcs_at hl hP 2 (by omega)];rfl)]
theorem qds_at {i:Nat} {l:Nat × Nat} {P:Pm} (hl:ld[i]? = some l) (hP:ps[i]? = some P):(qds ld ps)[i]? = some (qd1 l P):=by
 unfold qds;rw [List.getElem?_zipWith,hl,hP]
theorem qds_set (i:Nat) {l:Nat × Nat} (hl:ld[i]? = some l) (P:Pm):(qds ld ps).set i (qd1 l P) = qds ld (ps.set i P):=by
 apply List.ext_getElem?
 intro j
 unfold qds
 rw [List.getElem?_zipWith,List.getElem?_set,List.getElem?_set,List.length_zipWith,List.getElem?_zipWith]
 have hll:=(List.getElem?_eq_some_iff.1 hl).1
 by_cases e:i = j
 ·subst e
  by_cases h2:i < ps.length
  ·rw [if_pos rfl,if_pos (by omega)];simp [h2,hl]
  ·rw [if_pos rfl,if_neg (by omega)]
   simp [h2,hl]
 ·simp [e]
theorem qds_same {i:Nat} {P:Pm} {P':Pm} (hP:ps[i]? = some P) (hN:P'.N = P.N) (hq:P'.q = P.q):qds ld (ps.set i P') = qds ld ps:=by
 apply List.ext_getElem?
 intro j
 unfold qds
 rw [List.getElem?_zipWith,List.getElem?_zipWith,List.getElem?_set]
 by_cases e:i = j
 ·subst e
  rw [if_pos rfl,if_pos (List.getElem?_eq_some_iff.1 hP).1,hP]
  cases ld[i]? with
  | none=>rfl
  | some l=>simp [qd1,hN,hq]
 ·rw [if_neg e]
end
end Go.Proofs.YtphfaekpckbepaaGreat
