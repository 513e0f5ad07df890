/-
  Texts put together: WdWld, SdA, SdB, RdM, SdInv, SdQ, SdNear, RowG3, Nums, Get, Back, Ints, Bld, Recs, RecsIn, WSrc1, WSrc2, WSrc3, WSrc4, WSrc5, WSrc6, SdDrw, SdWF, SdNew, SdStep, SdRun.
-/
import Derived.Test.YtodjgipiomnnfaaGreatMx5
import Derived.Test.YtodjgipiomnnfaaGreatMx2
import Derived.Test.YtodjgipiomnnfaaGreatMx1
import Derived.Test.YtodjgipiomnnfaaGreatMx3
import Derived.Test.YtodjgipiomnnfaaGreatMx4
import Derived.WalkKit
import Derived.IntWalk
import Derived.Lib.BitFns
import Derived.OpenShut
import Derived.ProofKit
import Derived.Lib.Builder
import Derived.Deep.SlicePairs
import Derived.Lib.SmallJoins
import Derived.Test.YtodjgipiomnnfaaGreatRows
import Derived.Deep.QuietTactic
import Derived.BigQuiet
import Derived.WalkSmall
set_option maxRecDepth 100000
set_option maxHeartbeats 16000000
set_option linter.unusedSimpArgs false
set_option linter.unusedVariables false
open Go Go.RowKit
set_option linter.unusedVariables false
namespace Go.Proofs.YtodjgipiomnnfaaGreat
def WldA (p:Nat) (W:Wd) (T:List Value):Asr where
 at_ w F:=∃ D:Wa,D.fits W ∧ Sep w (wparts p W D T) F
 lt:=by rintro w F ⟨D,-,h⟩;exact h.lt
 chg:=by rintro w w' F G ⟨D,h1,h⟩ c hd;exact ⟨D,h1,h.chg c hd⟩
theorem Own.wld {w0 w:World} {p:Nat} {W:Wd} {T:List Value} {R:List Asr} (h:Own w0 w (WldA p W T :: R)):∃ D:Wa,D.fits W ∧ Own w0 w (wparts p W D T ++ R):=by
 obtain ⟨As,⟨D,hf,rfl⟩,h1⟩:=Own.unfold h (P:=fun As=>∃ D:Wa,D.fits W ∧ As = wparts p W D T) (fun F ⟨D,hf,hF⟩=>⟨_,⟨D,hf,rfl⟩,hF⟩)
 exact ⟨D,hf,h1⟩
theorem Own.toWld {w0 w:World} {p:Nat} {W:Wd} {T:List Value} {R:List Asr} {D:Wa} (hf:D.fits W) (h:Own w0 w (wparts p W D T ++ R)):Own w0 w (WldA p W T :: R):=Own.fold h (fun F hF=>⟨D,hf,hF⟩)
theorem Own.rowNil0 {w0 w:World} {R:List Asr} (s:Nat) (h:Own w0 w R):Own w0 w (RowGA s none 0 0 [] :: R):=h.add (Below.refl _ _) (F:=[]) ⟨rfl,RowG.nil s w⟩ (by intro x hx;simp at hx)
theorem Own.wldBack {w0 w:World} {p:Nat} {W:Wd} {T:List Value} {R:List Asr} {A:Asr} {D:Wa} (hf:D.fits W) (h:Own w0 w (A :: (wparts p W D T ++ R))):Own w0 w (A :: WldA p W T :: R):=by
 have h1:Own w0 w (wparts p W D T ++ (A :: R)):=h.perm (by
  have:=(List.perm_middle (a:=A) (l₁:=wparts p W D T) (l₂:=R)).symm
  exact this)
 have h2:=Own.toWld hf h1
 exact h2.perm (List.Perm.swap _ _ _)
theorem execM_none {B:Nat} {W:Wd} (wf:WF B W) {g:Int} (h:W.lets g → askN W ((W.ins g.toNat).getD (0,0,0,0)) = 0) (u v:Int):execM W g u = execM W g v:=by
 unfold execM
 by_cases hl:W.lets g
 ·rw [if_pos hl,if_pos hl]
  have hk:AskIn W ((W.ins g.toNat).getD (0,0,0,0)):=by
   cases hx:W.ins g.toNat with
   | none=>exact ⟨fun e=>absurd e (by decide),fun e=>absurd e (by decide)⟩
   | some x =>
    obtain ⟨k1,-,-⟩:=wf.insOk hx
    exact ⟨fun e=>⟨k1.casX (.inr (.inr e)),by have:=wf.p.kl;omega,k1.casOk (.inr (.inr e)) wf.p.ck⟩,fun e=>by have:=k1.o21 e;simp only [Option.getD_some] at *;omega⟩
  simp only [askM_none hk (h hl)]
 ·rw [if_neg hl,if_neg hl]
def ExecW (w0:World) (p:Nat) (T:List Value) (W:Wd) (g:Int) (R:List Asr) (Qd:Int → List Asr → Prop) (Qp:Ending → List Asr → Prop) (r:Ending) (w':World):Prop :=
 (∃ v R' ra rc,((¬ W.lets g ∨ askN W ((W.ins g.toNat).getD (0,0,0,0)) = 0) ∧ R' = R ∨ (W.lets g ∧ 1 ≤ askN W ((W.ins g.toNat).getD (0,0,0,0))) ∧ Qd v R') ∧
  r = .returned (.agg #[.bool (execM W g v).2.1,.slice ra (execM W g v).2.2.length rc]) ∧ Own w0 w' (RowGA 1 ra rc (execM W g v).2.2.length (intc (execM W g v).2.2) :: WldA p (execM W g v).1 T :: R')) ∨
 (∃ chain R',r = .panicked chain ∧ (W.lets g ∧ 1 ≤ askN W ((W.ins g.toNat).getD (0,0,0,0))) ∧ Qp r R' ∧ Own w0 w' (WldA p W T :: R'))
theorem exec_w {w0 w:World} {p:Nat} {T:List Value} {W:Wd} {R:List Asr} {F:Nat} {fst cap:Array Value} {Qd:Int → List Asr → Prop} {Qp:Ending → List Asr → Prop} {B:Nat} (h:Own w0 w (WldA p W T :: R)) (wf:WF B W) (hB:B ≤ 80000) (g:Int)
  (en:∀ (args:Array Value) (w:World),(callFunc F args).run Tryz.prog w = .ok (.enter F args) w) (hd:W.lets g → 1 ≤ askN W ((W.ins g.toNat).getD (0,0,0,0)) → DrawOk w0 p T W F fst cap (askK ((W.ins g.toNat).getD (0,0,0,0))) (askN W ((W.ins g.toNat).getD (0,0,0,0)):Int) R Qd Qp) :
  Calls Tryz.prog 72 #[.pointer (some ⟨p,0,none⟩),.int .i64 g,.func (.func F) fst cap] w fun r w'=>ExecW w0 p T W g R Qd Qp r w':=by
 obtain ⟨D,hf,ho⟩:=h.wld
 by_cases hl:W.lets g
 ·obtain ⟨k,rfl⟩:∃ k:Nat,g = (k:Int):=⟨g.toNat,by have:=hl.2.1;omega⟩
  have hl2:=hl
  refine (exec_all (Qd:=Qd) (Qp:=Qp) ho hf k (wf.execOk hB hl) en (hd hl)).mono (fun r w' hh=>?_)
  rcases hh with ⟨v,R',D',ra,rc,hq,h1,h2,h3⟩ | ⟨D',ch,R',h1,h2,h3,h4,h5⟩
  ·refine .inl ⟨v,R',ra,rc,?_,h1,Own.wldBack h2 h3⟩
   rcases hq with ⟨a,b⟩ | ⟨a,b⟩
   ·exact .inl ⟨.inr a,b⟩
   ·exact .inr ⟨⟨hl2,a⟩,b⟩
  ·exact .inr ⟨ch,R',h1,⟨hl2,h2⟩,h3,Own.toWld h4 h5⟩
 ·refine (exec_no ho hf g hl (.func (.func F) fst cap)).mono (fun r w' hh=>?_)
  have e:execM W g 0 = (W,false,[]):=by unfold execM;rw [if_neg hl]
  refine .inl ⟨0,R,none,0,.inl ⟨.inl hl,rfl⟩,?_,?_⟩
  ·rw [e];exact hh.1
  ·rw [e];exact Own.rowNil0 1 (Own.toWld hf hh.2)
section
variable {w0 w:World} {p:Nat} {W:Wd} {T:List Value} {R:List Asr}
theorem end_w (h:Own w0 w (WldA p W T :: R)):Calls Tryz.prog 34 #[.pointer (some ⟨p,0,none⟩)] w fun r w'=>r = .returned (.tuple #[.int .i64 W.en,.int .i64 W.why]) ∧ ∃ k,w' = w.drewN k:=by
 obtain ⟨D,hf,ho⟩:=h.wld
 exact wend_any ho
theorem status_w (h:Own w0 w (WldA p W T :: R)) (g:Int):Calls Tryz.prog 74 #[.pointer (some ⟨p,0,none⟩),.int .i64 g] w fun r w'=>r = .returned (.int .i64 (statusM W g)) ∧ w' = w:=by
 obtain ⟨D,hf,ho⟩:=h.wld
 exact status_any ho hf g
theorem out_w (h:Own w0 w (WldA p W T :: R)) {B:Nat} (wf:WF B W):Calls Tryz.prog 15 #[.pointer (some ⟨p,0,none⟩)] w fun r w'=>∃ a' c',r = .returned (.slice a' W.out.length c') ∧ RowG 1 w' a' c' W.out.length (intc W.out) ∧ (∀ x ∈ blk a',w.heap.size ≤ x) ∧ Below w.heap.size w w':=by
 obtain ⟨D,hf,ho⟩:=h.wld
 exact wout_any ho (by have:=wf.out;omega)
end
theorem new_w (w:World) (fa:Option Addr) (fc:Nat) (fr:List (Option Addr × Nat)) (fs:List (List In4)) (ra:Option Addr) (rc:Nat) (rooms:List Int) (locks:Nat) (ca:Option Addr) (cc:Nat) (ks:List Cs3) (hp:ProgIn w fa fr fs ra rooms ca cc ks) (hlk:locks ≤ 1000) :
  Calls Tryz.prog 26 #[.agg #[.slice fa fs.length fc,.slice ra rooms.length rc,.int .i64 (locks:Int),.slice ca ks.length cc]] w fun r w'=>∃ b,r = .returned (.pointer (some ⟨b,0,none⟩)) ∧ Own w w' [WldA b (newM fs ks rooms locks) []]:=by
 refine (wnew_any w fa fc fr fs ra rc rooms locks ca cc ks hp hlk).mono (fun r w' hh=>?_)
 obtain ⟨b,D,h1,hf,ho⟩:=hh
 exact ⟨b,h1,Own.toWld (R:=[]) hf (by rw [List.append_nil];exact ho)⟩
theorem no_op {B:Nat} {W:Wd} (k:Int) (hk:k ≠ 0) (h:∀ l ∈ W.fs,∀ x ∈ l,x.1 ≠ k) (g:Nat):((W.ins g).getD (0,0,0,0)).1 ≠ k:=by
 cases hx:W.ins g with
 | none=>exact fun e=>hk e.symm
 | some x =>
  simp only [Option.getD_some]
  rw [Wd.ins_eq] at hx
  unfold Wd.insAt at hx
  split at hx
  ·cases hx
  ·have hm:=List.mem_of_getElem? hx
   rw [List.getD_eq_getElem?_getD] at hm
   cases e:W.fs[(W.g g).fn.toNat]? with
   | none=>rw [e] at hm;simp at hm
   | some l=>rw [e] at hm;exact h l (List.mem_of_getElem? e) x hm
end Go.Proofs.YtodjgipiomnnfaaGreat
open Go Go.RowKit
set_option linter.unusedVariables false
namespace Go.Proofs.YtodjgipiomnnfaaGreat
structure Sa where
 D:Wa
 pa:Option Addr
 pc:Nat
 ld:List (Nat × Nat)
 ma:Option Addr
 mc:Nat
 ga:Option Addr
 gc:Nat
def qd1 (l:Nat × Nat) (P:Pm):Qd:=⟨l.1,l.2,P.N,P.q,none,0⟩
def qds (ld:List (Nat × Nat)) (ps:List Pm):List Qd:=List.zipWith qd1 ld ps
def pc1 (x:(Nat × Nat) × Pm):List Value:=[.pointer (some ⟨x.1.1,0,none⟩),.int .i64 (x.2.tu:Int),.int .i64 x.2.by_]
def pcs (ld:List (Nat × Nat)) (ps:List Pm):List Value:=(List.zip ld ps).flatMap pc1
def mc1 (M:Mm):List Value:=[.int .i64 M.P,.int .i64 M.G,.int .i64 M.L]
def mcs (ms:List Mm):List Value:=ms.flatMap mc1
def stl (sp:Nat) (X:Sd) (S:Sa):List Value:=[.pointer (some ⟨sp,0,none⟩),.slice S.pa X.ps.length S.pc,.slice S.ma X.ms.length S.mc,.slice S.ga X.gl.length S.gc,.int .i64 X.sl,.int .i64 (X.st:Int)]
def swr (W:Wd) (D:Wa):List Asr:=(wparts 0 W D []).tail
theorem wparts_eq (p:Nat) (W:Wd) (D:Wa) (T:List Value):wparts p W D T = CelA p (wcells W D ++ T) :: swr W D:=rfl
def schP (b sp:Nat) (X:Sd) (S:Sa):List Asr :=
 [CelA b (wcells X.W S.D ++ stl sp X S),RowGA 3 S.pa S.pc X.ps.length (pcs S.ld X.ps),LstA (locs (qds S.ld X.ps)),RowGA 3 S.ma S.mc X.ms.length (mcs X.ms),RowGA 1 S.ga S.gc X.gl.length (intc X.gl),LstA (swr X.W S.D)]
structure Sa.fits (S:Sa) (X:Sd):Prop where
 w:S.D.fits X.W
 l:S.ld.length = X.ps.length
def SchA (b sp:Nat) (X:Sd):Asr where
 at_ w F:=∃ S:Sa,S.fits X ∧ Sep w (schP b sp X S) F
 lt:=by rintro w F ⟨S,-,h⟩;exact h.lt
 chg:=by rintro w w' F G ⟨S,h1,h⟩ c hd;exact ⟨S,h1,h.chg c hd⟩
section
variable {w0 w:World} {b sp:Nat} {X:Sd} {R:List Asr}
theorem Own.sch (h:Own w0 w (SchA b sp X :: R)):∃ S:Sa,S.fits X ∧ Own w0 w (schP b sp X S ++ R):=by
 obtain ⟨As,⟨S,hf,rfl⟩,h1⟩:=Own.unfold h (P:=fun As=>∃ S:Sa,S.fits X ∧ As = schP b sp X S) (fun F ⟨S,hf,hF⟩=>⟨_,⟨S,hf,rfl⟩,hF⟩)
 exact ⟨S,hf,h1⟩
theorem Own.toSch {S:Sa} (hf:S.fits X) (h:Own w0 w (schP b sp X S ++ R)):Own w0 w (SchA b sp X :: R):=Own.fold h (fun F hF=>⟨S,hf,hF⟩)
def squeue (X:Sd) (S:Sa):List Asr:=[RowGA 3 S.pa S.pc X.ps.length (pcs S.ld X.ps),LstA (locs (qds S.ld X.ps)),RowGA 3 S.ma S.mc X.ms.length (mcs X.ms),RowGA 1 S.ga S.gc X.gl.length (intc X.gl)]
theorem Own.toW {S:Sa} (hf:S.fits X) (h:Own w0 w (schP b sp X S ++ R)):Own w0 w (WldA b X.W (stl sp X S) :: (squeue X S ++ R)):=by
 have h1:Own w0 w (LstA (swr X.W S.D) :: CelA b (wcells X.W S.D ++ stl sp X S) :: (squeue X S ++ R)):=h.pick 5 rfl
 have h2:=h1.unl
 refine Own.toWld hf.w (T:=stl sp X S) (h2.perm ?_)
 rw [wparts_eq]
 exact List.perm_middle
theorem Own.ofW {S:Sa} {W':Wd} (hl:S.ld.length = X.ps.length) (h:Own w0 w (WldA b W' (stl sp X S) :: (squeue X S ++ R))):∃ D',(Sa.fits { S with D:=D' } { X with W:=W' }) ∧ Own w0 w (schP b sp { X with W:=W' } { S with D:=D' } ++ R):=by
 obtain ⟨D',hD,h1⟩:=h.wld
 rw [wparts_eq] at h1
 refine ⟨D',⟨hD,hl⟩,?_⟩
 have h2:Own w0 w (swr W' D' ++ (CelA b (wcells W' D' ++ stl sp X S) :: (squeue X S ++ R))):=h1.perm List.perm_middle.symm
 have h3:Own w0 w (LstA (swr W' D') :: CelA b (wcells W' D' ++ stl sp X S) :: (squeue X S ++ R)):=Own.lst h2
 exact h3.back (As:=CelA b (wcells W' D' ++ stl sp X S) :: RowGA 3 S.pa S.pc X.ps.length (pcs S.ld X.ps) :: LstA (locs (qds S.ld X.ps)) :: RowGA 3 S.ma S.mc X.ms.length (mcs X.ms) :: RowGA 1 S.ga S.gc X.gl.length (intc X.gl) :: LstA (swr W' D') :: R) (i:=5) (by simp)
def gpOf (b sp:Nat) (X:Sd) (S:Sa):Gp :=
 {b:=b,c0:=.slice S.D.fa X.W.fs.length S.D.fc,c1:=.slice S.D.ca X.W.ks.length S.D.cc,c2:=.slice S.D.aa X.W.gs.length S.D.ac,c3:=.slice S.D.ha X.W.Cs.length S.D.hc,c4:=.slice S.D.la X.W.Ls.length S.D.lc,c5:=S.D.sv,
  c6:=.int .u64 (X.W.nx:Int),c7:=.int .u64 (X.W.clock:Int),c8:=.slice S.D.oa X.W.out.length S.D.oc,c9:=.int .i64 X.W.en,c10:=.int .i64 X.W.why,c11:=.pointer (some ⟨sp,0,none⟩),c12:=.slice S.pa X.ps.length S.pc,c13:=.slice S.ma X.ms.length S.mc,T:=[.int .i64 X.sl,.int .i64 (X.st:Int)] }
theorem Own.toGlo {g:Gp} {a:Option Addr} {c:Nat} {gl:List Int} (h:Own w0 w (CelA g.b (g.cs (.slice a gl.length c)) :: RowGA 1 a c gl.length (intc gl) :: R)):Own w0 w (gloA g gl :: R):=by
 refine Own.fold (As:=[CelA g.b (g.cs (.slice a gl.length c)),RowGA 1 a c gl.length (intc gl)]) h ?_
 rintro F ⟨F1,F2,rfl,⟨rfl,hb,hB⟩,hd,F3,F4,rfl,⟨rfl,hr⟩,-,rfl⟩
 refine ⟨a,c,by simp,?_,hB,(RowG.to_row hr).1⟩
 have:=hd g.b (by simp)
 simpa using this
theorem Own.ofGlo {g:Gp} {gl:List Int} (h:Own w0 w (gloA g gl :: R)):∃ a c,Own w0 w (CelA g.b (g.cs (.slice a gl.length c)) :: RowGA 1 a c gl.length (intc gl) :: R):=by
 obtain ⟨As,⟨a,c,rfl⟩,h1⟩:=Own.unfold h (P:=fun As=>∃ a c,As = [CelA g.b (g.cs (.slice a gl.length c)),RowGA 1 a c gl.length (intc gl)]) (fun F hF=>by
  obtain ⟨a,c,rfl,h2,h3,h4⟩:=hF
  exact ⟨_,⟨a,c,rfl⟩,[g.b],blk a,by simp,⟨rfl,h3.lt (by simp [Gp.cs]),h3⟩,fun x hx hc=>by simp at hx;subst hx;exact h2 hc,blk a,[],by simp,⟨rfl,RowG.of_row h4⟩,fun x hx=>by simp,rfl⟩)
 exact ⟨a,c,h1⟩
theorem gp_cells (b sp:Nat) (X:Sd) (S:Sa):(gpOf b sp X S).cs (.slice S.ga X.gl.length S.gc) = wcells X.W S.D ++ stl sp X S:=rfl
def sfar (X:Sd) (S:Sa):List Asr:=[RowGA 3 S.pa S.pc X.ps.length (pcs S.ld X.ps),RowGA 3 S.ma S.mc X.ms.length (mcs X.ms),LstA (swr X.W S.D)]
theorem Own.toG {S:Sa} (h:Own w0 w (schP b sp X S ++ R)):Own w0 w (gloA (gpOf b sp X S) X.gl :: LstA (locs (qds S.ld X.ps)) :: (sfar X S ++ R)):=by
 have h1:Own w0 w (CelA b ((gpOf b sp X S).cs (.slice S.ga X.gl.length S.gc)) :: RowGA 1 S.ga S.gc X.gl.length (intc X.gl) :: LstA (locs (qds S.ld X.ps)) :: (sfar X S ++ R)):=by
  rw [gp_cells]
  refine h.perm ?_
  show List.Perm (CelA b _ :: RowGA 3 _ _ _ _ :: LstA _ :: RowGA 3 _ _ _ _ :: RowGA 1 _ _ _ _ :: LstA _ :: R) (CelA b _ :: RowGA 1 _ _ _ _ :: LstA _ :: RowGA 3 _ _ _ _ :: RowGA 3 _ _ _ _ :: LstA _ :: R)
  refine List.Perm.cons _ ?_
  exact (pick_perm _ 3 _ rfl).trans (List.Perm.cons _ (pick_perm _ 1 _ rfl))
 exact Own.toGlo (g:=gpOf b sp X S) h1
theorem Own.ofG {S:Sa} {gl:List Int} {ps:List Pm} (hp:ps.length = X.ps.length) (h:Own w0 w (gloA (gpOf b sp X S) gl :: LstA (locs (qds S.ld ps)) :: (sfar X S ++ R))) (hpc:pcs S.ld ps = pcs S.ld X.ps):∃ a c,Own w0 w (schP b sp { X with gl:=gl,ps:=ps } { S with ga:=a,gc:=c } ++ R):=by
 obtain ⟨a,c,h1⟩:=h.ofGlo
 refine ⟨a,c,?_⟩
 have h2:Own w0 w (CelA b (wcells X.W S.D ++ stl sp { X with gl:=gl,ps:=ps } { S with ga:=a,gc:=c }) :: RowGA 1 a c gl.length (intc gl) :: LstA (locs (qds S.ld ps)) :: RowGA 3 S.pa S.pc ps.length (pcs S.ld ps) :: RowGA 3 S.ma S.mc X.ms.length (mcs X.ms) :: LstA (swr X.W S.D) :: R):=by
  rw [hpc]
  have e:wcells X.W S.D ++ stl sp { X with gl:=gl,ps:=ps } { S with ga:=a,gc:=c } = (gpOf b sp X S).cs (.slice a gl.length c):=by
   unfold stl;simp only [hp];rfl
  rw [e,hp]
  exact h1
 refine h2.perm ?_
 show List.Perm _ (CelA b _ :: RowGA 3 _ _ _ _ :: LstA _ :: RowGA 3 _ _ _ _ :: RowGA 1 _ _ _ _ :: LstA _ :: R)
 refine List.Perm.cons _ ?_
 exact ((pick_perm [RowGA 3 S.pa S.pc ps.length (pcs S.ld ps),LstA (locs (qds S.ld ps)),RowGA 3 S.ma S.mc X.ms.length (mcs X.ms),RowGA 1 a c gl.length (intc gl),LstA (swr X.W S.D)] 3 _ rfl).trans (List.Perm.cons _ (pick_perm _ 1 _ rfl))).symm.append_right R
end
theorem pcs_len (ld:List (Nat × Nat)) (ps:List Pm) (h:ld.length = ps.length):(pcs ld ps).length = ps.length * 3:=by
 unfold pcs;rw [flat_len pc1 3 (fun _=>rfl),List.length_zip,h,Nat.min_self]
theorem RowG.part {s:Nat} {w:World} {b off cap n:Nat} {cs:List Value} (h:RowG s w (some ⟨b,off,none⟩) cap n cs) (j:Nat) (v:Value) (hj:cs[j]? = some v):w.cell? ⟨b,off + j,none⟩ = some v ∧ w.frozen? ⟨b,off + j,none⟩ = false:=by
 obtain ⟨b',off',e,hc⟩:=h.cells j v hj
 cases e
 have hl:=(List.getElem?_eq_some_iff.1 hj).1
 have h1:=h
 obtain ⟨h2,h3,h4,h5⟩:=h1
 obtain ⟨u,-,hz⟩:=h.spot j (by
  have:n * s ≤ cap * s:=Nat.mul_le_mul_right s (by first | exact h3 | exact h2)
  omega)
 exact ⟨hc,hz⟩
theorem RowG.some {s:Nat} {w:World} {a:Option Addr} {cap n:Nat} {cs:List Value} (h:RowG s w a cap n cs) {j:Nat} (hj:j < cs.length):∃ b off,a = some ⟨b,off,none⟩:=by
 obtain ⟨b,off,e,-⟩:=h.cells j _ (List.getElem?_eq_getElem hj)
 exact ⟨b,off,e⟩
section
variable {w0 w:World} {R:List Asr} {ld:List (Nat × Nat)} {ps:List Pm} {a:Option Addr} {cap:Nat}
theorem zip_at3 {i:Nat} {l:Nat × Nat} {P:Pm} (hl:ld[i]? = some l) (hP:ps[i]? = some P):(List.zip ld ps)[i]? = some (l,P):=by rw [List.getElem?_zip_eq_some];exact ⟨hl,hP⟩
theorem pcs_at {i:Nat} {l:Nat × Nat} {P:Pm} (hl:ld[i]? = some l) (hP:ps[i]? = some P) (k:Nat) (hk:k < 3):(pcs ld ps)[i * 3 + k]? = (pc1 (l,P))[k]?:=by
 have hz:=zip_at3 hl hP
 obtain ⟨h1,h2⟩:=List.getElem?_eq_some_iff.1 hz
 unfold pcs
 rw [flat_at pc1 3 (fun _=>rfl) _ i k h1 hk,h2]
theorem pcs_set {i:Nat} {l:Nat × Nat} {P P':Pm} (hl:ld[i]? = some l) (hP:ps[i]? = some P):pcs ld (ps.set i P') = setL (pcs ld ps) (i * 3) (pc1 (l,P')):=by
 have hz:=zip_at3 hl hP
 obtain ⟨h1,h2⟩:=List.getElem?_eq_some_iff.1 hz
 unfold pcs
 rw [flat_set pc1 3 (fun _=>rfl) _ i _ h1,zip_set2,set_self ld i l hl]
theorem mcs_at {ms:List Mm} {i:Nat} {M:Mm} (hM:ms[i]? = some M) (k:Nat) (hk:k < 3):(mcs ms)[i * 3 + k]? = (mc1 M)[k]?:=by
 obtain ⟨h1,h2⟩:=List.getElem?_eq_some_iff.1 hM
 unfold mcs
 rw [flat_at mc1 3 (fun _=>rfl) _ i k h1 hk,h2]
theorem mcs_set {ms:List Mm} {i:Nat} {M:Mm} (hi:i < ms.length):mcs (ms.set i M) = setL (mcs ms) (i * 3) (mc1 M):=by
 unfold mcs;rw [flat_set mc1 3 (fun _=>rfl) _ i _ hi]
theorem mcs_len (ms:List Mm):(mcs ms).length = ms.length * 3:=by unfold mcs;exact flat_len mc1 3 (fun _=>rfl) ms
theorem setL3 (cs:List Value) (o:Nat) (x y z:Value):setL cs o [x,y,z] = ((cs.set o x).set (o + 1) y).set (o + 2) z:=by
 unfold setL;rfl
theorem pcs_tu {i:Nat} {l:Nat × Nat} {P:Pm} (hl:ld[i]? = some l) (hP:ps[i]? = some P) (t:Nat):(pcs ld ps).set (i * 3 + 1) (.int .i64 (t:Int)) = pcs ld (ps.set i { P with tu:=t }):=by
 rw [pcs_set hl hP]
 show _ = setL _ _ [_,_,_]
 rw [setL3,set_self (pcs ld ps) (i * 3) _ ((pcs_at hl hP 0 (by omega)).trans rfl),set_self _ (i * 3 + 2) _ (by
  rw [List.getElem?_set_ne (by omega),pcs_at hl hP 2 (by omega)];rfl)]
theorem pcs_by {i:Nat} {l:Nat × Nat} {P:Pm} (hl:ld[i]? = some l) (hP:ps[i]? = some P) (t:Int):(pcs ld ps).set (i * 3 + 2) (.int .i64 t) = pcs ld (ps.set i { P with by_:=t }):=by
 rw [pcs_set hl hP]
 show _ = setL _ _ [_,_,_]
 rw [setL3,set_self (pcs ld ps) (i * 3) _ ((pcs_at hl hP 0 (by omega)).trans rfl),set_self (pcs ld ps) (i * 3 + 1) _ (by
  rw [pcs_at hl hP 1 (by omega)];rfl)]
theorem pcs_q {i:Nat} {l:Nat × Nat} {P:Pm} (hl:ld[i]? = some l) (hP:ps[i]? = some P) (q:LQ):pcs ld (ps.set i { P with q:=q }) = pcs ld ps:=by
 rw [pcs_set hl hP]
 show setL _ _ [_,_,_] = _
 rw [setL3,set_self (pcs ld ps) (i * 3) _ ((pcs_at hl hP 0 (by omega)).trans rfl),set_self (pcs ld ps) (i * 3 + 1) _ (by
  rw [pcs_at hl hP 1 (by omega)];rfl),set_self (pcs ld ps) (i * 3 + 2) _ (by rw [pcs_at hl hP 2 (by omega)];rfl)]
theorem qds_at {i:Nat} {l:Nat × Nat} {P:Pm} (hl:ld[i]? = some l) (hP:ps[i]? = some P):(qds ld ps)[i]? = some (qd1 l P):=by
 unfold qds;rw [List.getElem?_zipWith,hl,hP]
theorem qds_set (i:Nat) {l:Nat × Nat} (hl:ld[i]? = some l) (P:Pm):(qds ld ps).set i (qd1 l P) = qds ld (ps.set i P):=by
 apply List.ext_getElem?
 intro j
 unfold qds
 rw [List.getElem?_zipWith,List.getElem?_set,List.getElem?_set,List.length_zipWith,List.getElem?_zipWith]
 have hll:=(List.getElem?_eq_some_iff.1 hl).1
 by_cases e:i = j
 ·subst e
  by_cases h2:i < ps.length
  ·rw [if_pos rfl,if_pos (by omega)];simp [h2,hl]
  ·rw [if_pos rfl,if_neg (by omega)]
   simp [h2,hl]
 ·simp [e]
theorem qds_same {i:Nat} {P:Pm} {P':Pm} (hP:ps[i]? = some P) (hN:P'.N = P.N) (hq:P'.q = P.q):qds ld (ps.set i P') = qds ld ps:=by
 apply List.ext_getElem?
 intro j
 unfold qds
 rw [List.getElem?_zipWith,List.getElem?_zipWith,List.getElem?_set]
 by_cases e:i = j
 ·subst e
  rw [if_pos rfl,if_pos (List.getElem?_eq_some_iff.1 hP).1,hP]
  cases ld[i]? with
  | none=>rfl
  | some l=>simp [qd1,hN,hq]
 ·rw [if_neg e]
end
end Go.Proofs.YtodjgipiomnnfaaGreat
open Go Go.RowKit
set_option linter.unusedVariables false
namespace Go.Proofs.YtodjgipiomnnfaaGreat
section
variable {w0 w:World} {b sp:Nat} {X:Sd} {S:Sa} {R:List Asr}
theorem sp_proc (h:Own w0 w (schP b sp X S ++ R)) (hf:S.fits X) {i:Nat} (hi:i < X.ps.length):∃ pb off p g,S.pa = some ⟨pb,off,none⟩ ∧ S.ld[i]? = some (p,g) ∧
  (w.cell? ⟨pb,off + i * 3,none⟩ = some (.pointer (some ⟨p,0,none⟩)) ∧ w.cell? ⟨pb,off + i * 3 + 1,none⟩ = some (.int .i64 ((X.p i).tu:Int)) ∧ w.cell? ⟨pb,off + i * 3 + 2,none⟩ = some (.int .i64 (X.p i).by_)) ∧
  w.frozen? ⟨pb,off + i * 3 + 1,none⟩ = false ∧ w.frozen? ⟨pb,off + i * 3 + 2,none⟩ = false:=by
 have hr:=h.rowG 1 rfl
 have hl:i < S.ld.length:=by rw [hf.l];exact hi
 obtain ⟨l,hl2⟩:∃ l,S.ld[i]? = some l:=⟨_,List.getElem?_eq_getElem hl⟩
 obtain ⟨pb,off,e⟩:=hr.some (j:=i * 3) (by rw [pcs_len _ _ hf.l];omega)
 rw [e] at hr
 obtain ⟨a0,-⟩:=hr.part (i * 3) _ (by have:=pcs_at hl2 (X.p_at hi) 0 (by omega);rw [Nat.add_zero] at this;exact this.trans rfl)
 obtain ⟨a1,b1⟩:=hr.part (i * 3 + 1) _ ((pcs_at hl2 (X.p_at hi) 1 (by omega)).trans rfl)
 obtain ⟨a2,b2⟩:=hr.part (i * 3 + 2) _ ((pcs_at hl2 (X.p_at hi) 2 (by omega)).trans rfl)
 rw [← Nat.add_assoc] at a1 b1 a2 b2
 exact ⟨pb,off,l.1,l.2,e,hl2,⟨a0,a1,a2⟩,b1,b2⟩
theorem sp_mach (h:Own w0 w (schP b sp X S ++ R)) {i:Nat} (hi:i < X.ms.length):∃ mb off,S.ma = some ⟨mb,off,none⟩ ∧
  (w.cell? ⟨mb,off + i * 3,none⟩ = some (.int .i64 (X.m i).P) ∧ w.cell? ⟨mb,off + i * 3 + 1,none⟩ = some (.int .i64 (X.m i).G) ∧ w.cell? ⟨mb,off + i * 3 + 2,none⟩ = some (.int .i64 (X.m i).L)) ∧
  w.frozen? ⟨mb,off + i * 3,none⟩ = false ∧ w.frozen? ⟨mb,off + i * 3 + 1,none⟩ = false ∧ w.frozen? ⟨mb,off + i * 3 + 2,none⟩ = false:=by
 have hr:=h.rowG 3 rfl
 obtain ⟨mb,off,e⟩:=hr.some (j:=i * 3) (by rw [mcs_len];omega)
 rw [e] at hr
 obtain ⟨a0,b0⟩:=hr.part (i * 3) _ (by have:=mcs_at (X.m_at hi) 0 (by omega);rw [Nat.add_zero] at this;exact this.trans rfl)
 obtain ⟨a1,b1⟩:=hr.part (i * 3 + 1) _ ((mcs_at (X.m_at hi) 1 (by omega)).trans rfl)
 obtain ⟨a2,b2⟩:=hr.part (i * 3 + 2) _ ((mcs_at (X.m_at hi) 2 (by omega)).trans rfl)
 rw [← Nat.add_assoc] at a1 b1 a2 b2
 exact ⟨mb,off,e,⟨a0,a1,a2⟩,b0,b1,b2⟩
theorem Sa.fits.setP (hf:S.fits X) (i:Nat) (P:Pm):S.fits (X.setP i P):=⟨hf.w,by rw [hf.l];unfold Sd.setP;simp⟩
theorem Sa.fits.setM (hf:S.fits X) (i:Nat) (M:Mm):S.fits (X.setM i M):=⟨hf.w,hf.l⟩
theorem own_by (h:Own w0 w (schP b sp X S ++ R)) (hf:S.fits X) {i pb off:Nat} (hi:i < X.ps.length) (hpa:S.pa = some ⟨pb,off,none⟩) (t:Int) :
  Own w0 (w.setCell ⟨pb,off + i * 3 + 2,none⟩ (.int .i64 t)) (schP b sp (X.setP i { X.p i with by_:=t }) S ++ R):=by
 have hl:i < S.ld.length:=by rw [hf.l];exact hi
 obtain ⟨l,hl2⟩:∃ l,S.ld[i]? = some l:=⟨_,List.getElem?_eq_getElem hl⟩
 have h1:=h.pick 1 rfl
 have hlen:(X.ps.set i { X.p i with by_:=t }).length = X.ps.length:=by simp
 have e2:qds S.ld (X.ps.set i { X.p i with by_:=t }) = qds S.ld X.ps:=qds_same (X.p_at hi) rfl rfl
 have hb:=fun (w':World) (hh:Own w0 w' (RowGA 3 S.pa S.pc X.ps.length (pcs S.ld (X.ps.set i { X.p i with by_:=t })) :: (schP b sp X S ++ R).eraseIdx 1))=>hh.back (As:=schP b sp X S ++ R) (i:=1) (by simp [schP])
 have key:Own w0 (w.setCell ⟨pb,off + i * 3 + 2,none⟩ (.int .i64 t)) (RowGA 3 S.pa S.pc X.ps.length (pcs S.ld (X.ps.set i { X.p i with by_:=t })) :: (schP b sp X S ++ R).eraseIdx 1):=by
  rw [← pcs_by hl2 (X.p_at hi)]
  have h2:=h1
  rw [hpa] at h2 ⊢
  have h3:=h2.rowSet (i * 3 + 2) (.int .i64 t) (by rw [pcs_len _ _ hf.l];omega)
  rw [← Nat.add_assoc] at h3
  exact h3
 have h4:=hb _ key
 unfold schP stl Sd.setP
 simp only
 rw [hlen,e2]
 exact h4
theorem own_tu (h:Own w0 w (schP b sp X S ++ R)) (hf:S.fits X) {i pb off:Nat} (hi:i < X.ps.length) (hpa:S.pa = some ⟨pb,off,none⟩) (t:Nat) :
  Own w0 (w.setCell ⟨pb,off + i * 3 + 1,none⟩ (.int .i64 (t:Int))) (schP b sp (X.setP i { X.p i with tu:=t }) S ++ R):=by
 have hl:i < S.ld.length:=by rw [hf.l];exact hi
 obtain ⟨l,hl2⟩:∃ l,S.ld[i]? = some l:=⟨_,List.getElem?_eq_getElem hl⟩
 have h1:=h.pick 1 rfl
 have hlen:(X.ps.set i { X.p i with tu:=t }).length = X.ps.length:=by simp
 have e2:qds S.ld (X.ps.set i { X.p i with tu:=t }) = qds S.ld X.ps:=qds_same (X.p_at hi) rfl rfl
 have hb:=fun (w':World) (hh:Own w0 w' (RowGA 3 S.pa S.pc X.ps.length (pcs S.ld (X.ps.set i { X.p i with tu:=t })) :: (schP b sp X S ++ R).eraseIdx 1))=>hh.back (As:=schP b sp X S ++ R) (i:=1) (by simp [schP])
 have key:Own w0 (w.setCell ⟨pb,off + i * 3 + 1,none⟩ (.int .i64 (t:Int))) (RowGA 3 S.pa S.pc X.ps.length (pcs S.ld (X.ps.set i { X.p i with tu:=t })) :: (schP b sp X S ++ R).eraseIdx 1):=by
  rw [← pcs_tu hl2 (X.p_at hi)]
  have h2:=h1
  rw [hpa] at h2 ⊢
  have h3:=h2.rowSet (i * 3 + 1) (.int .i64 (t:Int)) (by rw [pcs_len _ _ hf.l];omega)
  rw [← Nat.add_assoc] at h3
  exact h3
 have h4:=hb _ key
 unfold schP stl Sd.setP
 simp only
 rw [hlen,e2]
 exact h4
theorem mcs_P {ms:List Mm} {i:Nat} {M:Mm} (hM:ms[i]? = some M) (t:Int):(mcs ms).set (i * 3) (.int .i64 t) = mcs (ms.set i { M with P:=t }):=by
 rw [mcs_set (List.getElem?_eq_some_iff.1 hM).1]
 show _ = setL _ _ [_,_,_]
 rw [setL3,set_self _ (i * 3 + 1) _ (by rw [List.getElem?_set_ne (by omega),mcs_at hM 1 (by omega)];rfl),set_self _ (i * 3 + 2) _ (by rw [List.getElem?_set_ne (by omega),mcs_at hM 2 (by omega)];rfl)]
theorem mcs_G {ms:List Mm} {i:Nat} {M:Mm} (hM:ms[i]? = some M) (t:Int):(mcs ms).set (i * 3 + 1) (.int .i64 t) = mcs (ms.set i { M with G:=t }):=by
 rw [mcs_set (List.getElem?_eq_some_iff.1 hM).1]
 show _ = setL _ _ [_,_,_]
 rw [setL3,set_self (mcs ms) (i * 3) _ ((mcs_at hM 0 (by omega)).trans rfl),set_self _ (i * 3 + 2) _ (by rw [List.getElem?_set_ne (by omega),mcs_at hM 2 (by omega)];rfl)]
theorem mcs_L {ms:List Mm} {i:Nat} {M:Mm} (hM:ms[i]? = some M) (t:Int):(mcs ms).set (i * 3 + 2) (.int .i64 t) = mcs (ms.set i { M with L:=t }):=by
 rw [mcs_set (List.getElem?_eq_some_iff.1 hM).1]
 show _ = setL _ _ [_,_,_]
 rw [setL3,set_self (mcs ms) (i * 3) _ ((mcs_at hM 0 (by omega)).trans rfl),set_self (mcs ms) (i * 3 + 1) _ (by rw [mcs_at hM 1 (by omega)];rfl)]
theorem own_mc (h:Own w0 w (schP b sp X S ++ R)) {i mb off:Nat} (hi:i < X.ms.length) (hma:S.ma = some ⟨mb,off,none⟩) (k:Nat) (hk:k < 3) (v:Value) (M:Mm) (e:(mcs X.ms).set (i * 3 + k) v = mcs (X.ms.set i M)) :
  Own w0 (w.setCell ⟨mb,off + (i * 3 + k),none⟩ v) (schP b sp (X.setM i M) S ++ R):=by
 have h1:=h.pick 3 rfl
 have hlen:(X.ms.set i M).length = X.ms.length:=by simp
 have key:Own w0 (w.setCell ⟨mb,off + (i * 3 + k),none⟩ v) (RowGA 3 S.ma S.mc X.ms.length (mcs (X.ms.set i M)) :: (schP b sp X S ++ R).eraseIdx 3):=by
  rw [← e]
  have h2:=h1
  rw [hma] at h2 ⊢
  exact h2.rowSet (i * 3 + k) v (by rw [mcs_len];omega)
 have h4:=key.back (As:=schP b sp X S ++ R) (i:=3) (by simp [schP])
 unfold schP stl Sd.setM
 simp only
 rw [hlen]
 exact h4
theorem own_mP (h:Own w0 w (schP b sp X S ++ R)) {i mb off:Nat} (hi:i < X.ms.length) (hma:S.ma = some ⟨mb,off,none⟩) (t:Int):Own w0 (w.setCell ⟨mb,off + i * 3,none⟩ (.int .i64 t)) (schP b sp (X.setM i { X.m i with P:=t }) S ++ R) :=
 own_mc h hi hma 0 (by omega) _ _ (mcs_P (X.m_at hi) t)
theorem own_mG (h:Own w0 w (schP b sp X S ++ R)) {i mb off:Nat} (hi:i < X.ms.length) (hma:S.ma = some ⟨mb,off,none⟩) (t:Int):Own w0 (w.setCell ⟨mb,off + i * 3 + 1,none⟩ (.int .i64 t)) (schP b sp (X.setM i { X.m i with G:=t }) S ++ R) :=
 own_mc h hi hma 1 (by omega) _ _ (mcs_G (X.m_at hi) t)
theorem own_mL (h:Own w0 w (schP b sp X S ++ R)) {i mb off:Nat} (hi:i < X.ms.length) (hma:S.ma = some ⟨mb,off,none⟩) (t:Int):Own w0 (w.setCell ⟨mb,off + i * 3 + 2,none⟩ (.int .i64 t)) (schP b sp (X.setM i { X.m i with L:=t }) S ++ R) :=
 own_mc h hi hma 2 (by omega) _ _ (mcs_L (X.m_at hi) t)
theorem own_qg (h:Own w0 w (schP b sp X S ++ R)) (hf:S.fits X) {i p g:Nat} (hi:i < X.ps.length) (hl:S.ld[i]? = some (p,g)) {q':LQ} {gl':List Int} {f:FuncId} {args:Array Value} {ret:Ending → Prop}
  (hc:∀ R',Own w0 w (locA ⟨p,g,(X.p i).N,(X.p i).q,none,0⟩ :: gloA (gpOf b sp X S) X.gl :: R') → Calls Tryz.prog f args w fun r w'=>ret r ∧ Own w0 w' (locA ⟨p,g,(X.p i).N,q',none,0⟩ :: gloA (gpOf b sp X S) gl' :: R')) :
  Calls Tryz.prog f args w fun r w'=>ret r ∧ ∃ a c,Own w0 w' (schP b sp { X.setP i { X.p i with q:=q' } with gl:=gl' } { S with ga:=a,gc:=c } ++ R):=by
 have h1:=h.toG.pick 1 rfl
 obtain ⟨R',h2,h3⟩:=h1.lstPick (locs_at (qds_at hl (X.p_at hi)))
 have h4:Own w0 w (locA ⟨p,g,(X.p i).N,(X.p i).q,none,0⟩ :: gloA (gpOf b sp X S) X.gl :: (R' ++ (sfar X S ++ R))):=h2.perm (List.Perm.cons _ List.perm_middle)
 refine (hc _ h4).mono (fun r w' hh=>⟨hh.1,?_⟩)
 have k1:Own w0 w' (locA ⟨p,g,(X.p i).N,q',none,0⟩ :: (R' ++ (gloA (gpOf b sp X S) gl' :: (sfar X S ++ R)))):=hh.2.perm (List.Perm.cons _ List.perm_middle.symm)
 have k2:=h3 _ _ _ k1
 rw [locs_set,show (⟨p,g,(X.p i).N,q',none,0⟩:Qd) = qd1 (p,g) { X.p i with q:=q' } from rfl,qds_set i hl] at k2
 have k3:=k2.perm (List.Perm.swap _ _ _)
 exact Own.ofG (X:=X) (by simp [Sd.setP]) k3 (pcs_q hl (X.p_at hi) q')
theorem own_q1 (h:Own w0 w (schP b sp X S ++ R)) (hf:S.fits X) {i p g:Nat} (hi:i < X.ps.length) (hl:S.ld[i]? = some (p,g)) {q':LQ} {f:FuncId} {args:Array Value} {ret:Ending → Prop}
  (hc:∀ R',Own w0 w (locA ⟨p,g,(X.p i).N,(X.p i).q,none,0⟩ :: R') → Calls Tryz.prog f args w fun r w'=>ret r ∧ Own w0 w' (locA ⟨p,g,(X.p i).N,q',none,0⟩ :: R')) :
  Calls Tryz.prog f args w fun r w'=>ret r ∧ Own w0 w' (schP b sp (X.setP i { X.p i with q:=q' }) S ++ R):=by
 have h1:=h.pick 2 rfl
 obtain ⟨R',h2,h3⟩:=h1.lstPick (locs_at (qds_at hl (X.p_at hi)))
 refine (hc _ h2).mono (fun r w' hh=>⟨hh.1,?_⟩)
 have k2:=h3 _ _ _ hh.2
 rw [locs_set,show (⟨p,g,(X.p i).N,q',none,0⟩:Qd) = qd1 (p,g) { X.p i with q:=q' } from rfl,qds_set i hl] at k2
 have k3:=k2.back (As:=schP b sp X S ++ R) (i:=2) (by simp [schP])
 have e:pcs S.ld (X.ps.set i { X.p i with q:=q' }) = pcs S.ld X.ps:=pcs_q hl (X.p_at hi) q'
 have hlen:(X.ps.set i { X.p i with q:=q' }).length = X.ps.length:=by simp
 unfold schP stl Sd.setP
 simp only
 rw [hlen,e]
 exact k3
end
end Go.Proofs.YtodjgipiomnnfaaGreat
open Go Go.RowKit
set_option linter.unusedVariables false
namespace Go.Proofs.YtodjgipiomnnfaaGreat
structure RdOk (W W':Wd) (g:Nat) (rd:List Int):Prop where
 nd:rd.Nodup
 len:W.gs.length ≤ W'.gs.length
 st:∀ h ∈ rd,∃ k:Nat,h = (k:Int) ∧ k ≠ g ∧ (W.g k).st ≠ 1 ∧ (W'.g k).st = 1
 oth:∀ k:Nat,k ≠ g → (k:Int) ∉ rd → ((W'.g k).st = 1 ↔ (W.g k).st = 1)
def SameSt (W W':Wd):Prop:=W'.gs.length = W.gs.length ∧ ∀ k,(W'.g k).st = (W.g k).st
theorem SameSt.refl (W:Wd):SameSt W W:=⟨rfl,fun _=>rfl⟩
theorem SameSt.trans {A B C:Wd} (h:SameSt A B) (k:SameSt B C):SameSt A C:=⟨k.1.trans h.1,fun i=>(k.2 i).trans (h.2 i)⟩
theorem g_out {W:Wd} {k:Nat} (h:¬ k < W.gs.length):W.g k = g0:=by
 unfold Wd.g;rw [List.getD_eq_getElem?_getD,List.getElem?_eq_none (by omega)];rfl
theorem SameSt.setG {W:Wd} {g:Nat} {G:Gt} (h:G.st = (W.g g).st):SameSt W (W.setG g G):=by
 by_cases hg:g < W.gs.length
 ·refine ⟨by unfold Wd.setG;simp,fun k=>?_⟩
  rw [Wd.g_setG _ _ _ _ hg]
  split
  ·rename_i e;subst e;exact h
  ·rfl
 ·rw [setG_out hg];exact SameSt.refl W
theorem SameSt.put (W:Wd) (g:Nat) (k v:Int):SameSt W (W.put g k v):=SameSt.setG rfl
theorem SameSt.of_gs {W W':Wd} (h:W'.gs = W.gs):SameSt W W':=⟨by rw [h],fun k=>by unfold Wd.g;rw [h]⟩
theorem SameSt.fin (W:Wd) (x:In4) (w:Wt) (s:Bool):SameSt W (W.fin x w s):=by
 unfold Wd.fin
 simp only
 split <;> split <;> (try split) <;> first
  | exact (SameSt.put _ _ _ _).trans (SameSt.put _ _ _ _)
  | exact SameSt.put _ _ _ _
  | exact SameSt.refl _
theorem RdOk.refl (W:Wd) (g:Nat):RdOk W W g []:=⟨List.nodup_nil,Nat.le_refl _,fun h hh=>by simp at hh,fun _ _ _=>Iff.rfl⟩
theorem RdOk.base {W A:Wd} (g:Nat) (h:A.gs = W.gs):RdOk W A g []:=by
 have e:∀ k,A.g k = W.g k:=fun k=>by unfold Wd.g;rw [h]
 exact ⟨List.nodup_nil,by rw [h];exact Nat.le_refl _,fun h hh=>by simp at hh,fun _ _ _=>by rw [e]⟩
theorem RdOk.same {W A B:Wd} {g:Nat} {rd:List Int} (h:RdOk W A g rd) (k:SameSt A B):RdOk W B g rd :=
 ⟨h.nd,by rw [k.1];exact h.len,fun x hx=>by obtain ⟨i,a,b,c,d⟩:=h.st x hx;exact ⟨i,a,b,c,by rw [k.2];exact d⟩,fun i a b=>by rw [k.2];exact h.oth i a b⟩
theorem RdOk.own {W A:Wd} {g:Nat} {rd:List Int} (h:RdOk W A g rd) (s:Int):RdOk W (A.setSt g s) g rd:=by
 by_cases hg:g < A.gs.length
 ·refine ⟨h.nd,by rw [setSt_len];exact h.len,fun x hx=>?_,fun i a b=>?_⟩
  ·obtain ⟨i,a,b,c,d⟩:=h.st x hx
   exact ⟨i,a,b,c,by rw [setSt_at hg,if_neg (fun e=>b e.symm)];exact d⟩
  ·rw [setSt_at hg,if_neg (fun e=>a e.symm)];exact h.oth i a b
 ·unfold Wd.setSt;rw [setG_out hg];exact h
theorem RdOk.more {W A:Wd} {g k:Nat} {rd:List Int} (h:RdOk W A g rd) (hk:k < A.gs.length) (hs:(A.g k).st ≠ 1) (hg:k ≠ g):RdOk W (A.setSt k 1) g (rd ++ [(k:Int)]):=by
 have hn:(k:Int) ∉ rd:=fun hm=>by
  obtain ⟨i,a,-,-,d⟩:=h.st _ hm
  have:i = k:=by omega
  subst this;exact hs d
 have h0:(W.g k).st ≠ 1:=fun e=>hs ((h.oth k hg hn).2 e)
 refine ⟨?_,by rw [setSt_len];exact h.len,fun x hx=>?_,fun i a b=>?_⟩
 ·rw [List.nodup_append]
  exact ⟨h.nd,by simp,fun a ha b hb e=>by simp at hb;subst hb;subst e;exact hn ha⟩
 ·rcases List.mem_append.1 hx with hx | hx
  ·obtain ⟨i,a,b,c,d⟩:=h.st x hx
   refine ⟨i,a,b,c,?_⟩
   rw [setSt_at hk]
   split
   ·rfl
   ·exact d
  ·simp at hx
   exact ⟨k,hx,hg,h0,by rw [setSt_at hk,if_pos rfl]⟩
 ·simp only [List.mem_append,List.mem_singleton,not_or] at b
  rw [setSt_at hk,if_neg (fun e=>b.2 (by omega))]
  exact h.oth i a b.1
theorem SameSt.leave (W:Wd) (g:Int):SameSt W (W.leave g):=SameSt.of_gs rfl
theorem RdOk.goOn {W A:Wd} {g:Nat} {rd:List Int} (h:RdOk W A g rd) (hg:(A.g g).st = 1) {w:Wt} (hw:0 ≤ w.1) (s:Bool) :
  RdOk W (goOnM A rd w s).1 g (goOnM A rd w s).2 ∧ ((goOnM A rd w s).1.g g).st = 1:=by
 unfold goOnM
 simp only
 split
 ·rename_i h2
  split
  ·rename_i x hx
   have hk:w.1.toNat < A.gs.length:=by
    rcases Nat.lt_or_ge w.1.toNat A.gs.length with h1 | h1
    ·exact h1
    ·rw [g_out (by omega)] at h2;exact absurd h2 (by decide)
   have hne:w.1.toNat ≠ g:=fun e=>by rw [e,hg] at h2;omega
   have hss:SameSt A ((A.fin x w s).leave w.1):=(SameSt.fin A x w s).trans (SameSt.leave _ _)
   have hr:=(h.same hss).more (k:=w.1.toNat) (by rw [hss.1];exact hk) (by rw [hss.2,h2];decide) hne
   rw [show ((w.1.toNat:Nat):Int) = w.1 by omega] at hr
   refine ⟨hr,?_⟩
   rw [setSt_at (by rw [hss.1];exact hk),if_neg hne,hss.2];exact hg
  ·exact ⟨h,hg⟩
 ·exact ⟨h,hg⟩
theorem RdOk.goOns {W:Wd} {g:Nat}:∀ (l:List Wt) (A:Wd) (rd:List Int),RdOk W A g rd → (A.g g).st = 1 → (∀ w ∈ l,0 ≤ w.1) → RdOk W (goOnsM A rd l).1 g (goOnsM A rd l).2 ∧ ((goOnsM A rd l).1.g g).st = 1
 | [],A,rd,h,hg,_=>⟨h,hg⟩
 | r :: t,A,rd,h,hg,hw=>by
  obtain ⟨a,b⟩:=h.goOn hg (hw r (by simp)) false
  exact RdOk.goOns t _ _ a b (fun w hm=>hw w (by simp [hm]))
def RdR (W:Wd) (g:Nat) (d:Dd):Prop:=RdOk W d.W g d.rd
theorem rd_send {B:Nat} {W:Wd} (h:WF B W) {g:Nat} (hg:(W.g g).st = 1) {x:In4} {c:Cs3} (c0:0 ≤ c.2.1 ∧ c.2.1 < (W.Cs.length:Int)) (place:Int) {d:Dd} (hd:sendM W [] g x c place = some d):RdR W g d:=by
 have hr:=mSend_ok (h.cs _ (ch_mem c0)) (W.Ns.getD c.2.1.toNat 0) (ns_le h _) ((W.g g).rg c.2.2)
 unfold sendM at hd
 simp only at hd
 split at hd
 ·cases hd;exact RdOk.refl W g
 ·split at hd
  ·cases hd
   have h0:RdOk W (W.setCh c.2.1 (mSend (W.Ns.getD c.2.1.toNat 0) (W.ch c.2.1) ((W.g g).rg c.2.2)).1) g []:=RdOk.base g rfl
   unfold RdR
   simp only
   split
   ·rename_i e
    exact (h0.goOn (by exact hg) (hr.2 e).1.1 true).1.same (SameSt.fin _ _ _ _)
   ·exact h0.same (SameSt.fin _ _ _ _)
  ·cases hd
theorem rd_recv {B:Nat} {W:Wd} (h:WF B W) {g:Nat} (hg:(W.g g).st = 1) {x:In4} {c:Cs3} (c0:0 ≤ c.2.1 ∧ c.2.1 < (W.Cs.length:Int)) (place:Int) {d:Dd} (hd:recvM W [] g x c place = some d):RdR W g d:=by
 have hr:=mRecv_ok (h.cs _ (ch_mem c0))
 unfold recvM at hd
 simp only at hd
 split at hd
 ·cases hd
  have h0:RdOk W (W.setCh c.2.1 (mRecv (W.ch c.2.1)).1) g []:=RdOk.base g rfl
  unfold RdR
  simp only
  split
  ·rename_i e
   exact (h0.goOn (by exact hg) (hr.2 e).1.1 false).1.same (SameSt.fin _ _ _ _)
  ·exact h0.same (SameSt.fin _ _ _ _)
 ·cases hd
theorem rd_try {B:Nat} {W:Wd} (h:WF B W) {g:Nat} (hg:(W.g g).st = 1) {n:Nat} {x:In4} (hx:InsW W n x) (ho:x.1 = 13 ∨ x.1 = 14 ∨ x.1 = 16) {place:Int} (hp:0 ≤ place ∧ place < ((W.cas x).length:Int)) (h2:((W.cas x).getD place.toNat (1,0,0)).1 ≠ 2) {d:Dd} (hd:tryM W [] g x place = some d):RdR W g d:=by
 have hk:=hx.casOk ho h.p.ck _ (cas_mem hp)
 have c0:=And.intro hk.2.1 (hk.2.2.1 h2)
 unfold tryM at hd
 simp only at hd
 split at hd
 ·exact rd_send h hg c0 place hd
 ·exact rd_recv h hg c0 place hd
theorem rd_wait (W:Wd) (g:Nat) (x:In4):RdOk W (waitM W g x) g []:=(RdOk.base (W:=W) (A:={ W with Cs:=wasF (g:Int) (W.g g).regs 0 (W.cas x) W.Cs }) g rfl).own 2
theorem rd_chan {B:Nat} {W:Wd} (h:WF B W) {g:Nat} {n:Nat} {x:In4} (ha:At W g x) (hx:InsW W n x) (ho:x.1 = 13 ∨ x.1 = 14):RdR W g (chanM W [] g x):=by
 have hlen:(W.cas x).length = 1:=by unfold Wd.cas;rcases ho with e | e <;> simp [e]
 have h2:((W.cas x).getD (Int.toNat 0) (1,0,0)).1 ≠ 2:=by unfold Wd.cas;rcases ho with e | e <;> simp [e]
 unfold chanM
 cases e:tryM W [] g x 0 with
 | none=>exact rd_wait W g x
 | some d=>exact rd_try h ha.st hx (by rcases ho with e | e <;> simp [e]) (by rw [hlen];omega) h2 e
theorem rd_choose {B:Nat} {W:Wd} (h:WF B W) {g:Nat} {n:Nat} {x:In4} (ha:At W g x) (hx:InsW W n x) (ho:x.1 = 16) {dr:Int} {go:Bool} (hd:go = true → (0 ≤ dr ∧ dr < ((W.cas x).length:Int)) ∧ ((W.cas x).getD dr.toNat (1,0,0)).1 ≠ 2):RdR W g (chooseM W [] g x dr go):=by
 unfold chooseM
 split
 ·rename_i e
  cases e2:tryM W [] g x dr with
  | none=>exact RdOk.refl W g
  | some d=>exact rd_try h ha.st hx (by simp [ho]) (hd e).1 (hd e).2 e2
 ·split
  ·exact rd_wait W g x
  ·exact (RdOk.refl W g).same (SameSt.put _ _ _ _)
theorem rd_close {B:Nat} {W:Wd} (h:WF B W) {g:Nat} (hg:(W.g g).st = 1) {n:Nat} {x:In4} (hx:InsW W n x) (ho:x.1 = 15):RdR W g (closeM W [] x):=by
 have hC:=h.cs _ (ch_mem (hx.o15 ho))
 unfold closeM
 simp only
 split
 ·exact RdOk.refl W g
 ·split
  ·exact ((RdOk.base (W:=W) (A:=W.setCh x.2.1 ⟨(W.ch x.2.1).buf,[],[],true⟩) g rfl).goOns _ _ _ (by exact hg) (fun w hw=>(hC.2.2.2.2 w hw).1.1)).1
  ·exact RdOk.base g rfl
theorem rd_call (W:Wd) (g:Nat) (x:In4):RdR W g (callM W [] g x):=by
 unfold callM
 simp only
 split
 ·exact RdOk.refl W g
 ·exact (RdOk.refl W g).same (SameSt.setG rfl)
theorem rd_ret (W:Wd) (g:Nat) (x:In4):RdR W g (retM W [] g x):=by
 unfold retM
 simp only
 split
 ·exact ((RdOk.refl W g).own 4).same (SameSt.of_gs rfl)
 ·exact (RdOk.refl W g).same (SameSt.setG rfl)
theorem rd_spawn {W:Wd} {g:Nat} (hg:g < W.gs.length) (x:In4):RdR W g (spawnM W [] g x):=by
 unfold spawnM
 split
 ·exact RdOk.refl W g
 ·refine RdOk.same (A:={ W with gs:=W.gs ++ [⟨1,1,newF x.2.1 ((W.g g).rg x.2.2.1) 0⟩] }) ?_ (SameSt.put _ _ _ _)
  have e:∀ k,({ W with gs:=W.gs ++ [⟨1,1,newF x.2.1 ((W.g g).rg x.2.2.1) 0⟩] }:Wd).g k = if k = W.gs.length then ⟨1,1,newF x.2.1 ((W.g g).rg x.2.2.1) 0⟩ else W.g k:=fun k=>by
   unfold Wd.g
   simp only [List.getD_eq_getElem?_getD]
   by_cases h1:k < W.gs.length
   ·rw [List.getElem?_append_left h1,if_neg (by omega)]
   ·by_cases h2:k = W.gs.length
    ·subst h2;rw [if_pos rfl,List.getElem?_append_right (Nat.le_refl _)];simp
    ·have e1:W.gs[k]? = none:=List.getElem?_eq_none (by omega)
     rw [if_neg h2,e1,List.getElem?_eq_none (by simp;omega)]
  refine ⟨by simp,by simp,fun h hh=>?_,fun k hk hn=>?_⟩
  ·simp at hh
   refine ⟨W.gs.length,hh,by omega,?_,?_⟩
   ·rw [g_out (by omega)];decide
   ·rw [e,if_pos rfl]
  ·rw [e,if_neg (fun e2=>hn (by simp [e2]))]
theorem rd_sleep (W:Wd) (g:Nat) (x:In4):RdR W g (sleepM W [] g x):=by
 unfold sleepM
 simp only
 generalize (if 1048576 < (W.g g).rg x.2.1 then (1048576:Int) else (W.g g).rg x.2.1) = t
 split
 ·exact RdOk.refl W g
 ·exact ((RdOk.refl W g).own 3).same (SameSt.of_gs rfl)
theorem rd_lock (W:Wd) (g:Nat) (x:In4):RdR W g (lockM W [] g x):=by
 unfold lockM RdR
 simp only
 split
 ·exact RdOk.base g rfl
 ·exact (RdOk.base (W:=W) (A:={ W with Ls:=W.Ls.set x.2.1.toNat (W.lk x.2.1 ++ [(g:Int)]) }) g rfl).own 2
theorem rd_unlock {B:Nat} {W:Wd} (h:WF B W) {g:Nat} (hg:(W.g g).st = 1) {n:Nat} {x:In4} (hx:InsW W n x) (ho:x.1 = 19):RdR W g (unlockM W [] g x):=by
 have hi:=hx.o18 (.inr ho)
 obtain ⟨a,b,c,d⟩:=h.ls _ _ (lk_get hi)
 unfold unlockM
 simp only
 generalize W.lk x.2.1 = L at *
 cases L with
 | nil=>simp only [gaveR];rw [if_neg (by decide)];exact RdOk.refl W g
 | cons y t =>
  by_cases e:y = (g:Int)
  ·simp only [gaveR,gaveL,if_pos e]
   rw [if_pos trivial]
   split
   ·exact RdOk.base g rfl
   ·rename_i e1
    cases t with
    | nil=>exact absurd rfl e1
    | cons z s =>
     simp only [List.headD_cons] at e1 ⊢
     obtain ⟨z0,z1⟩:=b z (by simp)
     obtain ⟨d1,-⟩:=d z (by simp)
     have hr:=((RdOk.refl W g).same (B:={ W with Ls:=W.Ls.set x.2.1.toNat (z :: s) }) (SameSt.of_gs rfl)).more (k:=z.toNat) (by show z.toNat < W.gs.length;omega) (by show (W.g z.toNat).st ≠ 1;rw [d1];decide) (fun e2=>by rw [e2,hg] at d1;omega)
     rw [show ((z.toNat:Nat):Int) = z by omega] at hr
     exact hr
  ·simp only [gaveR,if_neg e]
   rw [if_neg (by decide)];exact RdOk.refl W g
theorem rd_emit (W:Wd) (g:Nat) (x:In4):RdR W g (emitM W [] g x):=by
 unfold emitM
 split
 ·exact RdOk.refl W g
 ·exact RdOk.base g rfl
theorem rd_deed {B:Nat} {W:Wd} (h:WF B W) {g:Nat} {n:Nat} {x:In4} (ha:At W g x) (hx:InsW W n x) {dr:Int} {go:Bool} (hd:x.1 = 16 → go = true → (0 ≤ dr ∧ dr < ((W.cas x).length:Int)) ∧ ((W.cas x).getD dr.toNat (1,0,0)).1 ≠ 2):RdR W g (deedM W g x dr go):=by
 unfold deedM
 by_cases e:x.1 = 9
 ·rw [if_pos e];exact rd_call W g x
 rw [if_neg e]
 clear e
 by_cases e:x.1 = 10
 ·rw [if_pos e];exact rd_ret W g x
 rw [if_neg e]
 clear e
 by_cases e:x.1 = 11
 ·rw [if_pos e];exact rd_spawn ha.lt x
 rw [if_neg e]
 clear e
 by_cases e:x.1 = 12
 ·rw [if_pos e];exact RdOk.refl W g
 rw [if_neg e]
 clear e
 by_cases e:x.1 = 13
 ·rw [if_pos e];exact rd_chan h ha hx (.inl e)
 rw [if_neg e]
 clear e
 by_cases e:x.1 = 14
 ·rw [if_pos e];exact rd_chan h ha hx (.inr e)
 rw [if_neg e]
 clear e
 by_cases e:x.1 = 15
 ·rw [if_pos e];exact rd_close h ha.st hx e
 rw [if_neg e]
 clear e
 by_cases e:x.1 = 16
 ·rw [if_pos e];exact rd_choose h ha hx e (hd e)
 rw [if_neg e]
 clear e
 by_cases e:x.1 = 17
 ·rw [if_pos e];exact rd_sleep W g x
 rw [if_neg e]
 clear e
 by_cases e:x.1 = 18
 ·rw [if_pos e];exact rd_lock W g x
 rw [if_neg e]
 clear e
 by_cases e:x.1 = 19
 ·rw [if_pos e];exact rd_unlock h ha.st hx e
 rw [if_neg e]
 clear e
 by_cases e:x.1 = 20
 ·rw [if_pos e];exact rd_emit W g x
 rw [if_neg e]
 clear e
 by_cases e:x.1 = 21
 ·rw [if_pos e];exact (RdOk.refl W g).same (SameSt.put _ _ _ _)
 rw [if_neg e]
 clear e
 exact RdOk.refl W g
theorem RdOk.from {W V A:Wd} {g:Nat} {rd:List Int} (s:SameSt W V) (h:RdOk V A g rd):RdOk W A g rd :=
 ⟨h.nd,by rw [← s.1];exact h.len,fun x hx=>by obtain ⟨i,a,b,c,d⟩:=h.st x hx;exact ⟨i,a,b,by rw [← s.2];exact c,d⟩,fun i a b=>by rw [← s.2];exact h.oth i a b⟩
theorem SameSt.end_ (d:Dd):SameSt d.W d.end_:=by unfold Dd.end_;split <;> exact SameSt.of_gs rfl
theorem rd_do {B:Nat} {W:Wd} (h:WF B W) (hB:B ≤ 80000) {g:Nat} (hl:W.lets (g:Int)) (v:Int):RdR W g (doM W g (W.ins g) (askM W ((W.ins g).getD (0,0,0,0)) v).1 (askM W ((W.ins g).getD (0,0,0,0)) v).2):=by
 obtain ⟨l1,l2,l3,l4⟩:=hl
 simp only [Int.toNat_natCast] at l4
 have hg:g < W.gs.length:=by omega
 cases hx:W.ins g with
 | none=>exact RdOk.refl W g
 | some x =>
  obtain ⟨k1,k2,k3⟩:=h.insOk hx
  obtain ⟨s1,s2,s3⟩:=h.step hg l4 hx
  simp only [Option.getD_some]
  have hask:x.1 = 16 → (askM W x v).2 = true → (0 ≤ (askM W x v).1 ∧ (askM W x v).1 < (((W.step g).cas x).length:Int)) ∧ (((W.step g).cas x).getD (askM W x v).1.toNat (1,0,0)).1 ≠ 2:=fun e1 e2=>by
   rw [cas_eq s3.ks];exact askM_place e1 e2
  unfold doM
  simp only
  split
  ·exact (RdOk.refl W g).same (SameSt.setG rfl)
  ·rename_i e
   exact RdOk.from (V:=W.step g) (SameSt.setG (W:=W) (g:=g) rfl) (rd_deed s1 s2 (k1.fol s3) hask)
theorem rd_exec {B:Nat} {W:Wd} (h:WF B W) (hB:B ≤ 80000) {g:Nat} (hl:W.lets (g:Int)) (v:Int) :
  RdOk W (execM W (g:Int) v).1 g (execM W (g:Int) v).2.2 ∧ ((execM W (g:Int) v).2.1 = true → ((execM W (g:Int) v).1.g g).st = 1 ∧ (execM W (g:Int) v).1.en = 0):=by
 unfold execM
 rw [if_pos hl]
 simp only [Int.toNat_natCast]
 refine ⟨(rd_do h hB hl v).same (SameSt.end_ _),fun e=>?_⟩
 unfold keepsM at e
 simp only [Bool.and_eq_true,decide_eq_true_eq] at e
 exact ⟨e.1.2,e.1.1⟩
structure TkOk (W W':Wd) (rd:List Int):Prop where
 nd:rd.Nodup
 len:W'.gs.length = W.gs.length
 st:∀ h ∈ rd,∃ k:Nat,h = (k:Int) ∧ (W.g k).st ≠ 1 ∧ (W'.g k).st = 1
 oth:∀ k:Nat,(k:Int) ∉ rd → (W'.g k).st = (W.g k).st
theorem tk_woke:∀ (l:List It) (W:Wd),(∀ x ∈ l,(0 ≤ x.id ∧ x.id < (W.gs.length:Int)) ∧ (W.g x.id.toNat).st = 3) → (l.map (·.id)).Nodup → TkOk W (wokeM W l) (l.map (·.id))
 | [],W,_,_=>⟨by simp,rfl,fun h hh=>by simp at hh,fun _ _=>rfl⟩
 | x :: t,W,h1,h2=>by
  obtain ⟨hx1,hx2⟩:=h1 x (by simp)
  have hg:x.id.toNat < W.gs.length:=by omega
  have hxn:((x.id.toNat:Nat):Int) = x.id:=by omega
  have h2':=h2
  rw [List.map_cons,List.nodup_cons] at h2
  have hid:∀ y ∈ t,y.id.toNat ≠ x.id.toNat:=fun y hy e=>by
   obtain ⟨k1,-⟩:=h1 y (by simp [hy])
   have:y.id = x.id:=by omega
   exact h2.1 (by rw [← this];exact List.mem_map_of_mem (f:=(·.id)) hy)
  obtain ⟨a,b,c,d⟩:=tk_woke t (W.setSt x.id.toNat 1) (fun y hy=>by
    obtain ⟨k1,k2⟩:=h1 y (by simp [hy])
    refine ⟨by rw [setSt_len];exact k1,?_⟩
    rw [setSt_at hg,if_neg (fun e=>hid y hy e.symm)]
    exact k2) h2.2
  refine ⟨h2',by show (wokeM (W.setSt x.id.toNat 1) t).gs.length = _;rw [b,setSt_len],fun h hh=>?_,fun k hk=>?_⟩
  ·rw [List.map_cons,List.mem_cons] at hh
   rcases hh with rfl | hh
   ·refine ⟨x.id.toNat,hxn.symm,by rw [hx2];decide,?_⟩
    show ((wokeM (W.setSt x.id.toNat 1) t).g x.id.toNat).st = 1
    rw [d _ (by rw [hxn];exact h2.1),setSt_at hg,if_pos rfl]
   ·obtain ⟨k,k1,k2,k3⟩:=c h hh
    refine ⟨k,k1,fun e=>k2 ?_,k3⟩
    rw [setSt_at hg]
    split
    ·rfl
    ·exact e
  ·rw [List.map_cons,List.mem_cons,not_or] at hk
   show ((wokeM (W.setSt x.id.toNat 1) t).g k).st = _
   rw [d k hk.2,setSt_at hg,if_neg (fun e=>hk.1 (by omega))]
theorem tk_tick {B:Nat} {W:Wd} (h:WF B W):TkOk W (tickM W).1 (tickM W).2:=by
 unfold tickM
 split
 ·simp only
  obtain ⟨a,b⟩:=wakes_perm _ W.hp ((W.clock:Int) + 1) (Nat.le_refl _)
  have hall:∀ x,x ∈ (wakes W.hp ((W.clock:Int) + 1)).1 ∨ x ∈ (wakes W.hp ((W.clock:Int) + 1)).2 → x ∈ W.hp:=fun x hx=>a.mem_iff.1 (List.mem_append.2 hx)
  have hnd:=(a.map (·.id)).nodup_iff.2 h.hp.2.1
  rw [List.map_append,List.nodup_append] at hnd
  have hw:=tk_woke (wakes W.hp ((W.clock:Int) + 1)).1 { W with clock:=W.clock + 1,hp:=(wakes W.hp ((W.clock:Int) + 1)).2 } (fun x hx=>by
   obtain ⟨k1,k2,-⟩:=h.hp.2.2.1 x (hall x (.inl hx));exact ⟨k1,k2⟩) hnd.1
  exact ⟨hw.nd,hw.len,hw.st,hw.oth⟩
 ·exact ⟨by simp,rfl,fun h hh=>by simp at hh,fun _ _=>rfl⟩
def Pm.l (P:Pm):List Int:=P.q.nx.toList ++ P.q.l
def Mm.l (M:Mm):List Int:=if M.G = -1 then [] else [M.G]
def Sd.all (X:Sd):List Int:=X.gl ++ (X.ps.flatMap Pm.l ++ X.ms.flatMap Mm.l)
theorem flat_get {α:Type} {f:α → List Int}:∀ {l:List α} {i:Nat} {a:α},l[i]? = some a → ∃ R,(l.flatMap f).Perm (f a ++ R) ∧ ∀ b,((l.set i b).flatMap f).Perm (f b ++ R)
 | [],i,a,h=>by simp at h
 | x :: l,0,a,h=>by
  simp at h;subst h
  exact ⟨l.flatMap f,by simp,fun b=>by simp⟩
 | x :: l,i + 1,a,h=>by
  obtain ⟨R,h1,h2⟩:=flat_get (f:=f) (l:=l) (i:=i) (a:=a) (by simpa using h)
  refine ⟨f x ++ R,?_,fun b=>?_⟩
  ·rw [List.flatMap_cons]
   exact (h1.append_left (f x)).trans (by rw [← List.append_assoc,← List.append_assoc];exact List.perm_append_comm.append_right R)
  ·rw [List.set_cons_succ,List.flatMap_cons]
   exact ((h2 b).append_left (f x)).trans (by rw [← List.append_assoc,← List.append_assoc];exact List.perm_append_comm.append_right R)
theorem all_p {X:Sd} {i:Nat} (hi:i < X.ps.length):∃ R,X.all.Perm (X.gl ++ ((X.p i).l ++ R)) ∧ ∀ (Y:Sd) (P:Pm),Y.ps = X.ps.set i P → Y.ms = X.ms → Y.all.Perm (Y.gl ++ (P.l ++ R)):=by
 obtain ⟨R,h1,h2⟩:=flat_get (f:=Pm.l) (X.p_at hi)
 refine ⟨R ++ X.ms.flatMap Mm.l,?_,fun Y P e1 e2=>?_⟩
 ·unfold Sd.all
  refine List.Perm.append_left _ ?_
  rw [← List.append_assoc]
  exact h1.append_right _
 ·unfold Sd.all
  refine List.Perm.append_left _ ?_
  rw [e1,e2,← List.append_assoc]
  exact (h2 P).append_right _
theorem all_m {X:Sd} {i:Nat} (hi:i < X.ms.length):∃ R,X.all.Perm ((X.m i).l ++ R) ∧ ∀ (Y:Sd) (M:Mm),Y.ms = X.ms.set i M → Y.ps = X.ps → Y.gl = X.gl → Y.all.Perm (M.l ++ R):=by
 obtain ⟨R,h1,h2⟩:=flat_get (f:=Mm.l) (X.m_at hi)
 have key:∀ (a b c d:List Int),c.Perm (d ++ R) → (a ++ (b ++ c)).Perm (d ++ (a ++ (b ++ R))):=fun a b c d h=>by
  refine ((h.append_left b).append_left a).trans ?_
  have e1:(b ++ (d ++ R)).Perm (d ++ (b ++ R)):=by
   rw [← List.append_assoc,← List.append_assoc];exact List.perm_append_comm.append_right R
  exact (e1.append_left a).trans (List.perm_append_comm_assoc a d (b ++ R))
 exact ⟨X.gl ++ (X.ps.flatMap Pm.l ++ R),key _ _ _ _ h1,fun Y M e1 e2 e3=>by
  unfold Sd.all;rw [e1,e2,e3];exact key _ _ _ _ (h2 M)⟩
theorem mPut_perm (N:Nat) (q:LQ) (v:Int) (gl:List Int) (hq:q.nx = none):((mPut N q v gl).2.1 ++ ((mPut N q v gl).1.nx.toList ++ (mPut N q v gl).1.l)).Perm (gl ++ (v :: q.l)) ∧ (mPut N q v gl).1.nx = none:=by
 unfold mPut
 split
 ·refine ⟨?_,hq⟩
  simp only [hq,Option.toList_none,List.nil_append]
  exact List.Perm.append_left _ (List.perm_append_comm (l₁:=q.l) (l₂:=[v]))
 ·refine ⟨?_,hq⟩
  simp only [hq,Option.toList_none,List.nil_append]
  rw [List.append_assoc]
  refine List.Perm.append_left _ ?_
  have e:q.l = q.l.take (q.l.length / 2) ++ q.l.drop (q.l.length / 2):=(List.take_append_drop _ _).symm
  have h2:(v :: q.l) = [v] ++ (q.l.take (q.l.length / 2) ++ q.l.drop (q.l.length / 2)):=by rw [← e];rfl
  rw [h2,← List.append_assoc]
  exact List.perm_append_comm.append_right _
theorem mTurn_perm (N:Nat) (q:LQ) (gl:List Int):((mTurn N q gl).2.1 ++ ((mTurn N q gl).1.nx.toList ++ (mTurn N q gl).1.l)).Perm (gl ++ (q.nx.toList ++ q.l)) ∧ (mTurn N q gl).1.nx = none:=by
 unfold mTurn
 cases h:q.nx with
 | none=>simp only;exact ⟨by rw [h],h⟩
 | some v =>
  simp only
  obtain ⟨a,b⟩:=mPut_perm N ⟨none,q.l⟩ v gl rfl
  exact ⟨by simpa using a,b⟩
theorem mGet_perm (q:LQ):(q.nx.toList ++ q.l).Perm ((mGet q).2.toList ++ ((mGet q).1.nx.toList ++ (mGet q).1.l)):=by
 unfold mGet
 cases h:q.nx with
 | none =>
  cases h2:q.l with
  | nil=>simp [h,h2]
  | cons x t=>simp
 | some v=>simp
theorem take_tail {α:Type} (x:α) (t:List α) (k:Nat) (hk:1 ≤ k):(x :: t) = x :: (((x :: t).take k).tail ++ (x :: t).drop k):=by
 obtain ⟨j,rfl⟩:∃ j,k = j + 1:=⟨k - 1,by omega⟩
 simp
theorem mFetch_perm (N:Nat) (q:LQ) (gl:List Int) (k:Int):(gl ++ (q.nx.toList ++ q.l)).Perm ((mFetch N q gl k).2.2.toList ++ ((mFetch N q gl k).2.1 ++ ((mFetch N q gl k).1.nx.toList ++ (mFetch N q gl k).1.l))):=by
 unfold mFetch
 cases gl with
 | nil=>simp
 | cons x t =>
  simp only [Option.toList_some]
  have h1:=mShare_pos N q (x :: t) k
  generalize mShare N q (x :: t) k = j at *
  have e:=take_tail x t j h1
  generalize ((x :: t).take j).tail = A at *
  generalize (x :: t).drop j = Bq at *
  rw [e]
  simp only [List.cons_append,List.nil_append,List.perm_cons]
  have:(A ++ Bq ++ (q.nx.toList ++ q.l)).Perm (Bq ++ (q.nx.toList ++ q.l) ++ A):=by
   rw [List.append_assoc];exact List.perm_append_comm
  simpa [List.append_assoc] using this
theorem mSteal_perm (N:Nat) (q f:LQ):((q.nx.toList ++ q.l) ++ (f.nx.toList ++ f.l)).Perm ((mSteal N q f).2.2.toList ++ (((mSteal N q f).1.nx.toList ++ (mSteal N q f).1.l) ++ ((mSteal N q f).2.1.nx.toList ++ (mSteal N q f).2.1.l))):=by
 unfold mSteal
 cases h:f.l with
 | nil =>
  simp only [Option.toList_none,List.append_nil]
  exact List.perm_append_comm
 | cons x t =>
  simp only [Option.toList_some]
  obtain ⟨j,hj⟩:∃ j,j = min (((x :: t).length + 1) / 2) (N - q.l.length + 1):=⟨_,rfl⟩
  rw [← hj]
  have h1:1 ≤ j:=by rw [hj,List.length_cons];omega
  have e:=take_tail x t j h1
  generalize ((x :: t).take j).tail = A at *
  generalize (x :: t).drop j = Bq at *
  rw [e]
  have h2:(q.nx.toList ++ q.l ++ (f.nx.toList ++ x :: (A ++ Bq))).Perm (x :: (q.nx.toList ++ q.l ++ (f.nx.toList ++ (A ++ Bq)))):=by
   rw [← List.append_assoc,← List.append_assoc];exact List.perm_middle
  refine h2.trans ?_
  simp only [List.cons_append,List.nil_append,List.perm_cons]
  have h3:(f.nx.toList ++ (A ++ Bq)).Perm (A ++ (f.nx.toList ++ Bq)):=by
   rw [← List.append_assoc,← List.append_assoc];exact List.perm_append_comm.append_right _
  have h4:=h3.append_left (q.nx.toList ++ q.l)
  simpa [List.append_assoc] using h4
theorem setP_p {X:Sd} {i:Nat} (hi:i < X.ps.length) (P:Pm) (j:Nat):(X.setP i P).p j = if i = j then P else X.p j:=by
 unfold Sd.setP Sd.p
 simp only [List.getD_eq_getElem?_getD,List.getElem?_set]
 split
 ·simp [hi]
 ·rfl
theorem setM_m {X:Sd} {i:Nat} (hi:i < X.ms.length) (M:Mm) (j:Nat):(X.setM i M).m j = if i = j then M else X.m j:=by
 unfold Sd.setM Sd.m
 simp only [List.getD_eq_getElem?_getD,List.getElem?_set]
 split
 ·simp [hi]
 ·rfl
theorem perm_in {a b c R:List Int} (h:a.Perm (b ++ c)):(a ++ R).Perm (b ++ (c ++ R)):=by rw [← List.append_assoc];exact h.append_right R
theorem turn_perm {X:Sd} {i:Nat} (hi:i < X.ps.length):(turnM X i).all.Perm X.all:=by
 obtain ⟨R,h1,h2⟩:=all_p hi
 refine (h2 (turnM X i) _ rfl rfl).trans (List.Perm.trans ?_ h1.symm)
 have h3:=(mTurn_perm (X.p i).N (X.p i).q X.gl).1
 have h4:=h3.append_right R
 simpa [turnM,Pm.l,List.append_assoc] using h4
theorem near_perm {X:Sd} {i:Nat} (hi:i < X.ps.length):X.all.Perm ((nearM X i).2.toList ++ (nearM X i).1.all):=by
 obtain ⟨R,h1,h2⟩:=all_p hi
 unfold nearM
 split
 ·rename_i h
  simp only
  cases hg:X.gl with
  | nil=>exact absurd hg h.2
  | cons x t =>
   refine h1.trans ?_
   rw [hg]
   have:=h2 { X with gl:=t } (X.p i) (by show X.ps = X.ps.set i (X.p i);rw [set_self _ _ _ (X.p_at hi)]) rfl
   exact List.Perm.cons _ this.symm
 ·have hG:=mGet_perm (X.p i).q
  split
  ·rename_i g hg
   rw [hg] at hG
   simp only
   refine h1.trans ?_
   have h3:=h2 (X.setP i { X.p i with q:=(mGet (X.p i).q).1 }) _ rfl rfl
   refine List.Perm.trans ?_ (h3.symm.append_left [g])
   have h4:(X.gl ++ ((X.p i).l ++ R)).Perm (X.gl ++ ([g] ++ (((mGet (X.p i).q).1.nx.toList ++ (mGet (X.p i).q).1.l) ++ R))):=(perm_in hG).append_left X.gl
   refine h4.trans ?_
   rw [← List.append_assoc]
   refine (List.perm_append_comm.append_right _).trans ?_
   rw [List.append_assoc]
   exact List.Perm.refl _
  ·rename_i hg
   refine h1.trans ?_
   have h3:=h2 { X.setP i { X.p i with q:=(mFetch (X.p i).N (X.p i).q X.gl 0).1 } with gl:=(mFetch (X.p i).N (X.p i).q X.gl 0).2.1 } _ rfl rfl
   refine List.Perm.trans ?_ (h3.symm.append_left _)
   have h5:=mFetch_perm (X.p i).N (X.p i).q X.gl 0
   have h6:=h5.append_right R
   simpa [Pm.l,List.append_assoc] using h6
theorem mTurn_none (N:Nat) (q:LQ) (gl:List Int) (h:q.nx = none):mTurn N q gl = (q,gl,0):=by unfold mTurn;rw [h]
theorem near_none {X:Sd} {i:Nat} (hi:i < X.ps.length) (h:(nearM (turnM X i) i).2 = none):(X.p i).q = ⟨none,[]⟩ ∧ X.gl = [] ∧ (nearM (turnM X i) i).1 = X:=by
 have hl:i < (turnM X i).ps.length:=by unfold turnM Sd.setP;simpa using hi
 have hp:(turnM X i).p i = { X.p i with q:=(mTurn (X.p i).N (X.p i).q X.gl).1 }:=by
  have:=setP_p hi { X.p i with q:=(mTurn (X.p i).N (X.p i).q X.gl).1 } i
  rw [if_pos rfl] at this;exact this
 have hn:=(mTurn_perm (X.p i).N (X.p i).q X.gl).2
 have hgl:(turnM X i).gl = (mTurn (X.p i).N (X.p i).q X.gl).2.1:=rfl
 have h':=h
 unfold nearM at h
 split at h
 ·rename_i h0
  simp only at h
  rw [List.head?_eq_none_iff] at h
  exact absurd h h0.2
 ·split at h
  ·cases h
  ·rename_i hg
   have e1:((turnM X i).p i).q.l = []:=by
    unfold mGet at hg
    rw [hp] at hg ⊢
    simp only [hn] at hg
    cases e:(mTurn (X.p i).N (X.p i).q X.gl).1.l with
    | nil=>rfl
    | cons x t=>rw [e] at hg;cases hg
   have e2:(turnM X i).gl = []:=by
    unfold mFetch at h
    cases e:(turnM X i).gl with
    | nil=>rfl
    | cons x t=>rw [e] at h;cases h
   have hq:(X.p i).q.nx = none:=by
    cases e:(X.p i).q.nx with
    | none=>rfl
    | some v =>
     rw [hp] at e1
     rw [hgl] at e2
     simp only at e1
     unfold mTurn mPut at e1 e2
     simp only [e] at e1 e2
     split at e1
     ·simp at e1
     ·rename_i hc;rw [if_neg hc] at e2;simp at e2
   have ht:=mTurn_none (X.p i).N (X.p i).q X.gl hq
   have e3:(X.p i).q.l = []:=by rw [hp,ht] at e1;exact e1
   have e4:X.gl = []:=by rw [hgl,ht] at e2;exact e2
   have hqq:(X.p i).q = ⟨none,[]⟩:=by
    cases hq2:(X.p i).q with
    | mk a b=>rw [hq2] at hq e3;simp only at hq e3;subst hq;subst e3;rfl
   have hT:turnM X i = X:=by
    unfold turnM
    rw [ht]
    unfold Sd.setP
    simp only
    rw [set_self _ _ _ (X.p_at hi)]
   refine ⟨hqq,e4,?_⟩
   rw [hT] at h' ⊢
   unfold nearM
   rw [if_neg (fun hc=>hc.2 e4)]
   have hg2:(mGet (X.p i).q).2 = none:=by rw [hqq];rfl
   rw [hg2]
   simp only
   unfold Sd.setP
   rw [e4,hqq]
   simp only [mFetch]
   have:({ X.p i with q:=⟨none,[]⟩ }:Pm) = X.p i:=by rw [← hqq]
   rw [this,set_self _ _ _ (X.p_at hi)]
   show ({ X with gl:=[] }:Sd) = X
   rw [← e4]
structure Sl where
 pa:Option Addr
 ma:Option Addr
 ld:List (Nat × Nat)
 mc:Nat
def SAt (w0 w:World) (b sp:Nat) (L:Sl) (X:Sd) (R:List Asr):Prop:=∃ S:Sa,S.fits X ∧ (S.pa = L.pa ∧ (S.ma = L.ma ∧ S.mc = L.mc) ∧ S.ld = L.ld) ∧ Own w0 w (schP b sp X S ++ R)
section
variable {w0 w:World} {b sp:Nat} {L:Sl} {X:Sd} {R:List Asr}
theorem Own.sat (h:Own w0 w (SchA b sp X :: R)):∃ L,SAt w0 w b sp L X R:=by
 obtain ⟨S,hf,h1⟩:=h.sch
 exact ⟨⟨S.pa,S.ma,S.ld,S.mc⟩,S,hf,⟨rfl,⟨rfl,rfl⟩,rfl⟩,h1⟩
theorem SAt.to (h:SAt w0 w b sp L X R):Own w0 w (SchA b sp X :: R):=by obtain ⟨S,hf,-,h⟩:=h;exact Own.toSch hf h
theorem SAt.step {w':World} (h:SAt w0 w b sp L X R) (hb:Below w.heap.size w w'):SAt w0 w' b sp L X R:=by obtain ⟨S,hf,e,h⟩:=h;exact ⟨S,hf,e,h.step hb⟩
theorem SAt.bel (h:SAt w0 w b sp L X R):Below w0.heap.size w0 w:=by obtain ⟨S,hf,e,h⟩:=h;exact h.bel
theorem SAt.c11 (h:SAt w0 w b sp L X R):w.cell? ⟨b,11,none⟩ = some (.pointer (some ⟨sp,0,none⟩)):=by obtain ⟨S,hf,e,h⟩:=h;exact (h.cel 0 rfl 11 _ rfl).1
theorem SAt.c12 (h:SAt w0 w b sp L X R):∃ c,w.cell? ⟨b,12,none⟩ = some (.slice L.pa X.ps.length c):=by obtain ⟨S,hf,⟨e,-,-⟩,h⟩:=h;rw [← e];exact ⟨_,(h.cel 0 rfl 12 _ rfl).1⟩
theorem SAt.c13 (h:SAt w0 w b sp L X R):∃ c,w.cell? ⟨b,13,none⟩ = some (.slice L.ma X.ms.length c):=by obtain ⟨S,hf,⟨-,e,-⟩,h⟩:=h;rw [← e.1];exact ⟨_,(h.cel 0 rfl 13 _ rfl).1⟩
theorem SAt.c13' (h:SAt w0 w b sp L X R):w.cell? ⟨b,13,none⟩ = some (.slice L.ma X.ms.length L.mc):=by obtain ⟨S,hf,⟨-,e,-⟩,h⟩:=h;rw [← e.1,← e.2];exact (h.cel 0 rfl 13 _ rfl).1
theorem SAt.c15 (h:SAt w0 w b sp L X R):w.cell? ⟨b,15,none⟩ = some (.int .i64 X.sl):=by obtain ⟨S,hf,e,h⟩:=h;exact (h.cel 0 rfl 15 _ rfl).1
theorem SAt.c16 (h:SAt w0 w b sp L X R):w.cell? ⟨b,16,none⟩ = some (.int .i64 (X.st:Int)) ∧ w.frozen? ⟨b,16,none⟩ = false:=by obtain ⟨S,hf,e,h⟩:=h;exact h.cel 0 rfl 16 _ rfl
theorem SAt.pa (h:SAt w0 w b sp L X R) {i:Nat} (hi:i < X.ps.length):∃ pb off p g,L.pa = some ⟨pb,off,none⟩ ∧ L.ld[i]? = some (p,g):=by
 obtain ⟨S,hf,⟨e1,e2,e3⟩,h⟩:=h
 obtain ⟨pb,off,p,g,k1,k2,-⟩:=sp_proc h hf hi
 exact ⟨pb,off,p,g,by rw [← e1];exact k1,by rw [← e3];exact k2⟩
theorem SAt.ma (h:SAt w0 w b sp L X R) {i:Nat} (hi:i < X.ms.length):∃ mb off,L.ma = some ⟨mb,off,none⟩:=by
 obtain ⟨S,hf,⟨e1,e2,e3⟩,h⟩:=h
 obtain ⟨mb,off,k1,-⟩:=sp_mach h hi
 exact ⟨mb,off,by rw [← e2.1];exact k1⟩
theorem SAt.proc (h:SAt w0 w b sp L X R) {i pb off p g:Nat} (hi:i < X.ps.length) (hpa:L.pa = some ⟨pb,off,none⟩) (hld:L.ld[i]? = some (p,g)) :
  (w.cell? ⟨pb,off + i * 3,none⟩ = some (.pointer (some ⟨p,0,none⟩)) ∧ w.cell? ⟨pb,off + i * 3 + 1,none⟩ = some (.int .i64 ((X.p i).tu:Int)) ∧ w.cell? ⟨pb,off + i * 3 + 2,none⟩ = some (.int .i64 (X.p i).by_)) ∧
  w.frozen? ⟨pb,off + i * 3 + 1,none⟩ = false ∧ w.frozen? ⟨pb,off + i * 3 + 2,none⟩ = false:=by
 obtain ⟨S,hf,⟨e1,e2,e3⟩,h⟩:=h
 obtain ⟨pb',off',p',g',k1,k2,k3⟩:=sp_proc h hf hi
 rw [e1,hpa] at k1;rw [e3,hld] at k2
 cases k1;cases k2
 exact k3
theorem SAt.mach (h:SAt w0 w b sp L X R) {i mb off:Nat} (hi:i < X.ms.length) (hma:L.ma = some ⟨mb,off,none⟩) :
  (w.cell? ⟨mb,off + i * 3,none⟩ = some (.int .i64 (X.m i).P) ∧ w.cell? ⟨mb,off + i * 3 + 1,none⟩ = some (.int .i64 (X.m i).G) ∧ w.cell? ⟨mb,off + i * 3 + 2,none⟩ = some (.int .i64 (X.m i).L)) ∧
  w.frozen? ⟨mb,off + i * 3,none⟩ = false ∧ w.frozen? ⟨mb,off + i * 3 + 1,none⟩ = false ∧ w.frozen? ⟨mb,off + i * 3 + 2,none⟩ = false:=by
 obtain ⟨S,hf,⟨e1,e2,e3⟩,h⟩:=h
 obtain ⟨mb',off',k1,k2⟩:=sp_mach h hi
 rw [e2.1,hma] at k1
 cases k1
 exact k2
theorem SAt.setBy (h:SAt w0 w b sp L X R) {i pb off:Nat} (hi:i < X.ps.length) (hpa:L.pa = some ⟨pb,off,none⟩) (t:Int):SAt w0 (w.setCell ⟨pb,off + i * 3 + 2,none⟩ (.int .i64 t)) b sp L (X.setP i { X.p i with by_:=t }) R:=by
 obtain ⟨S,hf,⟨e1,e2,e3⟩,h⟩:=h
 exact ⟨S,hf.setP _ _,⟨e1,e2,e3⟩,own_by h hf hi (by rw [e1];exact hpa) t⟩
theorem SAt.setTu (h:SAt w0 w b sp L X R) {i pb off:Nat} (hi:i < X.ps.length) (hpa:L.pa = some ⟨pb,off,none⟩) (t:Nat):SAt w0 (w.setCell ⟨pb,off + i * 3 + 1,none⟩ (.int .i64 (t:Int))) b sp L (X.setP i { X.p i with tu:=t }) R:=by
 obtain ⟨S,hf,⟨e1,e2,e3⟩,h⟩:=h
 exact ⟨S,hf.setP _ _,⟨e1,e2,e3⟩,own_tu h hf hi (by rw [e1];exact hpa) t⟩
theorem SAt.setP (h:SAt w0 w b sp L X R) {i mb off:Nat} (hi:i < X.ms.length) (hma:L.ma = some ⟨mb,off,none⟩) (t:Int):SAt w0 (w.setCell ⟨mb,off + i * 3,none⟩ (.int .i64 t)) b sp L (X.setM i { X.m i with P:=t }) R:=by
 obtain ⟨S,hf,⟨e1,e2,e3⟩,h⟩:=h
 exact ⟨S,hf.setM _ _,⟨e1,e2,e3⟩,own_mP h hi (by rw [e2.1];exact hma) t⟩
theorem SAt.setG (h:SAt w0 w b sp L X R) {i mb off:Nat} (hi:i < X.ms.length) (hma:L.ma = some ⟨mb,off,none⟩) (t:Int):SAt w0 (w.setCell ⟨mb,off + i * 3 + 1,none⟩ (.int .i64 t)) b sp L (X.setM i { X.m i with G:=t }) R:=by
 obtain ⟨S,hf,⟨e1,e2,e3⟩,h⟩:=h
 exact ⟨S,hf.setM _ _,⟨e1,e2,e3⟩,own_mG h hi (by rw [e2.1];exact hma) t⟩
theorem SAt.setL (h:SAt w0 w b sp L X R) {i mb off:Nat} (hi:i < X.ms.length) (hma:L.ma = some ⟨mb,off,none⟩) (t:Int):SAt w0 (w.setCell ⟨mb,off + i * 3 + 2,none⟩ (.int .i64 t)) b sp L (X.setM i { X.m i with L:=t }) R:=by
 obtain ⟨S,hf,⟨e1,e2,e3⟩,h⟩:=h
 exact ⟨S,hf.setM _ _,⟨e1,e2,e3⟩,own_mL h hi (by rw [e2.1];exact hma) t⟩
theorem SAt.setSt (h:SAt w0 w b sp L X R) (t:Nat):SAt w0 (w.setCell ⟨b,16,none⟩ (.int .i64 (t:Int))) b sp L { X with st:=t } R:=by
 obtain ⟨S,hf,e,h⟩:=h
 exact ⟨S,⟨hf.w,hf.l⟩,e,h.setAt 0 rfl 16 _⟩
theorem SAt.world (h:SAt w0 w b sp L X R):∃ T Q,Own w0 w (WldA b X.W T :: (Q ++ R)) ∧ ∀ w' W' R',Own w0 w' (WldA b W' T :: (Q ++ R')) → SAt w0 w' b sp L { X with W:=W' } R':=by
 obtain ⟨S,hf,e,h⟩:=h
 refine ⟨stl sp X S,squeue X S,h.toW hf,fun w' W' R' h'=>?_⟩
 obtain ⟨D',h1,h2⟩:=Own.ofW (X:=X) (S:=S) hf.l h'
 exact ⟨_,h1,e,h2⟩
theorem SAt.tail (h:SAt w0 w b sp L X R):∃ S,Own w0 w (R ++ S) ∧ ∀ w' R',Own w0 w' (R' ++ S) → SAt w0 w' b sp L X R':=by
 obtain ⟨S,hf,e,h⟩:=h
 exact ⟨schP b sp X S,h.perm List.perm_append_comm,fun w' R' h'=>⟨S,hf,e,h'.perm List.perm_append_comm⟩⟩
theorem SAt.less {A:Asr} (h:SAt w0 w b sp L X (A :: R)):SAt w0 w b sp L X R:=by
 obtain ⟨S,h1,h2⟩:=h.tail
 exact h2 _ _ (Own.drop h1)
theorem sd_get (h:SAt w0 w b sp L X R) {i p g:Nat} (hi:i < X.ps.length) (hld:L.ld[i]? = some (p,g)) :
  Calls Tryz.prog 70 #[.pointer (some ⟨p,0,none⟩)] w fun r w'=>r = .returned (gotv (mGet (X.p i).q).2) ∧ SAt w0 w' b sp L (X.setP i { X.p i with q:=(mGet (X.p i).q).1 }) R:=by
 obtain ⟨S,hf,⟨e1,e2,e3⟩,h⟩:=h
 exact (own_q1 h hf hi (by rw [e3];exact hld) (fun R' h'=>own_get8 h')).mono (fun r w' hh=>⟨hh.1,S,hf.setP _ _,⟨e1,e2,e3⟩,hh.2⟩)
theorem sd_turn (h:SAt w0 w b sp L X R) {i p g:Nat} (hi:i < X.ps.length) (hld:L.ld[i]? = some (p,g)) (hl:X.gl.length ≤ 1000000) :
  Calls Tryz.prog 90 #[.pointer (some ⟨p,0,none⟩),.pointer (some ⟨b,14,none⟩)] w fun r w'=>r = .returned (.int .i64 ((mTurn (X.p i).N (X.p i).q X.gl).2.2:Int)) ∧ SAt w0 w' b sp L (turnM X i) R:=by
 obtain ⟨S,hf,⟨e1,e2,e3⟩,h⟩:=h
 have e:(mTurn (X.p i).N (X.p i).q X.gl).1 = ⟨none,(mTurn (X.p i).N (X.p i).q X.gl).1.l⟩:=by
  have:=(mTurn_perm (X.p i).N (X.p i).q X.gl).2
  cases h2:(mTurn (X.p i).N (X.p i).q X.gl).1 with
  | mk a c=>rw [h2] at this;simp only at this;subst this;rfl
 refine (own_qg h hf hi (by rw [e3];exact hld) (fun R' h'=>own_turn8 h' hl)).mono (fun r w' hh=>?_)
 obtain ⟨h1,a,c,h2⟩:=hh
 refine ⟨h1,{ S with ga:=a,gc:=c },⟨hf.w,by rw [hf.l];unfold turnM Sd.setP;simp⟩,⟨e1,e2,e3⟩,?_⟩
 rw [← e] at h2
 exact h2
theorem sd_fetch (h:SAt w0 w b sp L X R) {i p g:Nat} (hi:i < X.ps.length) (hld:L.ld[i]? = some (p,g)) (hl:X.gl.length ≤ 1000000) (k:Int) :
  Calls Tryz.prog 108 #[.pointer (some ⟨p,0,none⟩),.pointer (some ⟨b,14,none⟩),.int .i64 k] w fun r w'=>r = .returned (gotv (mFetch (X.p i).N (X.p i).q X.gl k).2.2) ∧ SAt w0 w' b sp L { X.setP i { X.p i with q:=(mFetch (X.p i).N (X.p i).q X.gl k).1 } with gl:=(mFetch (X.p i).N (X.p i).q X.gl k).2.1 } R:=by
 obtain ⟨S,hf,⟨e1,e2,e3⟩,h⟩:=h
 refine (own_qg h hf hi (by rw [e3];exact hld) (fun R' h'=>own_fetch8 h' k hl)).mono (fun r w' hh=>?_)
 obtain ⟨h1,a,c,h2⟩:=hh
 exact ⟨h1,{ S with ga:=a,gc:=c },⟨hf.w,by rw [hf.l];unfold Sd.setP;simp⟩,⟨e1,e2,e3⟩,h2⟩
theorem sd_ready (h:SAt w0 w b sp L X R) {i p g:Nat} (hi:i < X.ps.length) (hld:L.ld[i]? = some (p,g)) (hl:X.gl.length ≤ 1000000) (v:Int) :
  Calls Tryz.prog 73 #[.pointer (some ⟨p,0,none⟩),.int .i64 v,.pointer (some ⟨b,14,none⟩)] w fun r w'=>r = .returned (.int .i64 ((mReady (X.p i).N (X.p i).q v X.gl).2.2:Int)) ∧ SAt w0 w' b sp L { X.setP i { X.p i with q:=(mReady (X.p i).N (X.p i).q v X.gl).1 } with gl:=(mReady (X.p i).N (X.p i).q v X.gl).2.1 } R:=by
 obtain ⟨S,hf,⟨e1,e2,e3⟩,h⟩:=h
 refine (own_qg h hf hi (by rw [e3];exact hld) (fun R' h'=>own_ready8 h' v hl)).mono (fun r w' hh=>?_)
 obtain ⟨h1,a,c,h2⟩:=hh
 exact ⟨h1,{ S with ga:=a,gc:=c },⟨hf.w,by rw [hf.l];unfold Sd.setP;simp⟩,⟨e1,e2,e3⟩,h2⟩
theorem ofG0 {S:Sa} {w':World} {gl:List Int} (hf:S.fits X) (e:S.pa = L.pa ∧ (S.ma = L.ma ∧ S.mc = L.mc) ∧ S.ld = L.ld) (h:Own w0 w' (gloA (gpOf b sp X S) gl :: LstA (locs (qds S.ld X.ps)) :: (sfar X S ++ R))):SAt w0 w' b sp L { X with gl:=gl } R:=by
 obtain ⟨a,c,h2⟩:=Own.ofG (X:=X) (S:=S) (ps:=X.ps) rfl h rfl
 exact ⟨{ S with ga:=a,gc:=c },⟨hf.w,hf.l⟩,e,h2⟩
theorem sd_gput (h:SAt w0 w b sp L X R) (a:Option Addr) (n c:Nat) (m:List Int) (hn:n = m.length) (hm:IntsAt w a m) (hl:X.gl.length + m.length ≤ 1000000000) :
  Calls Tryz.prog 28 #[.pointer (some ⟨b,14,none⟩),.slice a n c] w fun r w'=>r = .returned (.tuple #[]) ∧ SAt w0 w' b sp L { X with gl:=X.gl ++ m } R:=by
 obtain ⟨S,hf,e,h⟩:=h
 exact (own_gput8 h.toG a n c m hn hm hl).mono (fun r w' hh=>⟨hh.1,ofG0 hf e hh.2⟩)
theorem sd_gtake (h:SAt w0 w b sp L X R) (k:Int) (hl:X.gl.length ≤ 1000000) :
  Calls Tryz.prog 107 #[.pointer (some ⟨b,14,none⟩),.int .i64 k] w fun r w'=>∃ a' c',r = .returned (.slice a' (takes k X.gl.length) c') ∧ IntsAt w' a' (X.gl.take (takes k X.gl.length)) ∧ SAt w0 w' b sp L { X with gl:=X.gl.drop (takes k X.gl.length) } R:=by
 obtain ⟨S,hf,e,h⟩:=h
 refine (own_gtake8 h.toG k hl).mono (fun r w' hh=>?_)
 obtain ⟨a',c',h1,h2⟩:=hh
 exact ⟨a',c',h1,(h2.row 0 rfl).ints,ofG0 hf e h2.drop⟩
theorem SAt.loc (h:SAt w0 w b sp L X R) {i p g:Nat} (hi:i < X.ps.length) (hld:L.ld[i]? = some (p,g)):LocAt w p g (X.p i).N (X.p i).q:=by
 obtain ⟨S,hf,⟨e1,e2,e3⟩,h⟩:=h
 obtain ⟨F,⟨-,h1⟩,-⟩:=(h.pick 2 rfl).lstFact (locs_at (qds_at (by rw [e3];exact hld) (X.p_at hi)))
 exact h1
theorem sd_next (h:SAt w0 w b sp L X R) {i p g:Nat} (hi:i < X.ps.length) (hld:L.ld[i]? = some (p,g)) :
  Calls Tryz.prog 38 #[.pointer (some ⟨p,0,none⟩)] w fun r w'=>r = .returned (.int .i64 (X.p i).q.num) ∧ w' = w:=lnext_any w p g _ _ (h.loc hi hld)
theorem sd_steal (h:SAt w0 w b sp L X R) {i v p g p' g':Nat} (hi:i < X.ps.length) (hv:v < X.ps.length) (hne:i ≠ v) (hld:L.ld[i]? = some (p,g)) (hld':L.ld[v]? = some (p',g')) :
  Calls Tryz.prog 92 #[.pointer (some ⟨p,0,none⟩),.pointer (some ⟨p',0,none⟩)] w fun r w'=>r = .returned (gotv (mSteal (X.p i).N (X.p i).q (X.p v).q).2.2) ∧
   SAt w0 w' b sp L ((X.setP i { X.p i with q:=(mSteal (X.p i).N (X.p i).q (X.p v).q).1 }).setP v { X.p v with q:=(mSteal (X.p i).N (X.p i).q (X.p v).q).2.1 }) R:=by
 obtain ⟨S,hf,⟨e1,e2,e3⟩,h⟩:=h
 rw [← e3] at hld hld'
 have k0:=(h.pick 2 rfl).unl
 have hL:(locs (qds S.ld X.ps))[i]? = some (locA (qd1 (p,g) (X.p i))):=locs_at (qds_at hld (X.p_at hi))
 have hL':(locs (qds S.ld X.ps))[v]? = some (locA (qd1 (p',g') (X.p v))):=locs_at (qds_at hld' (X.p_at hv))
 obtain ⟨R',r1,r2⟩:=pick2_perm _ i v _ _ hL hL' hne
 have k1:Own w0 w (locA (qd1 (p,g) (X.p i)) :: locA (qd1 (p',g') (X.p v)) :: (R' ++ (schP b sp X S ++ R).eraseIdx 2)):=k0.perm (r1.append_right _)
 refine (own_steal8 k1).mono (fun r w' hh=>⟨hh.1,?_⟩)
 have k2:Own w0 w' ((locs (qds S.ld (X.ps.set i { X.p i with q:=(mSteal (X.p i).N (X.p i).q (X.p v).q).1 } |>.set v { X.p v with q:=(mSteal (X.p i).N (X.p i).q (X.p v).q).2.1 }))) ++ (schP b sp X S ++ R).eraseIdx 2):=by
  rw [← qds_set v hld',← qds_set i hld,← locs_set,← locs_set]
  exact hh.2.perm ((r2 _ _).append_right _)
 have k3:=(Own.lst k2).back (As:=schP b sp X S ++ R) (i:=2) (by simp [schP])
 have ev:(X.ps.set i { X.p i with q:=(mSteal (X.p i).N (X.p i).q (X.p v).q).1 })[v]? = some (X.p v):=by rw [List.getElem?_set_ne hne];exact X.p_at hv
 have e4:pcs S.ld ((X.ps.set i { X.p i with q:=(mSteal (X.p i).N (X.p i).q (X.p v).q).1 }).set v { X.p v with q:=(mSteal (X.p i).N (X.p i).q (X.p v).q).2.1 }) = pcs S.ld X.ps:=(pcs_q hld' ev _).trans (pcs_q hld (X.p_at hi) _)
 refine ⟨S,(hf.setP _ _).setP _ _,⟨e1,e2,e3⟩,?_⟩
 have hlen:((X.ps.set i { X.p i with q:=(mSteal (X.p i).N (X.p i).q (X.p v).q).1 }).set v { X.p v with q:=(mSteal (X.p i).N (X.p i).q (X.p v).q).2.1 }).length = X.ps.length:=by simp
 unfold schP stl Sd.setP
 simp only
 rw [hlen,e4]
 exact k3
end
end Go.Proofs.YtodjgipiomnnfaaGreat
open Go Go.RowKit
set_option linter.unusedVariables false
namespace Go.Proofs.YtodjgipiomnnfaaGreat
theorem near_glo {X:Sd} {i:Nat} (h:(X.p i).tu % 7 = 6) (hg:X.gl ≠ []):nearM X i = ({ X with gl:=X.gl.tail },X.gl.head?):=by unfold nearM;rw [if_pos ⟨h,hg⟩]
theorem near_far {X:Sd} {i:Nat} (h:¬ ((X.p i).tu % 7 = 6 ∧ X.gl ≠ [])):nearM X i = match (mGet (X.p i).q).2 with
  | some g=>(X.setP i { X.p i with q:=(mGet (X.p i).q).1 },some g)
  | none=>({ X.setP i { X.p i with q:=(mFetch (X.p i).N (X.p i).q X.gl 0).1 } with gl:=(mFetch (X.p i).N (X.p i).q X.gl 0).2.1 },(mFetch (X.p i).N (X.p i).q X.gl 0).2.2):=by unfold nearM;rw [if_neg h];rfl
theorem mGet_none {q:LQ} (h:(mGet q).2 = none):(mGet q).1 = q:=by
 unfold mGet at *
 split
 ·rename_i e;rw [e] at h;cases h
 ·rename_i e
  rw [e] at h
  simp only at h
  split
  ·rfl
  ·rename_i e2;rw [e2] at h;cases h
theorem setP_self {X:Sd} {i:Nat} (hi:i < X.ps.length) {P:Pm} (e:P = X.p i):X.setP i P = X:=by
 unfold Sd.setP;rw [e,set_self _ _ _ (X.p_at hi)]
def nearB (X:Sd) (i:Nat):Sd × Option Int:=match (mGet (X.p i).q).2 with
  | some g=>(X.setP i { X.p i with q:=(mGet (X.p i).q).1 },some g)
  | none=>({ X.setP i { X.p i with q:=(mFetch (X.p i).N (X.p i).q X.gl 0).1 } with gl:=(mFetch (X.p i).N (X.p i).q X.gl 0).2.1 },(mFetch (X.p i).N (X.p i).q X.gl 0).2.2)
theorem near_any {w0 w:World} {b sp:Nat} {L:Sl} {X:Sd} {R:List Asr} (h:SAt w0 w b sp L X R) {i pb off:Nat} (hi:i < X.ps.length) (hpa:L.pa = some ⟨pb,off,none⟩) (hl:X.gl.length ≤ 1000000) (htu:(X.p i).tu ≤ 1000000) :
  Calls Tryz.prog 91 #[.pointer (some ⟨b,0,none⟩),.pointer (some ⟨pb,off + i * 3,none⟩)] w fun r w'=>r = .returned (gotv (nearM X i).2) ∧ SAt w0 w' b sp L (nearM X i).1 R:=by
 obtain ⟨_,_,p,g,-,hld⟩:=h.pa hi
 have HLD:=Lib.hid hld
 have HPA:=Lib.hid hpa
 have HI:=Lib.hid hi
 have HL:=Lib.hid hl
 obtain ⟨tu,htu2⟩:∃ tu,tu = (X.p i).tu:=⟨_,rfl⟩
 have x1:=(h.proc hi hpa hld).1.2.1
 rw [← htu2] at x1 htu
 have HTU:=Lib.hid htu2
 have hmod:IntKind.i64.wrap (Int.tmod (tu:Int) 7) = ((tu % 7:Nat):Int):=by rw [Int.tmod_eq_emod_of_nonneg (by omega),IntKind.wrap_i64];omega
 have HB:Hid (∀ (wx:World),SAt w0 wx b sp L X R → Calls Tryz.prog 70 #[.pointer (some ⟨p,0,none⟩)] wx fun r w'=>r = .returned (gotv (mGet (X.p i).q).2) ∧
   ((∃ v,(mGet (X.p i).q).2 = some v ∧ SAt w0 w' b sp L (nearB X i).1 R ∧ (nearB X i).2 = some v) ∨ ((mGet (X.p i).q).2 = none ∧ SAt w0 w' b sp L X R))):=Lib.hid (fun wx hx=>by
  refine (sd_get hx hi hld).mono (fun r w' hh=>⟨hh.1,?_⟩)
  have h2:=hh.2
  cases hg:(mGet (X.p i).q).2 with
  | some v =>
   refine .inl ⟨v,rfl,?_,?_⟩
   ·unfold nearB;rw [hg];exact h2
   ·unfold nearB;rw [hg]
  | none =>
   refine .inr ⟨rfl,?_⟩
   rw [mGet_none hg,setP_self hi rfl] at h2
   exact h2)
 have HFE:Hid (∀ (wx:World),(mGet (X.p i).q).2 = none → SAt w0 wx b sp L X R → Calls Tryz.prog 108 #[.pointer (some ⟨p,0,none⟩),.pointer (some ⟨b,14,none⟩),.int .i64 0] wx fun r w'=>r = .returned (gotv (nearB X i).2) ∧ SAt w0 w' b sp L (nearB X i).1 R):=Lib.hid (fun wx hg hx=>by
  refine (sd_fetch hx hi hld hl 0).mono (fun r w' hh=>?_)
  unfold nearB;rw [hg]
  exact hh)
 have HX:Hid (∀ wx,SAt w0 wx b sp L X R → wx.cell? ⟨pb,off + i * 3,none⟩ = some (.pointer (some ⟨p,0,none⟩))):=Lib.hid (fun wx hx=>(hx.proc hi hpa hld).1.1)
 have H:=Lib.hid h
 generalize hnn:nearM X i = nn at *
 have HNN:=Lib.hid hnn
 generalize hnb:nearB X i = nb at *
 have HNB:=Lib.hid hnb
 have HGT:Hid (∀ k,Calls Tryz.prog 107 #[.pointer (some ⟨b,14,none⟩),.int .i64 k] w fun r w'=>∃ a' c',r = .returned (.slice a' (takes k X.gl.length) c') ∧ IntsAt w' a' (X.gl.take (takes k X.gl.length)) ∧ SAt w0 w' b sp L { X with gl:=X.gl.drop (takes k X.gl.length) } R):=Lib.hid (fun k=>sd_gtake h k hl)
 clear h hld hpa hi hl htu2 hnn hnb
 by_cases hs:tu % 7 = 6
 ·have hs2:((tu:Int) % 7 == 6) = true:=by rw [beq_iff_eq];omega
  clear hmod
  cases hgl:X.gl with
  | nil =>
   have HG0:Hid (∀ k,Calls Tryz.prog 107 #[.pointer (some ⟨b,14,none⟩),.int .i64 k] w fun r w'=>∃ a' c',r = .returned (.slice a' 0 c') ∧ SAt w0 w' b sp L X R):=Lib.hid (fun k=>(HGT.out k).mono (fun r w' hh=>by
    obtain ⟨a',c',h1,h2,h3⟩:=hh
    have e0:takes k X.gl.length = 0:=by rw [hgl];unfold takes;simp
    rw [e0] at h1 h3
    refine ⟨a',c',h1,?_⟩
    have e1:({ X with gl:=X.gl.drop 0 }:Sd) = X:=by simp
    rw [e1] at h3;exact h3))
   have HE:Hid (nn = nb):=Lib.hid (by rw [← HNN.out,← HNB.out,near_far (fun hc=>hc.2 hgl)];rfl)
   clear hgl HGT hs
   go_enter Tryz.func91,Tryz.ntmps91
   go_wp2_with fail
   refine (HG0.out _).mono ?_
   rintro r w1 ⟨a',c',rfl,h1⟩
   have H1:=Lib.hid h1
   have x0:=HX.out _ h1
   clear h1 x1
   go_wp2_with fail
   refine (HB.out _ H1.out).mono ?_
   rintro r w2 ⟨rfl,hh⟩
   rcases hh with ⟨v,hv,h2,e2⟩ | ⟨hv,h2⟩
   ·rw [hv]
    have HQ:Hid (SAt w0 w2 b sp L nn.1 R ∧ nn.2 = some v):=Lib.hid (by rw [HE.out];exact ⟨h2,e2⟩)
    clear h2 hv e2
    unfold gotv
    simp only [Option.getD_some,Option.isSome_some]
    go_wp2
    go_ret2
    exact ⟨by rw [HQ.out.2];rfl,HQ.out.1⟩
   ·rw [hv]
    have HFX:=Lib.hid (fun wx (hx:SAt w0 wx b sp L X R)=>HFE.out wx hv hx)
    have H2:=Lib.hid h2
    have x2:=HX.out _ h2
    clear hv h2
    unfold gotv
    simp only [Option.getD_none,Option.isSome_none]
    go_upto_region 8 with fail
    refine wp_region_lexK (fun wx=>∃ nq,wx = World.drewN (w2) nq) 7 5 (Array.replicate 12 false) #[true,true,true,true,true,true,true,false,false,false,false,false] (by kernel_rfl) (by kernel_rfl) ?_
    refine wpAnyK_seg 0 7 _ #[true,true,true,true,true,true,true,false,false,false,false,false] 0 (by kernel_rfl) noPanic_put (drew_q w2) (by kernel_rfl) ?_
    simp only [List.take_succ_cons,List.take_zero,List.drop_zero]
    repeat ((first | refine wpSegH_no (by rfl) ?_ | (refine wpSegH_yes (by rfl) ?_;apply Exists.intro;apply And.intro;(· (rintro wx ⟨nq,rfl⟩;go_simp;first | done | with_reducible rfl))));simp only [Act.put,List.setIfInBounds_toArray,List.set_cons_zero,List.set_cons_succ])
    refine wpSegH_nil ?_
    refine wpAnyK_next ?_
    refine wpAnyK_phase (fun _=>True) 5 0 #[true,true,true,true,true,true,true,true,true,true,true,true] ?_
    refine wpAnyK_one 7 _ #[true,true,true,true,true,true,true,true,false,false,false,false] 4 (by kernel_rfl) (fun K hK=>?_)
    have HKK:=Lib.hid hK
    clear hK
    simp only [List.drop_succ_cons,List.drop_zero]
    refine headH_mk (by rfl) ?_
    go_simp
    refine (HFX.out _ (H2.out.step (below_dN w2 _))).mono ?_
    rintro r w3 ⟨rfl,h3⟩
    rw [← HE.out] at h3 ⊢
    have H3:=Lib.hid h3
    clear h3 x2 HFX H2
    unfold gotv
    refine HKK.out _ _ (trivial) ?_
    clear HKK K
    refine wpAnyK_seg 8 4 _ #[true,true,true,true,true,true,true,true,true,true,true,true] 0 (by kernel_rfl) noPanic_put (trivial) (by kernel_rfl) ?_
    simp only [List.take_succ_cons,List.take_zero,List.drop_succ_cons,List.drop_zero]
    repeat ((first | refine wpSegH_no (by rfl) ?_ | (refine wpSegH_yes (by rfl) ?_;apply Exists.intro;apply And.intro;(· (intro wx hS;(try dsimp only at hS);go_simp;first | done | with_reducible rfl))));simp only [Act.put,List.setIfInBounds_toArray,List.set_cons_zero,List.set_cons_succ])
    refine wpSegH_nil ?_
    refine wpAnyK_next ?_
    refine wpAnyK_done (by kernel_rfl) (NoPanic.normal ?_)
    go_wp2
    go_ret2
    exact ⟨rfl,H3.out⟩
  | cons y t =>
   have HG1:Hid (∀ k,k = 1 → Calls Tryz.prog 107 #[.pointer (some ⟨b,14,none⟩),.int .i64 k] w fun r w'=>∃ b' off' c',r = .returned (.slice (some ⟨b',off',none⟩) 1 c') ∧ w'.cell? ⟨b',off',none⟩ = some (.int .i64 y) ∧ SAt w0 w' b sp L nn.1 R ∧ nn.2 = some y):=Lib.hid (fun k hk=>(HGT.out k).mono (fun r w' hh=>by
    obtain ⟨a',c',h1,h2,h3⟩:=hh
    have e0:takes k X.gl.length = 1:=by rw [hgl,hk];unfold takes;simp only [List.length_cons];omega
    rw [e0] at h1 h2 h3
    rw [hgl] at h2
    obtain ⟨b',off',e1,e2⟩:=h2 0 (by simp)
    rw [e1] at h1
    refine ⟨b',off',c',h1,by simpa using e2,?_⟩
    rw [← HNN.out,near_glo (by rw [← HTU.out];exact hs) (by rw [hgl];simp)]
    rw [List.drop_one] at h3
    exact ⟨h3,by rw [hgl];rfl⟩))
   clear hgl HGT hs
   go_enter Tryz.func91,Tryz.ntmps91
   go_wp2_with fail
   refine (HG1.out _ rfl).mono ?_
   rintro r w1 ⟨b',off',c',rfl,e2,h1,e3⟩
   have H1:=Lib.hid h1
   have H3:=Lib.hid e3
   clear h1 x1 e3 HG1
   go_wp2
   go_ret2
   exact ⟨by rw [H3.out];rfl,H1.out⟩
 ·have hs2:((tu:Int) % 7 == 6) = false:=by rw [beq_eq_false_iff_ne];omega
  have HE:Hid (nn = nb):=Lib.hid (by rw [← HNN.out,← HNB.out,near_far (fun hc=>hs (by rw [HTU.out];exact hc.1))];rfl)
  have H1:=H
  have x0:=HX.out _ H.out
  clear hmod HGT hs
  ·go_enter Tryz.func91,Tryz.ntmps91
   go_wp2_with fail
   refine (HB.out _ H1.out).mono ?_
   rintro r w2 ⟨rfl,hh⟩
   rcases hh with ⟨v,hv,h2,e2⟩ | ⟨hv,h2⟩
   ·rw [hv]
    have HQ:Hid (SAt w0 w2 b sp L nn.1 R ∧ nn.2 = some v):=Lib.hid (by rw [HE.out];exact ⟨h2,e2⟩)
    clear h2 hv e2
    unfold gotv
    simp only [Option.getD_some,Option.isSome_some]
    go_wp2
    go_ret2
    exact ⟨by rw [HQ.out.2];rfl,HQ.out.1⟩
   ·rw [hv]
    have HFX:=Lib.hid (fun wx (hx:SAt w0 wx b sp L X R)=>HFE.out wx hv hx)
    have H2:=Lib.hid h2
    have x2:=HX.out _ h2
    clear hv h2
    unfold gotv
    simp only [Option.getD_none,Option.isSome_none]
    go_upto_region 8 with fail
    refine wp_region_lexK (fun wx=>∃ nq,wx = World.drewN (w2) nq) 7 5 (Array.replicate 12 false) #[true,true,true,true,true,true,true,false,false,false,false,false] (by kernel_rfl) (by kernel_rfl) ?_
    refine wpAnyK_seg 0 7 _ #[true,true,true,true,true,true,true,false,false,false,false,false] 0 (by kernel_rfl) noPanic_put (drew_q w2) (by kernel_rfl) ?_
    simp only [List.take_succ_cons,List.take_zero,List.drop_zero]
    repeat ((first | refine wpSegH_no (by rfl) ?_ | (refine wpSegH_yes (by rfl) ?_;apply Exists.intro;apply And.intro;(· (rintro wx ⟨nq,rfl⟩;go_simp;first | done | with_reducible rfl))));simp only [Act.put,List.setIfInBounds_toArray,List.set_cons_zero,List.set_cons_succ])
    refine wpSegH_nil ?_
    refine wpAnyK_next ?_
    refine wpAnyK_phase (fun _=>True) 5 0 #[true,true,true,true,true,true,true,true,true,true,true,true] ?_
    refine wpAnyK_one 7 _ #[true,true,true,true,true,true,true,true,false,false,false,false] 4 (by kernel_rfl) (fun K hK=>?_)
    have HKK:=Lib.hid hK
    clear hK
    simp only [List.drop_succ_cons,List.drop_zero]
    refine headH_mk (by rfl) ?_
    go_simp
    refine (HFX.out _ (H2.out.step (below_dN w2 _))).mono ?_
    rintro r w3 ⟨rfl,h3⟩
    rw [← HE.out] at h3 ⊢
    have H3:=Lib.hid h3
    clear h3 x2 HFX H2
    unfold gotv
    refine HKK.out _ _ (trivial) ?_
    clear HKK K
    refine wpAnyK_seg 8 4 _ #[true,true,true,true,true,true,true,true,true,true,true,true] 0 (by kernel_rfl) noPanic_put (trivial) (by kernel_rfl) ?_
    simp only [List.take_succ_cons,List.take_zero,List.drop_succ_cons,List.drop_zero]
    repeat ((first | refine wpSegH_no (by rfl) ?_ | (refine wpSegH_yes (by rfl) ?_;apply Exists.intro;apply And.intro;(· (intro wx hS;(try dsimp only at hS);go_simp;first | done | with_reducible rfl))));simp only [Act.put,List.setIfInBounds_toArray,List.set_cons_zero,List.set_cons_succ])
    refine wpSegH_nil ?_
    refine wpAnyK_next ?_
    refine wpAnyK_done (by kernel_rfl) (NoPanic.normal ?_)
    go_wp2
    go_ret2
    exact ⟨rfl,H3.out⟩
theorem append_none {P:Program} {w:World} {s by_:Nat} (t ty e:TypeId) (i:TypeInfo) (z:Value) (ht:P.underlying t = some (.slice e)) (hi:P.info? e = some i) (hz:i.zero = some z) (hsize:i.size = s) (hby:i.bytes = by_) (hzs:z.cells.size = s) (hs0:0 < s)
  {g:Nat} (hg:g < w.heap.size) {b:Option Addr} {c m:Nat} {ds:List Value} (hb:CellsAt w b ds) (hd:ds.length = m * s) (hone:∀ u ∈ ds,u.oneCell' = true) (hm:m ≤ maxLen) (h47:m * by_ ≤ 140737488355328) (ha:(w.cell? ⟨g,0,none⟩) = none) :
  ∃ a' cap' w',(Builtin.append_ #[t,t] ty #[.slice (some ⟨g,0,none⟩) 0 0,.slice b m c]).run P w = .ok (.slice a' m cap') w' ∧ RowG s w' a' cap' m ds ∧ Chg [g] w w' ∧ ∀ x ∈ blk a',x = g ∨ w.heap.size ≤ x:=by
 by_cases hm0:m = 0
 ·subst hm0
  have hdn:ds = []:=List.length_eq_zero_iff.1 (by rw [hd];simp)
  subst hdn
  refine ⟨some ⟨g,0,none⟩,0,w,?_,RowG.zero hg,Chg.refl _ _,fun x hx=>.inl (by simpa [blk] using hx)⟩
  cases b with
  | none=>simp [Builtin.append_,run_underlying ht,sizeOf,typeInfo,hi,Builtin.lenOf,Builtin.firstCells,storeCells]
  | some ad=>simp [Builtin.append_,run_underlying ht,sizeOf,typeInfo,hi,Builtin.lenOf,Builtin.firstCells,storeCells,loadCells,loadCellsFrom]
 ·cases b with
  | none =>
   exfalso
   have:0 < ds.length:=by rw [hd];exact Nat.mul_pos (by omega) hs0
   obtain ⟨_,_,h1,_⟩:=hb 0 _ (List.getElem?_eq_getElem this)
   cases h1
  | some ad =>
   have hnews:∀ j u,ds[j]? = some u → w.cell? (ad.add j) = some u:=fun j u hj=>by
    obtain ⟨b,off,h1,h2⟩:=hb j u hj
    cases h1
    rw [Addr.add_lit,h2]
   obtain ⟨v',w',hr,r1,r2⟩:=run_append_arg_grows (P:=P) w t ty e i z s by_ ht hi hz hsize hby hzs hs0 ⟨g,0,none⟩ 0 0 [] (by simp) (fun j u hj=>by simp at hj) ad m c ds hd hnews (by omega) (by unfold maxLen at hm;unfold maxLen;omega) (by simpa using h47)
   simp only [List.nil_append,Nat.zero_add] at r1
   obtain ⟨a',cap',rfl,hrow,hbase⟩:=RowG.of_own r1
   exact ⟨a',cap',w',hr,by simpa using hrow,(grownBy_chg r2).mono (by simp),fun x hx=>.inr (hbase x hx)⟩
theorem wpList_append_none {P:Program} {w:World} {ops:Array Oper} {rest:List Oper} {o:Oper} {ac:Act} {Q:Exit → Act → World → Prop} {s by_:Nat} (hgd:o.guard = none) (sl x:Operand) (t:TypeId)
  (ho:o.op = .call { callee:=.builtin .append,args:=#[sl,x],argTypes:=#[t,t] }) (e:TypeId) (i:TypeInfo) (z:Value) (ht:P.underlying t = some (.slice e)) (hi:P.info? e = some i) (hz:i.zero = some z) (hsize:i.size = s) (hby:i.bytes = by_) (hzs:z.cells.size = s) (hs0:0 < s)
  {g:Nat} {b:Option Addr} {c m:Nat} {ds:List Value} (hs:ac.eval sl = .slice (some ⟨g,0,none⟩) 0 0) (hx:ac.eval x = .slice b m c) (hg:g < w.heap.size) (hb:CellsAt w b ds) (hd:ds.length = m * s) (hone:∀ u ∈ ds,u.oneCell' = true) (hm:m ≤ maxLen) (h47:m * by_ ≤ 140737488355328) (ha:(w.cell? ⟨g,0,none⟩) = none)
  (h:∀ a' cap' w',RowG s w' a' cap' m ds → Chg [g] w w' → (∀ x ∈ blk a',x = g ∨ w.heap.size ≤ x) → wpList P ops Q rest (ac.put o.dst (.slice a' m cap')) w'):wpList P ops Q (o :: rest) ac w:=by
 refine wpList_plain hgd fun K hK=>?_
 obtain ⟨a',cap',w',hr,h2,h3,h4⟩:=append_none (P:=P) (w:=w) t o.type e i z ht hi hz hsize hby hzs hs0 hg hb (c:=c) hd hone hm h47 ha
 unfold Oper.wp execOp
 simp only [ho,resolve,invoke,builtin,Sem.run_bind,Sem.run_pure,Result.andThen_ok,List.map_toArray,List.map_cons,List.map_nil,hs,hx,hr]
 exact hK _ _ (h a' cap' w' h2 h3 h4)









def lim:Nat → Nat
 | 0=>1
 | k + 1=>128 * lim k



end Go.Proofs.YtodjgipiomnnfaaGreat

open Go Go.RowKit
set_option linter.unusedVariables false
namespace Go.Proofs.YtodjgipiomnnfaaGreat
def room:Nat → Nat
 | 0=>0
 | f + 1=>if f = 0 then 2 else 128 * room f



def Cells (k:IntKind) (w:World) (a:Option Addr) (zs:List Int):Prop :=
 ∀ i (h:i < zs.length),∃ b off,a = some ⟨b,off,none⟩ ∧ w.cell? ⟨b,off + i,none⟩ = some (.int k zs[i]) ∧ (Lit.int k zs[i]).wf = true
end Go.Proofs.YtodjgipiomnnfaaGreat

open Go Go.RowKit
set_option linter.unusedVariables false
namespace Go.Proofs.YtodjgipiomnnfaaGreat
abbrev Rec:=Int × Nat
def Rec.ok (r:Rec):Prop:=1 ≤ r.1 ∧ r.1 ≤ 4 ∧ r.2 < 4611686018427387904
instance (r:Rec):Decidable (Rec.ok r):=by unfold Rec.ok;infer_instance


def recCells (l:List Rec):List Value:=l.flatMap fun r=>[Value.int .i64 r.1,Value.int .u64 (r.2:Int)]



end Go.Proofs.YtodjgipiomnnfaaGreat

open Go Go.RowKit
set_option linter.unusedVariables false
namespace Go.Proofs.YtodjgipiomnnfaaGreat
def numc (l:List Nat):List Value:=l.map fun (n:Nat)=>Value.int .u64 (n:Int)
theorem numc_len (l:List Nat):(numc l).length = l.length:=by simp [numc]
theorem numc_one (l:List Nat):∀ u ∈ numc l,u.oneCell' = true:=by
 intro u hu;unfold numc at hu;rw [List.mem_map] at hu;obtain ⟨n,_,rfl⟩:=hu;rfl
theorem recc_one (l:List Rec):∀ u ∈ recCells l,u.oneCell' = true:=by
 intro u hu;unfold recCells at hu;rw [List.mem_flatMap] at hu;obtain ⟨r,_,h⟩:=hu;simp at h;rcases h with rfl | rfl <;> rfl
theorem info_u6:(Tryz.prog.info? 55).map (fun i=>(i.zero,i.size,i.bytes)) = some (some (.int .u64 0),1,8):=by kernel_rfl
theorem info_rcd:(Tryz.prog.info? 99).map (fun i=>(i.zero,i.size,i.bytes)) = some (some (.agg #[.int .i64 0,.int .u64 0]),2,16):=by kernel_rfl
theorem cloneu_any (w:World) (a:Option Addr) (n c:Nat) (cs:List Value) (h:CellsAt w a cs) (hn:cs.length = n) (hone:∀ u ∈ cs,u.oneCell' = true) (h0:a = none → n = 0 ∧ c = 0) (hl:n * 8 ≤ 140737488355328) :
  Calls Tryz.prog 29 #[.slice a n c] w fun r w'=>∃ a' c',r = .returned (.slice a' n c') ∧ RowG 1 w' a' c' n cs ∧ (∀ x ∈ blk a',w.heap.size ≤ x) ∧ Below w.heap.size w w':=by
 cases a with
 | none =>
  obtain ⟨rfl,rfl⟩:=h0 rfl
  obtain rfl:=List.length_eq_zero_iff.1 hn
  clear h hone
  have he:∀ w:World,(binOp .eql 44 (.slice none 0 0) (.slice none 0 0)).run Tryz.prog w = .ok (.bool true) w:=fun _=>rfl
  go_enter Tryz.func29,Tryz.ntmps29
  go_wp2
  go_ret
  exact ⟨none,0,rfl,RowG.nil _ _,fun x hx=>by simp [blk] at hx,Below.refl _ _⟩
 | some ad =>
  obtain ⟨i0,hi0,hz0,hz1,hz2⟩:=info_parts info_u6
  have Hi:=Lib.hid hi0;clear hi0
  have Hz0:=Lib.hid hz0;clear hz0
  have Hz1:=Lib.hid hz1;clear hz1
  have Hz2:=Lib.hid hz2;clear hz2
  have H:=Lib.hid h
  have HO:=Lib.hid hone
  have HN:=Lib.hid hn
  clear h hone h0 hn
  have he:∀ w:World,(binOp .eql 44 (.slice (some ad) n c) (.slice none 0 0)).run Tryz.prog w = .ok (.bool false) w:=fun _=>rfl
  go_enter Tryz.func29,Tryz.ntmps29
  go_wp2_with (at_builtin;refine wpList_append_none (m:=n) (ds:=cs) rfl _ _ 44 rfl 55 i0 _ Tryz.underlying44 Hi.out Hz0.out Hz1.out Hz2.out rfl (by omega) rfl rfl (by simp) (H.out.below (below_alloc1 _ _)) (by rw [HN.out];simp) HO.out (by unfold maxLen;omega) (by omega) (by rw [World.cell?_alloc_mark];rfl) ?_)
  intro a1 c1 w1 k1 ch1 f1
  have hf:RowG 1 w1 a1 c1 n cs ∧ (∀ x ∈ blk a1,w.heap.size ≤ x) ∧ Below w.heap.size w w1:=by
   refine ⟨by simpa using k1,fun x hx=>?_,Chg.below (below_alloc1 _ _) ch1 (fun x hx=>by simp at hx;omega)⟩
   rcases f1 x hx with h | h
   ·omega
   ·first | omega | (simp at h;omega)
  have HF:=Lib.hid hf
  clear hf k1 ch1 f1
  go_wp2
  go_ret
  exact ⟨a1,c1,by simp,HF.out⟩
def strayV (i:Nat) (kind:Int) (n:Nat) (r:Rec):Value:=.agg #[.int .i64 (i:Int),.int .i64 kind,.int .i64 (n:Int),.int .i64 r.1,.int .u64 (r.2:Int)]
def strayed (i:Nat) (kind:Int) (n:Nat) (r:Rec):Ending:=.panicked [{ v:=.iface 101 (strayV i kind n r),recovered:=false }]
theorem num_at {w:World} {a:Option Addr} {l:List Nat} (h:CellsAt w a (numc l)) (i:Nat) (hi:i < l.length):∃ b off,a = some ⟨b,off,none⟩ ∧ w.cell? ⟨b,off + i,none⟩ = some (.int .u64 (l[i]:Int)) :=
 h i _ (by simp [numc,hi])
theorem oracle_any (w:World) (a:Option Addr) (c:Nat) (l:List Nat) (h:CellsAt w a (numc l)) (hl:∀ n ∈ l,n < 18446744073709551616) (i:Nat) (hi:i < l.length) (kind:Int) (n:Nat) (hn:1 ≤ n) (hn2:n < 9223372036854775808) :
  Calls Tryz.prog 30 #[.slice a l.length c,.int .i64 (i:Int),.int .i64 kind,.int .i64 (n:Int)] w fun r w'=>r = .returned (.int .u64 ((l[i] % n:Nat):Int)) ∧ w' = w:=by
 obtain ⟨b,off,rfl,g⟩:=num_at h i hi
 have hx:=hl _ (List.getElem_mem hi)
 generalize l[i] = x at *
 generalize l.length = m at *
 have hne:¬ (n:Int) = 0:=by omega
 have hw:IntKind.u64.wrap (n:Int) = (n:Int):=by rw [IntKind.wrap_u64];omega
 have hr:(x:Int).tmod (n:Int) = ((x % n:Nat):Int):=by rw [Int.tmod_eq_emod_of_nonneg (by omega)];simp
 have hw2:IntKind.u64.wrap ((x % n:Nat):Int) = ((x % n:Nat):Int):=by
  have:x % n < n:=Nat.mod_lt _ (by omega)
  rw [IntKind.wrap_u64];omega
 clear h hl hn2 hx
 go_enter Tryz.func30,Tryz.ntmps30
 go_wp2
 go_ret
 exact ⟨ret_int (by simp),rfl⟩
structure Src where
 tape:List Rec
 nums:List Nat
 taken:List Rec
def Src.many (S:Src):Nat:=S.tape.length + S.nums.length
def Src.ok (S:Src):Prop:=(∀ r ∈ S.tape,r.2 < 18446744073709551616) ∧ ∀ n ∈ S.nums,n < 18446744073709551616
def drawAt (S:Src) (i:Nat) (kind:Int) (n:Nat):Option Nat :=
 if i < S.tape.length then (if (S.tape.getD i (0,0)).1 = kind ∧ (S.tape.getD i (0,0)).2 < n then some (S.tape.getD i (0,0)).2 else none) else some (S.nums.getD (i - S.tape.length) 0 % n)
def Drawn (w:World) (S:Src) (i:Nat) (kind:Int) (n:Nat) (r:Ending) (w':World):Prop :=
 Below w.heap.size w w' ∧ match drawAt S i kind n with
  | some v=>r = .returned (.int .u64 (v:Int))
  | none=>r = strayed i kind n (S.tape.getD i (0,0))
theorem Drawn.num {w w':World} {S:Src} {i:Nat} {kind:Int} {n:Nat} {r:Ending} (hi:¬ i < S.tape.length) (h2:i - S.tape.length < S.nums.length) (hb:Below w.heap.size w w') (h:r = .returned (.int .u64 ((S.nums[i - S.tape.length] % n:Nat):Int))):Drawn w S i kind n r w':=by
 refine ⟨hb,?_⟩
 unfold drawAt
 rw [if_neg hi,List.getD_eq_getElem?_getD,List.getElem?_eq_getElem h2]
 exact h
theorem Drawn.cases {w w':World} {S:Src} {i:Nat} {kind:Int} {n:Nat} {r:Ending} (h:Drawn w S i kind n r w'):(∃ v:Nat,r = .returned (.int .u64 (v:Int)) ∧ drawAt S i kind n = some v) ∨ (r = strayed i kind n (S.tape.getD i (0,0)) ∧ drawAt S i kind n = none):=by
 obtain ⟨hb,h⟩:=h
 cases hd:drawAt S i kind n with
 | none=>rw [hd] at h;exact .inr ⟨h,rfl⟩
 | some v=>rw [hd] at h;exact .inl ⟨v,h,rfl⟩
def drawer (k:Nat):Nat:=if k = 0 then 30 else 30
def recv (k:Nat) (t n:Value):Value:=if k = 0 then n else if k = 1 then t else .agg #[t,n]
def Src.fits (S:Src) (k:Nat):Prop:=(k = 0 → S.tape = []) ∧ (k = 1 → S.nums = []) ∧ k ≤ 0
theorem drawer_enter (k:Nat) (args:Array Value) (w:World):(callFunc (drawer k) args).run Tryz.prog w = .ok (.enter (drawer k) args) w:=by
 unfold drawer
 split
 ·kernel_rfl
 ·first
   | kernel_rfl
   | (split <;> kernel_rfl)
def scells (k:Nat) (S:Src) (ta:Option Addr) (tc:Nat) (na:Option Addr) (nc:Nat) (ka:Option Addr) (kc:Nat) (see:Value):List Value :=
 [.func (.func (drawer k)) #[recv k (.slice ta S.tape.length tc) (.slice na S.nums.length nc)] #[],.int .i64 (S.many:Int),.slice ka S.taken.length kc,see]
def sparts (p k:Nat) (S:Src) (see:Value) (ta:Option Addr) (tc:Nat) (na:Option Addr) (nc:Nat) (ka:Option Addr) (kc:Nat):List Asr :=
 [CelA p (scells k S ta tc na nc ka kc see),RowGA 2 ka kc S.taken.length (recCells S.taken),RowGA 2 ta tc S.tape.length (recCells S.tape),RowGA 1 na nc S.nums.length (numc S.nums)]
def SrcA (p k:Nat) (S:Src) (see:Value):Asr where
 at_ w F:=∃ ta tc na nc ka kc,Sep w (sparts p k S see ta tc na nc ka kc) F
 lt:=by rintro w F ⟨_,_,_,_,_,_,h⟩;exact h.lt
 chg:=by
  rintro w w' F G ⟨ta,tc,na,nc,ka,kc,h⟩ c hd
  exact ⟨ta,tc,na,nc,ka,kc,h.chg c hd⟩
theorem Own.src {w0 w:World} {p k:Nat} {S:Src} {see:Value} {R:List Asr} (h:Own w0 w (SrcA p k S see :: R)):∃ ta tc na nc ka kc,Own w0 w (CelA p (scells k S ta tc na nc ka kc see) :: RowGA 2 ka kc S.taken.length (recCells S.taken) :: RowGA 2 ta tc S.tape.length (recCells S.tape) :: RowGA 1 na nc S.nums.length (numc S.nums) :: R):=by
 obtain ⟨As,⟨ta,tc,na,nc,ka,kc,rfl⟩,h1⟩:=Own.unfold h (P:=fun As=>∃ ta tc na nc ka kc,As = sparts p k S see ta tc na nc ka kc) (fun F ⟨ta,tc,na,nc,ka,kc,h⟩=>⟨_,⟨ta,tc,na,nc,ka,kc,rfl⟩,h⟩)
 exact ⟨ta,tc,na,nc,ka,kc,h1⟩
theorem Own.srcBack {w0 w:World} {p k:Nat} {S:Src} {see:Value} {R:List Asr} {ta na ka:Option Addr} {tc nc kc:Nat} (h:Own w0 w (CelA p (scells k S ta tc na nc ka kc see) :: RowGA 2 ka kc S.taken.length (recCells S.taken) :: RowGA 2 ta tc S.tape.length (recCells S.tape) :: RowGA 1 na nc S.nums.length (numc S.nums) :: R)):Own w0 w (SrcA p k S see :: R) :=
 Own.fold (As:=sparts p k S see ta tc na nc ka kc) h (fun F hF=>⟨ta,tc,na,nc,ka,kc,hF⟩)
theorem sleft_any {w0 w:World} {R:List Asr} {p k:Nat} {S:Src} {see:Value} (h:Own w0 w (SrcA p k S see :: R)) (hm:S.many < 9223372036854775808) (ht:S.taken.length ≤ S.many) :
  Calls Tryz.prog 61 #[.pointer (some ⟨p,0,none⟩)] w fun r w'=>r = .returned (.int .i64 ((S.many - S.taken.length:Nat):Int)) ∧ ∃ m,w' = w.drewN m:=by
 obtain ⟨ta,tc,na,nc,ka,kc,h⟩:=h.src
 obtain ⟨g1,-⟩:=h.cel 0 rfl 1 _ rfl
 obtain ⟨g2,-⟩:=h.cel 0 rfl 2 _ rfl
 generalize S.taken.length = n at *
 generalize S.many = m at *
 have hs:(m:Int) - (n:Int) = ((m - n:Nat):Int):=by omega
 have hw:IntKind.i64.wrap ((m - n:Nat):Int) = ((m - n:Nat):Int):=by rw [IntKind.wrap_i64];omega
 generalize m - n = d at *
 clear h hm ht
 go_enter Tryz.func61,Tryz.ntmps61
 go_wp2_with fail
 go_quiet (fail)
 go_wp2
 go_ret
 exact ⟨ret_int (by simp),_,rfl⟩
theorem draw_any {w:World} {k:Nat} {S:Src} (hS:S.ok) (hf:S.fits k) (ta na:Option Addr) (tc nc:Nat) (ht:CellsAt w ta (recCells S.tape)) (hn:CellsAt w na (numc S.nums)) (i:Nat) (hi:i < S.many) (kind:Int) (n:Nat) (hn1:1 ≤ n) (hn2:n < 9223372036854775808) (hm:S.many < 9223372036854775808) :
  Calls Tryz.prog (drawer k) #[recv k (.slice ta S.tape.length tc) (.slice na S.nums.length nc),.int .i64 (i:Int),.int .i64 kind,.int .i64 (n:Int)] w (Drawn w S i kind n):=by
 unfold drawer recv
 by_cases h0:k = 0
 ·rw [if_pos h0,if_pos h0]
  have e:=hf.1 h0
  unfold Src.many at hi
  rw [e] at hi
  simp only [List.length_nil,Nat.zero_add] at hi
  refine (oracle_any w na nc S.nums hn hS.2 i hi kind n hn1 hn2).mono (fun r w2 h2=>?_)
  obtain ⟨h2,rfl⟩:=h2
  exact Drawn.num (by rw [e];simp) (by rw [e];simpa using hi) (Below.refl _ _) (by rw [h2];simp [e])
 ·have:=hf.2.2;omega
def dry:Ending:=.panicked [{ v:=.iface 130 (.agg #[]),recovered:=false }]
def cnt (n:Int):Nat:=(max n 1).toNat
theorem cnt_pos (n:Int):1 ≤ cnt n:=by unfold cnt;omega
theorem cnt_eq (n:Int):max n 1 = (cnt n:Int):=by unfold cnt;omega
theorem cnt_lt (n:Int) (h:n < 9223372036854775808):cnt n < 9223372036854775808:=by unfold cnt;omega
def Src.take (S:Src) (kind:Int) (v:Nat):Src:={ S with taken:=S.taken ++ [(kind,v)] }
def SDraw (S:Src) (kind n:Int) (r:Ending) (S':Src):Prop :=
 (S.taken.length = S.many ∧ r = dry ∧ S' = S) ∨
 (S.taken.length < S.many ∧ drawAt S S.taken.length kind (cnt n) = none ∧ r = strayed S.taken.length kind (cnt n) (S.tape.getD S.taken.length (0,0)) ∧ S' = S) ∨
 (S.taken.length < S.many ∧ ∃ v,drawAt S S.taken.length kind (cnt n) = some v ∧ r = .returned (.int .i64 (v:Int)) ∧ S' = S.take kind v)
theorem drawAt_lt {S:Src} {i:Nat} {kind:Int} {n v:Nat} (hn:1 ≤ n) (h:drawAt S i kind n = some v):v < n:=by
 unfold drawAt at h
 split at h
 ·split at h
  ·rename_i h2;cases h;exact h2.2
  ·cases h
 ·cases h;exact Nat.mod_lt _ (by omega)
theorem sdraw_any {w0 w:World} {R:List Asr} {p k:Nat} {S:Src} (h:Own w0 w (SrcA p k S .nilFunc :: R)) (hS:S.ok) (hf:S.fits k) (hm:S.many < 9223372036854775808) (ht:S.taken.length ≤ S.many) (hk:S.taken.length ≤ 1000000) (kind n:Int) (hn:n < 9223372036854775808) :
  Calls Tryz.prog 42 #[.pointer (some ⟨p,0,none⟩),.int .i64 kind,.int .i64 n] w fun r w'=>∃ S',SDraw S kind n r S' ∧ Own w0 w' (SrcA p k S' .nilFunc :: R):=by
 have hl:=sleft_any h hm ht
 have H:=Lib.hid h
 have HL:=Lib.hid hl
 clear h hl
 by_cases hd:S.taken.length = S.many
 ·have e:((S.many - S.taken.length:Nat):Int) = 0:=by omega
  rw [e] at HL
  have HS:Hid (SDraw S kind n dry S):=Lib.hid (.inl ⟨hd,rfl,rfl⟩)
  clear hS hf hm ht hk hd e
  go_enter Tryz.func42,Tryz.ntmps42
  go_wp2_with fail
  refine HL.out.mono ?_
  rintro r w1 ⟨rfl,m,rfl⟩
  have H1:=Lib.hid (H.out.step (below_drewN (Below.refl _ _) m))
  clear H HL
  go_wp2
  exact ⟨rfl,_,HS.out,H1.out⟩
 ·have hlt:S.taken.length < S.many:=by omega
  have e:¬ ((S.many - S.taken.length:Nat):Int) = 0:=by omega
  have hdraw:∀ w1,Below w.heap.size w w1 → ∀ ta tc na nc,CellsAt w ta (recCells S.tape) → CellsAt w na (numc S.nums) → Calls Tryz.prog (drawer k) #[recv k (.slice ta S.tape.length tc) (.slice na S.nums.length nc),.int .i64 (S.taken.length:Int),.int .i64 kind,.int .i64 (cnt n:Int)] w1 (Drawn w1 S S.taken.length kind (cnt n)) :=
   fun w1 hb ta tc na nc h1 h2=>draw_any hS hf ta na tc nc (h1.below hb) (h2.below hb) _ hlt kind _ (cnt_pos n) (cnt_lt n hn) hm
  obtain ⟨ta,tc,na,nc,ka,kc,h⟩:=H.out.src
  have hdr:=fun w1 hb=>hdraw w1 hb ta tc na nc ((h.rowG 2 rfl).cells) ((h.rowG 3 rfl).cells)
  have en:∀ (args:Array Value) (w:World),(callFunc (drawer k) args).run Tryz.prog w = .ok (.enter (drawer k) args) w:=drawer_enter k
  have HDR:=Lib.hid hdr
  obtain ⟨g0,-⟩:=h.cel 0 rfl 0 _ rfl
  obtain ⟨g2,-⟩:=h.cel 0 rfl 2 _ rfl
  clear hdraw hdr
  generalize recv k (.slice ta S.tape.length tc) (.slice na S.nums.length nc) = rv at *
  generalize drawer k = F at *
  have HS:=Lib.hid hS
  have HF:=Lib.hid hf
  have HM:=Lib.hid hm
  have HLT:=Lib.hid hlt
  have HK:=Lib.hid hk
  generalize hdd:S.many - S.taken.length = d at *
  have HDD:=Lib.hid hdd
  obtain ⟨nk,hnk⟩:∃ nk,nk = S.taken.length:=⟨_,rfl⟩
  rw [← hnk] at g2 HDR
  have HNK:=Lib.hid hnk
  have H0:=Lib.hid h
  have G0:=Lib.hid g0
  have G2:=Lib.hid g2
  have hmx:=cnt_eq n
  have hmp:=cnt_pos n
  have hml:=cnt_lt n hn
  have hpan:∀ w',Below w.heap.size w w' → drawAt S nk kind (cnt n) = none → ∃ S',SDraw S kind n (strayed nk kind (cnt n) (S.tape.getD nk (0,0))) S' ∧ Own w0 w' (SrcA p k S' .nilFunc :: R):=fun w' hb hv =>
   ⟨S,.inr (.inl ⟨hlt,by rw [← hnk];exact hv,by rw [hnk],rfl⟩),H.out.step hb⟩
  have HP:=Lib.hid hpan
  clear hpan
  have hend:∀ v w',drawAt S nk kind (cnt n) = some v → Own w0 w' (SrcA p k (S.take kind v) .nilFunc :: R) → ∃ S',SDraw S kind n (.returned (.int .i64 (v:Int))) S' ∧ Own w0 w' (SrcA p k S' .nilFunc :: R):=fun v w' hv ho =>
   ⟨_,.inr (.inr ⟨hlt,v,by rw [← hnk];exact hv,rfl,rfl⟩),ho⟩
  have HEND:=Lib.hid hend
  clear hend
  have hvl:∀ v,drawAt S nk kind (cnt n) = some v → v < cnt n:=fun v hv=>drawAt_lt hmp hv
  have HVL:=Lib.hid hvl
  clear hvl
  generalize cnt n = c at *
  clear hS hf hm ht hk hd h hlt hdd hnk g0 g2
  go_enter Tryz.func42,Tryz.ntmps42
  go_wp2_with fail
  refine HL.out.mono ?_
  rintro r w1 ⟨rfl,m,rfl⟩
  have hB1:Below w.heap.size w (w.drewN m):=below_drewN (Below.refl _ _) m
  generalize w.drewN m = W at *
  have g0:=cell_below G0.out hB1
  have g2:=cell_below G2.out hB1
  have HB1:=Lib.hid hB1
  clear hB1 HL
  go_wp2_with fail
  have hmv:(if n < 1 then (1:Int) else n) = (c:Int):=by rw [← hmx];omega
  have HMV:=Lib.hid hmv
  clear hmx hmv
  refine wp_region_lexP (fun w'=>w'.cell? ⟨p,0,none⟩ = some (.func (.func F) #[rv] #[]) ∧ w'.cell? ⟨p,2,none⟩ = some (.slice ka nk kc) ∧ Below W.heap.size W w') 17 (Array.replicate 17 false) (by kernel_rfl) (by kernel_rfl) ?_
  have hBd:=below_drew1 W
  generalize W.drew = Wd at *
  refine wpAnyH_seg 0 13 _ #[true,true,true,true,true,true,true,true,true,true,true,true,true,false,false,false,false] 4 (by kernel_rfl) body_put (⟨cell_below g0 hBd,cell_below g2 hBd,hBd⟩) (by kernel_rfl) ?_
  simp only [List.take_succ_cons,List.take_zero,List.drop_zero]
  repeat ((first | refine wpSegH_no (by rfl) ?_ | (refine wpSegH_yes (by rfl) ?_;apply Exists.intro;apply And.intro;(· (intro wx hS;(try dsimp only at hS);go_simp;first | done | with_reducible rfl))));simp only [Act.put,List.setIfInBounds_toArray,List.set_cons_zero,List.set_cons_succ])
  refine wpSegH_nil ?_
  rw [HMV.out]
  refine wpAnyH_two 13 15 _ #[true,true,true,true,true,true,true,true,true,true,true,true,true,true,false,false,false] #[true,true,true,true,true,true,true,true,true,true,true,true,true,false,false,true,false] 3 (by kernel_rfl) (fun K hK=>?_) (fun K hK=>?_)
  ·skip
   have HKK:=Lib.hid hK
   clear hK
   simp only [List.drop_succ_cons,List.drop_zero]
   refine headH_mk (by rfl) ?_
   go_simp
   refine (HDR.out _ (below_on HB1.out hBd)).mono ?_
   intro r w2 h2
   rcases h2.cases with ⟨v,rfl,hv⟩ | ⟨rfl,hv⟩
   ·have hb2:Below W.heap.size W w2:=below_on hBd h2.1
    refine HKK.out _ _ (⟨cell_below g0 hb2,cell_below g2 hb2,hb2⟩) ?_
    clear HKK K
    refine wpAnyH_seg 14 1 _ #[true,true,true,true,true,true,true,true,true,true,true,true,true,true,true,false,false] 2 (by kernel_rfl) body_put (⟨cell_below g0 hb2,cell_below g2 hb2,hb2⟩) (by kernel_rfl) ?_
    simp only [List.take_succ_cons,List.take_zero,List.drop_succ_cons,List.drop_zero]
    repeat ((first | refine wpSegH_no (by rfl) ?_ | (refine wpSegH_yes (by rfl) ?_;apply Exists.intro;apply And.intro;(· (intro wx hS;(try dsimp only at hS);go_simp;first | done | with_reducible rfl))));simp only [Act.put,List.setIfInBounds_toArray,List.set_cons_zero,List.set_cons_succ])
    refine wpSegH_nil ?_
    have h3:=(H0.out.step (below_on HB1.out hb2)).alloc [.int .i64 0,.int .u64 0] 99 (b:=w2.heap.size) rfl
    have hb3:Below W.heap.size W (w2.alloc (.cells #[.int .i64 0,.int .u64 0] 99)):=below_on hb2 (below_alloc1 _ _)
    have hgw:W.heap.size ≤ w2.heap.size:=hb2.size
    refine wpAnyH_one 15 _ #[true,true,true,true,true,true,true,true,true,true,true,true,true,true,true,true,false] 1 (by kernel_rfl) (fun K hK=>?_)
    have HKK:=Lib.hid hK
    clear hK
    simp only [List.drop_succ_cons,List.drop_zero]
    refine headH_mk (by rfl) ?_
    go_simp
    refine HKK.out _ _ (⟨cell_below g0 hb3,cell_below g2 hb3,hb3⟩) ?_
    clear HKK K
    generalize w2.alloc (.cells #[.int .i64 0,.int .u64 0] 99) = w3 at *
    generalize w2.heap.size = g at *
    obtain ⟨x0,y0⟩:=h3.cel 0 rfl 0 _ rfl
    obtain ⟨x1,y1⟩:=h3.cel 0 rfl 1 _ rfl
    have hb4:Below W.heap.size W ((w3.setCell ⟨g,0,none⟩ (.int .i64 kind)).setCell ⟨g,1,none⟩ (.int .u64 (v:Int))):=(hb3.setCell hgw _).setCell hgw _
    refine wpAnyH_one 16 _ #[true,true,true,true,true,true,true,true,true,true,true,true,true,true,true,true,true] 0 (by kernel_rfl) (fun K hK=>?_)
    have HKK:=Lib.hid hK
    clear hK
    simp only [List.drop_succ_cons,List.drop_zero]
    refine headH_mk (by rfl) ?_
    go_simp
    refine HKK.out _ _ (⟨cell_below g0 hb4,cell_below g2 hb4,hb4⟩) ?_
    clear HKK K
    refine wpAnyH_done (by kernel_rfl) (?_) _
    have h4:=(h3.set 0 (.int .i64 kind)).set 1 (.int .u64 (v:Int))
    have HG:=Lib.hid h4
    clear h4 h3 hb3 hb2 h2
    go_wp2_with fail
    have HK4:=Lib.hid HG.out
    obtain ⟨q0,-⟩:=HK4.out.cel 0 rfl 0 _ rfl
    obtain ⟨q1,-⟩:=HK4.out.cel 0 rfl 1 _ rfl
    obtain ⟨q2,-⟩:=HK4.out.cel 1 rfl 2 _ rfl
    rw [show (Value.slice ka S.taken.length kc) = Value.slice ka nk kc by rw [HNK.out]] at q2
    generalize (w3.setCell ⟨g,0,none⟩ (.int .i64 kind)).setCell ⟨g,1,none⟩ (.int .u64 (v:Int)) = W5 at *
    have SCB:∀ {wx:World} {As:List Asr},Own w0 wx (CelA g [.int .i64 kind,.int .u64 (v:Int)] :: CelA p (scells k S ta tc na nc ka kc .nilFunc) :: As) → wx.cell? ⟨p,2,none⟩ = some (.slice ka nk kc) ∧ wx.cell? ⟨g,0,none⟩ = some (.int .i64 kind) ∧ wx.cell? ⟨g,1,none⟩ = some (.int .u64 (v:Int)):=fun h=>⟨by rw [HNK.out];exact (h.cel 1 rfl 2 _ rfl).1,(h.cel 0 rfl 0 _ rfl).1,(h.cel 0 rfl 1 _ rfl).1⟩
    refine wp_region_lexY (fun wx=>wx.cell? ⟨p,2,none⟩ = some (.slice ka nk kc) ∧ wx.cell? ⟨g,0,none⟩ = some (.int .i64 kind) ∧ wx.cell? ⟨g,1,none⟩ = some (.int .u64 (v:Int))) 10 11 (Array.replicate 11 false) (by kernel_rfl) (by kernel_rfl) ?_
    have h6:Own w0 W5.drew (CelA g [.int .i64 kind,.int .u64 (v:Int)] :: CelA p (scells k S ta tc na nc ka kc .nilFunc) :: RowGA 2 ka kc S.taken.length (recCells S.taken) :: RowGA 2 ta tc S.tape.length (recCells S.tape) :: RowGA 1 na nc S.nums.length (numc S.nums) :: R):=HK4.out.step (below_drew1 W5)
    clear HK4 q0 q1 q2
    generalize W5.drew = W6 at *
    refine wpAnyY_seg 0 6 _ #[true,true,true,true,true,true,false,false,false,false,false] 5 (by kernel_rfl) noPanic_put (SCB h6) (by kernel_rfl) ?_
    simp only [List.take_succ_cons,List.take_zero,List.drop_zero]
    repeat ((first | refine wpSegH_no (by rfl) ?_ | (refine wpSegH_yes (by rfl) ?_;apply Exists.intro;apply And.intro;(· (intro wx hS;(try dsimp only at hS);go_simp;first | done | with_reducible rfl))));simp only [Act.put,List.setIfInBounds_toArray,List.set_cons_zero,List.set_cons_succ])
    refine wpSegH_nil ?_
    have hrow:=h6.rowG 2 rfl
    obtain ⟨i0,hi0,hz0,hz1,hz2⟩:=info_parts info_rcd
    rw [← HNK.out] at hrow
    have o2:=h6.step (below_alloc1 W6 (.cells #[.int .i64 kind,.int .u64 (v:Int)] 99))
    refine wpAnyY_one 6 _ #[true,true,true,true,true,true,true,false,false,false,false] 4 (by kernel_rfl) (fun K hK=>?_)
    have HKK:=Lib.hid hK
    clear hK
    simp only [List.drop_succ_cons,List.drop_zero]
    refine headH_mk (by rfl) ?_
    go_simp
    refine HKK.out _ _ (SCB o2) ?_
    clear HKK K
    refine wpAnyY_one 7 _ #[true,true,true,true,true,true,true,true,false,false,false] 3 (by kernel_rfl) (fun K hK=>?_)
    have HKK:=Lib.hid hK
    clear hK
    simp only [List.drop_succ_cons,List.drop_zero]
    refine headH_mk (by rfl) ?_
    refine wp_append_rowG (n:=nk) (m:=1) (cs:=recCells S.taken) (ds:=recCells [(kind,v)]) _ _ 94 (by rfl) 99 i0 _ Tryz.underlying94 hi0 hz0 hz1 hz2 rfl (by omega) (by omega) (by rfl) (by rfl) (hrow.below (below_alloc1 _ _)) (CellsAt.new W6 (recCells [(kind,v)]) _ rfl) rfl (recc_one _) (by have:=HK.out;rw [HNK.out];omega) ?_
    intro a9 c9 w9 k9 ch9 f9
    have o3:Own w0 w9 (CelA g [.int .i64 kind,.int .u64 (v:Int)] :: CelA p (scells k S ta tc na nc ka kc .nilFunc) :: RowGA 2 a9 c9 (nk + 1) (recCells S.taken ++ recCells [(kind,v)]) :: RowGA 2 ta tc S.tape.length (recCells S.tape) :: RowGA 1 na nc S.nums.length (numc S.nums) :: R) :=
     ((Own.rowTurn (o2.pick 2 rfl) k9 ch9 f9).pick 2 rfl).pick 2 rfl
    refine HKK.out _ _ (SCB o3) ?_
    clear HKK K
    refine wpAnyY_segT 8 2 _ #[true,true,true,true,true,true,true,true,true,true,false] 1 (by kernel_rfl) noPanic_put (by kernel_rfl) ?_
    simp only [List.take_succ_cons,List.take_zero,List.drop_succ_cons,List.drop_zero]
    repeat ((first | refine wpSegH_no (by rfl) ?_ | (refine wpSegH_yes (by rfl) ?_;apply Exists.intro;apply And.intro;(· (intro wx hS;(try dsimp only at hS);go_simp;first | done | with_reducible rfl))));simp only [Act.put,List.setIfInBounds_toArray,List.set_cons_zero,List.set_cons_succ])
    refine wpSegH_nil ?_
    obtain ⟨q2,y2⟩:=o3.cel 1 rfl 2 _ rfl
    have o4:=o3.setAt 1 rfl 2 (.slice a9 (nk + 1) c9)
    have hfin:Own w0 (w9.setCell ⟨p,2,none⟩ (.slice a9 (nk + 1) c9)) (CelA g [.int .i64 kind,.int .u64 (v:Int)] :: SrcA p k (S.take kind v) .nilFunc :: R):=by
     have e:nk + 1 = (S.take kind v).taken.length:=by rw [HNK.out];simp [Src.take]
     have e2:recCells S.taken ++ recCells [(kind,v)] = recCells (S.take kind v).taken:=by unfold Src.take recCells;simp
     have o5:Own w0 (w9.setCell ⟨p,2,none⟩ (.slice a9 (nk + 1) c9)) (CelA p ((scells k S ta tc na nc ka kc .nilFunc).set 2 (.slice a9 (nk + 1) c9)) :: RowGA 2 a9 c9 (nk + 1) (recCells S.taken ++ recCells [(kind,v)]) :: RowGA 2 ta tc S.tape.length (recCells S.tape) :: RowGA 1 na nc S.nums.length (numc S.nums) :: CelA g [.int .i64 kind,.int .u64 (v:Int)] :: R):=((((o4.pick 4 rfl).pick 4 rfl).pick 4 rfl).pick 4 rfl)
     rw [e2,e] at o5
     rw [e]
     exact (Own.srcBack (S:=S.take kind v) o5).pick 1 rfl
    have HFIN:=Lib.hid hfin
    clear hfin o4 o3 o2 k9 ch9 f9 hrow hi0 hz0 hz1 hz2 i0 h6 SCB HG
    refine wpAnyY_late 10 _ #[true,true,true,true,true,true,true,true,true,true,true] 0 (by kernel_rfl) (fun K hK=>?_)
    have HKK:=Lib.hid hK
    clear hK
    simp only [List.drop_succ_cons,List.drop_zero]
    refine headH_mk (by rfl) ?_
    go_simp
    refine HKK.out _ _ ?_
    clear HKK K
    refine wpAnyY_done (by kernel_rfl) (NoPanic.normal ?_) _
    generalize w9.setCell ⟨p,2,none⟩ (.slice a9 (nk + 1) c9) = w10 at *
    obtain ⟨_,_,_,_,_,_,hs⟩:=(HFIN.out.pick 1 rfl).src
    obtain ⟨z3,-⟩:=hs.cel 0 rfl 3 _ rfl
    obtain ⟨z1,-⟩:=HFIN.out.cel 0 rfl 1 _ rfl
    have hvv:=HVL.out v hv
    have hvw:IntKind.i64.wrap (v:Int) = (v:Int):=by rw [IntKind.wrap_i64];omega
    have hne:∀ w:World,(binOp .neq 95 .nilFunc .nilFunc).run Tryz.prog w = .ok (.bool false) w:=fun _=>rfl
    have HRES:=Lib.hid (HEND.out v _ hv HFIN.out.drop)
    clear hs HFIN HEND hvv hv HVL
    go_wp2
    go_ret
    exact HRES.out
   ·exact ⟨rfl,HP.out _ (below_on HB1.out (below_on hBd h2.1)) hv⟩
  ·skip
   have hgw:W.heap.size ≤ Wd.heap.size:=hBd.size
   have h3:=(H0.out.step (below_on HB1.out hBd)).alloc [.int .i64 0,.int .u64 0] 99 (b:=Wd.heap.size) rfl
   have hb3:Below W.heap.size W (Wd.alloc (.cells #[.int .i64 0,.int .u64 0] 99)):=below_on hBd (below_alloc1 _ _)
   have HKK:=Lib.hid hK
   clear hK
   simp only [List.drop_succ_cons,List.drop_zero]
   refine headH_mk (by rfl) ?_
   go_simp
   refine HKK.out _ _ (⟨cell_below g0 hb3,cell_below g2 hb3,hb3⟩) ?_
   clear HKK K
   generalize Wd.alloc (.cells #[.int .i64 0,.int .u64 0] 99) = wa at *
   generalize Wd.heap.size = g at *
   refine wpAnyH_one 13 _ #[true,true,true,true,true,true,true,true,true,true,true,true,true,true,false,true,false] 2 (by kernel_rfl) (fun K hK=>?_)
   have HKK:=Lib.hid hK
   clear hK
   simp only [List.drop_succ_cons,List.drop_zero]
   refine headH_mk (by rfl) ?_
   go_simp
   refine (HDR.out _ (below_on HB1.out hb3)).mono ?_
   intro r w3 h2
   rcases h2.cases with ⟨v,rfl,hv⟩ | ⟨rfl,hv⟩
   ·have hb2:Below W.heap.size W w3:=below_on hb3 h2.1
    replace h3:=h3.step h2.1
    refine HKK.out _ _ (⟨cell_below g0 hb2,cell_below g2 hb2,hb2⟩) ?_
    clear HKK K
    refine wpAnyH_seg 14 1 _ #[true,true,true,true,true,true,true,true,true,true,true,true,true,true,true,true,false] 1 (by kernel_rfl) body_put (⟨cell_below g0 hb2,cell_below g2 hb2,hb2⟩) (by kernel_rfl) ?_
    simp only [List.take_succ_cons,List.take_zero,List.drop_succ_cons,List.drop_zero]
    repeat ((first | refine wpSegH_no (by rfl) ?_ | (refine wpSegH_yes (by rfl) ?_;apply Exists.intro;apply And.intro;(· (intro wx hS;(try dsimp only at hS);go_simp;first | done | with_reducible rfl))));simp only [Act.put,List.setIfInBounds_toArray,List.set_cons_zero,List.set_cons_succ])
    refine wpSegH_nil ?_
    obtain ⟨x0,y0⟩:=h3.cel 0 rfl 0 _ rfl
    obtain ⟨x1,y1⟩:=h3.cel 0 rfl 1 _ rfl
    have hb4:Below W.heap.size W ((w3.setCell ⟨g,0,none⟩ (.int .i64 kind)).setCell ⟨g,1,none⟩ (.int .u64 (v:Int))):=(hb2.setCell hgw _).setCell hgw _
    refine wpAnyH_one 16 _ #[true,true,true,true,true,true,true,true,true,true,true,true,true,true,true,true,true] 0 (by kernel_rfl) (fun K hK=>?_)
    have HKK:=Lib.hid hK
    clear hK
    simp only [List.drop_succ_cons,List.drop_zero]
    refine headH_mk (by rfl) ?_
    go_simp
    refine HKK.out _ _ (⟨cell_below g0 hb4,cell_below g2 hb4,hb4⟩) ?_
    clear HKK K
    refine wpAnyH_done (by kernel_rfl) (?_) _
    have h4:=(h3.set 0 (.int .i64 kind)).set 1 (.int .u64 (v:Int))
    have HG:=Lib.hid h4
    clear h4 h3 hb3 hb2 h2
    go_wp2_with fail
    have HK4:=Lib.hid HG.out
    obtain ⟨q0,-⟩:=HK4.out.cel 0 rfl 0 _ rfl
    obtain ⟨q1,-⟩:=HK4.out.cel 0 rfl 1 _ rfl
    obtain ⟨q2,-⟩:=HK4.out.cel 1 rfl 2 _ rfl
    rw [show (Value.slice ka S.taken.length kc) = Value.slice ka nk kc by rw [HNK.out]] at q2
    generalize (w3.setCell ⟨g,0,none⟩ (.int .i64 kind)).setCell ⟨g,1,none⟩ (.int .u64 (v:Int)) = W5 at *
    have SCB:∀ {wx:World} {As:List Asr},Own w0 wx (CelA g [.int .i64 kind,.int .u64 (v:Int)] :: CelA p (scells k S ta tc na nc ka kc .nilFunc) :: As) → wx.cell? ⟨p,2,none⟩ = some (.slice ka nk kc) ∧ wx.cell? ⟨g,0,none⟩ = some (.int .i64 kind) ∧ wx.cell? ⟨g,1,none⟩ = some (.int .u64 (v:Int)):=fun h=>⟨by rw [HNK.out];exact (h.cel 1 rfl 2 _ rfl).1,(h.cel 0 rfl 0 _ rfl).1,(h.cel 0 rfl 1 _ rfl).1⟩
    refine wp_region_lexY (fun wx=>wx.cell? ⟨p,2,none⟩ = some (.slice ka nk kc) ∧ wx.cell? ⟨g,0,none⟩ = some (.int .i64 kind) ∧ wx.cell? ⟨g,1,none⟩ = some (.int .u64 (v:Int))) 10 11 (Array.replicate 11 false) (by kernel_rfl) (by kernel_rfl) ?_
    have h6:Own w0 W5.drew (CelA g [.int .i64 kind,.int .u64 (v:Int)] :: CelA p (scells k S ta tc na nc ka kc .nilFunc) :: RowGA 2 ka kc S.taken.length (recCells S.taken) :: RowGA 2 ta tc S.tape.length (recCells S.tape) :: RowGA 1 na nc S.nums.length (numc S.nums) :: R):=HK4.out.step (below_drew1 W5)
    clear HK4 q0 q1 q2
    generalize W5.drew = W6 at *
    refine wpAnyY_seg 0 6 _ #[true,true,true,true,true,true,false,false,false,false,false] 5 (by kernel_rfl) noPanic_put (SCB h6) (by kernel_rfl) ?_
    simp only [List.take_succ_cons,List.take_zero,List.drop_zero]
    repeat ((first | refine wpSegH_no (by rfl) ?_ | (refine wpSegH_yes (by rfl) ?_;apply Exists.intro;apply And.intro;(· (intro wx hS;(try dsimp only at hS);go_simp;first | done | with_reducible rfl))));simp only [Act.put,List.setIfInBounds_toArray,List.set_cons_zero,List.set_cons_succ])
    refine wpSegH_nil ?_
    have hrow:=h6.rowG 2 rfl
    obtain ⟨i0,hi0,hz0,hz1,hz2⟩:=info_parts info_rcd
    rw [← HNK.out] at hrow
    have o2:=h6.step (below_alloc1 W6 (.cells #[.int .i64 kind,.int .u64 (v:Int)] 99))
    refine wpAnyY_one 6 _ #[true,true,true,true,true,true,true,false,false,false,false] 4 (by kernel_rfl) (fun K hK=>?_)
    have HKK:=Lib.hid hK
    clear hK
    simp only [List.drop_succ_cons,List.drop_zero]
    refine headH_mk (by rfl) ?_
    go_simp
    refine HKK.out _ _ (SCB o2) ?_
    clear HKK K
    refine wpAnyY_one 7 _ #[true,true,true,true,true,true,true,true,false,false,false] 3 (by kernel_rfl) (fun K hK=>?_)
    have HKK:=Lib.hid hK
    clear hK
    simp only [List.drop_succ_cons,List.drop_zero]
    refine headH_mk (by rfl) ?_
    refine wp_append_rowG (n:=nk) (m:=1) (cs:=recCells S.taken) (ds:=recCells [(kind,v)]) _ _ 94 (by rfl) 99 i0 _ Tryz.underlying94 hi0 hz0 hz1 hz2 rfl (by omega) (by omega) (by rfl) (by rfl) (hrow.below (below_alloc1 _ _)) (CellsAt.new W6 (recCells [(kind,v)]) _ rfl) rfl (recc_one _) (by have:=HK.out;rw [HNK.out];omega) ?_
    intro a9 c9 w9 k9 ch9 f9
    have o3:Own w0 w9 (CelA g [.int .i64 kind,.int .u64 (v:Int)] :: CelA p (scells k S ta tc na nc ka kc .nilFunc) :: RowGA 2 a9 c9 (nk + 1) (recCells S.taken ++ recCells [(kind,v)]) :: RowGA 2 ta tc S.tape.length (recCells S.tape) :: RowGA 1 na nc S.nums.length (numc S.nums) :: R) :=
     ((Own.rowTurn (o2.pick 2 rfl) k9 ch9 f9).pick 2 rfl).pick 2 rfl
    refine HKK.out _ _ (SCB o3) ?_
    clear HKK K
    refine wpAnyY_segT 8 2 _ #[true,true,true,true,true,true,true,true,true,true,false] 1 (by kernel_rfl) noPanic_put (by kernel_rfl) ?_
    simp only [List.take_succ_cons,List.take_zero,List.drop_succ_cons,List.drop_zero]
    repeat ((first | refine wpSegH_no (by rfl) ?_ | (refine wpSegH_yes (by rfl) ?_;apply Exists.intro;apply And.intro;(· (intro wx hS;(try dsimp only at hS);go_simp;first | done | with_reducible rfl))));simp only [Act.put,List.setIfInBounds_toArray,List.set_cons_zero,List.set_cons_succ])
    refine wpSegH_nil ?_
    obtain ⟨q2,y2⟩:=o3.cel 1 rfl 2 _ rfl
    have o4:=o3.setAt 1 rfl 2 (.slice a9 (nk + 1) c9)
    have hfin:Own w0 (w9.setCell ⟨p,2,none⟩ (.slice a9 (nk + 1) c9)) (CelA g [.int .i64 kind,.int .u64 (v:Int)] :: SrcA p k (S.take kind v) .nilFunc :: R):=by
     have e:nk + 1 = (S.take kind v).taken.length:=by rw [HNK.out];simp [Src.take]
     have e2:recCells S.taken ++ recCells [(kind,v)] = recCells (S.take kind v).taken:=by unfold Src.take recCells;simp
     have o5:Own w0 (w9.setCell ⟨p,2,none⟩ (.slice a9 (nk + 1) c9)) (CelA p ((scells k S ta tc na nc ka kc .nilFunc).set 2 (.slice a9 (nk + 1) c9)) :: RowGA 2 a9 c9 (nk + 1) (recCells S.taken ++ recCells [(kind,v)]) :: RowGA 2 ta tc S.tape.length (recCells S.tape) :: RowGA 1 na nc S.nums.length (numc S.nums) :: CelA g [.int .i64 kind,.int .u64 (v:Int)] :: R):=((((o4.pick 4 rfl).pick 4 rfl).pick 4 rfl).pick 4 rfl)
     rw [e2,e] at o5
     rw [e]
     exact (Own.srcBack (S:=S.take kind v) o5).pick 1 rfl
    have HFIN:=Lib.hid hfin
    clear hfin o4 o3 o2 k9 ch9 f9 hrow hi0 hz0 hz1 hz2 i0 h6 SCB HG
    refine wpAnyY_late 10 _ #[true,true,true,true,true,true,true,true,true,true,true] 0 (by kernel_rfl) (fun K hK=>?_)
    have HKK:=Lib.hid hK
    clear hK
    simp only [List.drop_succ_cons,List.drop_zero]
    refine headH_mk (by rfl) ?_
    go_simp
    refine HKK.out _ _ ?_
    clear HKK K
    refine wpAnyY_done (by kernel_rfl) (NoPanic.normal ?_) _
    generalize w9.setCell ⟨p,2,none⟩ (.slice a9 (nk + 1) c9) = w10 at *
    obtain ⟨_,_,_,_,_,_,hs⟩:=(HFIN.out.pick 1 rfl).src
    obtain ⟨z3,-⟩:=hs.cel 0 rfl 3 _ rfl
    obtain ⟨z1,-⟩:=HFIN.out.cel 0 rfl 1 _ rfl
    have hvv:=HVL.out v hv
    have hvw:IntKind.i64.wrap (v:Int) = (v:Int):=by rw [IntKind.wrap_i64];omega
    have hne:∀ w:World,(binOp .neq 95 .nilFunc .nilFunc).run Tryz.prog w = .ok (.bool false) w:=fun _=>rfl
    have HRES:=Lib.hid (HEND.out v _ hv HFIN.out.drop)
    clear hs HFIN HEND hvv hv HVL
    go_wp2
    go_ret
    exact HRES.out
   ·exact ⟨rfl,HP.out _ (below_on HB1.out (below_on hb3 h2.1)) hv⟩
theorem Own.srcNew {w0 w w':World} {As:List Asr} {p k:Nat} {S:Src} {see:Value} {ta na:Option Addr} {tc nc:Nat} (h:Own w0 w As) (hb:Below w.heap.size w w') (ht:RowG 2 w' ta tc S.tape.length (recCells S.tape)) (hn:RowG 1 w' na nc S.nums.length (numc S.nums)) (hk:S.taken = [])
  (hB:Blk w' p (scells k S ta tc na nc none 0 see)) (hp:w.heap.size ≤ p) (hpl:p < w'.heap.size) (h1:∀ x ∈ blk ta,w.heap.size ≤ x) (h2:∀ x ∈ blk na,w.heap.size ≤ x) (h3:∀ x ∈ blk ta,x ≠ p) (h4:∀ x ∈ blk na,x ≠ p) (h5:∀ x ∈ blk ta,x ∉ blk na) :
  Own w0 w' (SrcA p k S see :: As):=by
 refine h.add hb (A:=SrcA p k S see) (F:=[p] ++ ([] ++ (blk ta ++ (blk na ++ [])))) ⟨ta,tc,na,nc,none,0,?_⟩ ?_
 ·refine ⟨[p],_,rfl,⟨rfl,hpl,hB⟩,?_,[],_,rfl,⟨rfl,?_⟩,by simp,blk ta,_,rfl,⟨rfl,ht⟩,by simpa using h5,blk na,[],rfl,⟨rfl,hn⟩,by simp,rfl⟩
  ·intro x hx hc
   simp at hx hc
   subst hx
   rcases hc with hc | hc
   ·exact h3 _ hc rfl
   ·exact h4 _ hc rfl
  ·rw [hk];exact RowG.nil 2 w'
 ·intro x hx
  simp at hx
  rcases hx with rfl | hx | hx
  ·exact hp
  ·exact h1 x hx
  ·exact h2 x hx
theorem onew_any {w0 w:World} {As:List Asr} (h:Own w0 w As) (a:Option Addr) (c:Nat) (l:List Nat) (hc:CellsAt w a (numc l)) (h0:a = none → l.length = 0 ∧ c = 0) (hl:l.length * 8 ≤ 140737488355328) :
  Calls Tryz.prog 12 #[.slice a l.length c] w fun r w'=>∃ p,r = .returned (.pointer (some ⟨p,0,none⟩)) ∧ Own w0 w' (SrcA p 0 ⟨[],l,[]⟩ .nilFunc :: As) ∧ Below w.heap.size w w':=by
 have hmf:∀ (fn:Fn) (first cap:Array Value) (w:World),(Instr.makeFunc fn first cap).run Tryz.prog w = .ok (.func fn first cap) w:=fun _ _ _ _=>rfl
 have hcl:=cloneu_any w a l.length c (numc l) hc (numc_len l) (numc_one l) h0 hl
 have H:=Lib.hid h
 have HCL:=Lib.hid hcl
 obtain ⟨N,hN⟩:∃ N,N = l.length:=⟨_,rfl⟩
 have HN:=Lib.hid hN
 rw [← hN] at HCL ⊢
 clear h hc h0 hl hcl hN
 go_enter Tryz.func12,Tryz.ntmps12
 go_wp2_with fail
 refine HCL.out.mono ?_
 rintro r w1 ⟨a',c',rfl,k1,k2,k3⟩
 have hB:=Blk.mk w1 [.func (.func 30) #[.slice a' N c'] #[],.int .i64 (N:Int),.slice none 0 0,.nilFunc] 97 _ rfl
 have hf:Own w0 (w1.alloc (.cells #[.func (.func 30) #[.slice a' N c'] #[],.int .i64 (N:Int),.slice none 0 0,.nilFunc] 97)) (SrcA w1.heap.size 0 ⟨[],l,[]⟩ .nilFunc :: As) ∧ Below w.heap.size w (w1.alloc (.cells #[.func (.func 30) #[.slice a' N c'] #[],.int .i64 (N:Int),.slice none 0 0,.nilFunc] 97)):=by
  have hb:=below_on k3 (below_alloc1 w1 (.cells #[.func (.func 30) #[.slice a' N c'] #[],.int .i64 (N:Int),.slice none 0 0,.nilFunc] 97))
  refine ⟨Own.srcNew (S:=⟨[],l,[]⟩) (ta:=none) (tc:=0) (na:=a') (nc:=c') H.out hb (RowG.nil 2 _) (by rw [HN.out] at k1;exact k1.below (below_alloc1 _ _)) rfl ?_ k3.size (by simp) (by simp [blk]) k2 (by simp [blk]) (fun x hx=>by have:=k1.lt x hx;omega) (by simp [blk]),hb⟩
  unfold scells Src.many drawer recv
  simp only [List.length_nil,Nat.zero_add,if_true]
  rw [← HN.out]
  exact hB
 have HF:=Lib.hid hf
 clear hf hB k1 k2 k3 HCL H
 go_wp2
 go_ret
 exact ⟨_,rfl,HF.out⟩
end Go.Proofs.YtodjgipiomnnfaaGreat

open Go Go.RowKit
set_option linter.unusedVariables false
namespace Go.Proofs.YtodjgipiomnnfaaGreat
structure Drw (sp:Nat) where
 T:Type
 A:T → List Asr
 ok:Nat → T → Prop
 less:∀ j s,ok (j + 1) s → ok j s
 Dv:T → Int → Int → Int → T → Prop
 Dp:T → Int → Int → Ending → T → Prop
 hd:∀ {w0 w:World} (s:T) (kind n:Int) (Z:List Asr) (j:Nat),ok (j + 1) s → 1 ≤ n ∧ n < 9223372036854775808 → Own w0 w (A s ++ Z) → Calls Tryz.prog 42 #[.pointer (some ⟨sp,0,none⟩),.int .i64 kind,.int .i64 n] w fun r w' =>
  (∃ v s',r = .returned (.int .i64 v) ∧ (0 ≤ v ∧ v < n) ∧ Dv s kind n v s' ∧ ok j s' ∧ Own w0 w' (A s' ++ Z)) ∨ (∃ ch s',r = .panicked ch ∧ Dp s kind n r s' ∧ ok j s' ∧ Own w0 w' (A s' ++ Z))
def srcD (sp k:Nat):Drw sp where
 T:=Src
 A S:=[SrcA sp k S .nilFunc]
 ok j S:=S.ok ∧ S.fits k ∧ S.many < 9223372036854775808 ∧ S.taken.length ≤ S.many ∧ S.taken.length + j ≤ 1000001
 less:=fun j S h=>⟨h.1,h.2.1,h.2.2.1,h.2.2.2.1,by have:=h.2.2.2.2;omega⟩
 Dv S kind n v S':=S.taken.length < S.many ∧ ∃ u:Nat,v = (u:Int) ∧ drawAt S S.taken.length kind (cnt n) = some u ∧ S' = S.take kind u
 Dp S kind n r S':=S' = S ∧ ((S.taken.length = S.many ∧ r = dry) ∨ (S.taken.length < S.many ∧ drawAt S S.taken.length kind (cnt n) = none ∧ r = strayed S.taken.length kind (cnt n) (S.tape.getD S.taken.length (0,0))))
 hd:=by
  intro w0 w S kind n Z j hok hn h
  obtain ⟨h1,h2,h3,h4,h5⟩:=hok
  refine (sdraw_any (R:=Z) h h1 h2 h3 h4 (by omega) kind n hn.2).mono (fun r w' hh=>?_)
  obtain ⟨S',hs,ho⟩:=hh
  rcases hs with ⟨a,rfl,rfl⟩ | ⟨a,b,rfl,rfl⟩ | ⟨a,v,b,rfl,rfl⟩
  ·exact .inr ⟨_,S',rfl,⟨rfl,.inl ⟨a,rfl⟩⟩,⟨h1,h2,h3,h4,by omega⟩,ho⟩
  ·exact .inr ⟨_,S',rfl,⟨rfl,.inr ⟨a,b,rfl⟩⟩,⟨h1,h2,h3,h4,by omega⟩,ho⟩
  ·have hl:=drawAt_lt (cnt_pos n) b
   have hc:(cnt n:Int) = n:=by have:=cnt_eq n;omega
   exact .inl ⟨(v:Int),S.take kind v,rfl,⟨by omega,by omega⟩,⟨a,v,rfl,b,rfl⟩,⟨h1,h2,h3,by show (S.taken ++ [(kind,v)]).length ≤ S.many;rw [List.length_append,List.length_singleton];omega,by show (S.taken ++ [(kind,v)]).length + j ≤ _;rw [List.length_append,List.length_singleton];omega⟩,ho⟩
structure Ev where
 kind:Int
 M:Int
 G:Int
 rd:List Int
def Sd.ins (X:Sd) (m:Nat):In4:=(X.W.ins (X.m m).G.toNat).getD (0,0,0,0)
def asks2 (X:Sd) (m:Nat):Option (Int × Int) :=
 if m = X.ms.length then none
 else if (X.m m).P = -1 then none
 else if (X.m m).G = -1 then
  if 0 < (X.m m).L ∧ (X.p (X.m m).P.toNat).q.nx.isSome then none
  else if asksV X (X.m m).P.toNat then some (2,(X.ps.length:Int)) else none
 else if X.W.lets (X.m m).G ∧ 1 ≤ askN X.W (X.ins m) then some (askK (X.ins m),(askN X.W (X.ins m):Int)) else none
def pickedM (X:Sd) (m:Nat) (d:Int):Sd × Ev :=
 if m = X.ms.length then ((clockM X).1,⟨1,-1,-1,(clockM X).2⟩)
 else if (X.m m).P = -1 then ((holdM X m).1,⟨(holdM X m).2,(m:Int),-1,[]⟩)
 else if (X.m m).G = -1 then ((lookM X m d.toNat).1,⟨(lookM X m d.toNat).2.1,(m:Int),(lookM X m d.toNat).2.2,[]⟩)
 else ((runM X m d).1,⟨7,(m:Int),(X.m m).G,(runM X m d).2⟩)
def stepM (X:Sd) (m:Nat) (d:Int):Sd × Ev:=({ (pickedM X m d).1 with st:=X.st + 1 },(pickedM X m d).2)
structure Qs (X Y:Sd):Prop where
 W:Y.W = X.W
 ms:Y.ms = X.ms
 sl:Y.sl = X.sl
 st:Y.st = X.st
 len:Y.ps.length = X.ps.length
 p:∀ j,(Y.p j).by_ = (X.p j).by_ ∧ (Y.p j).N = (X.p j).N ∧ (Y.p j).tu = (X.p j).tu
 ll:(∀ j,(X.p j).q.l.length ≤ (X.p j).N) → ∀ j,(Y.p j).q.l.length ≤ (Y.p j).N
theorem Qs.refl (X:Sd):Qs X X:=⟨rfl,rfl,rfl,rfl,rfl,fun _=>⟨rfl,rfl,rfl⟩,fun h=>h⟩
theorem Qs.trans {X Y Z:Sd} (h:Qs X Y) (k:Qs Y Z):Qs X Z :=
 ⟨k.W.trans h.W,k.ms.trans h.ms,k.sl.trans h.sl,k.st.trans h.st,k.len.trans h.len,fun j=>⟨(k.p j).1.trans (h.p j).1,(k.p j).2.1.trans (h.p j).2.1,(k.p j).2.2.trans (h.p j).2.2⟩,fun hh=>k.ll (h.ll hh)⟩
theorem Qs.setq {X Y:Sd} {i:Nat} (hi:i < X.ps.length) (q:LQ) (hq:(X.p i).q.l.length ≤ (X.p i).N → q.l.length ≤ (X.p i).N) (hps:Y.ps = X.ps.set i { X.p i with q:=q }) (hW:Y.W = X.W) (hms:Y.ms = X.ms) (hsl:Y.sl = X.sl) (hst:Y.st = X.st):Qs X Y:=by
 have e:∀ j,Y.p j = if i = j then { X.p i with q:=q } else X.p j:=fun j=>by
  have:=setP_p hi { X.p i with q:=q } j
  unfold Sd.p at this ⊢
  rw [hps];exact this
 refine ⟨hW,hms,hsl,hst,by rw [hps];simp,fun j=>?_,fun h j=>?_⟩
 ·rw [e];split
  ·rename_i e2;subst e2;exact ⟨rfl,rfl,rfl⟩
  ·exact ⟨rfl,rfl,rfl⟩
 ·rw [e];split
  ·rename_i e2;subst e2;exact hq (h i)
  ·exact h j
theorem mTurn_ll (N:Nat) (q:LQ) (gl:List Int) (h:q.l.length ≤ N):(mTurn N q gl).1.l.length ≤ N:=by
 unfold mTurn
 split
 ·exact h
 ·exact mPut_ll N ⟨none,q.l⟩ _ gl h
theorem mGet_ll (N:Nat) (q:LQ) (h:q.l.length ≤ N):(mGet q).1.l.length ≤ N:=by
 unfold mGet
 split
 ·exact h
 ·split
  ·exact h
  ·rename_i e;rw [e] at h;simp at h;simp;omega
theorem mFetch_ll (N:Nat) (q:LQ) (gl:List Int) (k:Int) (h:q.l.length ≤ N):(mFetch N q gl k).1.l.length ≤ N:=by
 unfold mFetch
 split
 ·exact h
 ·rename_i x t
  simp only [List.length_append,List.length_tail,List.length_take]
  have:mShare N q (x :: t) k ≤ N - q.l.length + 1:=by unfold mShare;omega
  omega
theorem mSteal_ll (N:Nat) (q f:LQ) (h:q.l.length ≤ N):(mSteal N q f).1.l.length ≤ N:=by
 unfold mSteal
 split
 ·exact h
 ·simp only [List.length_append,List.length_tail,List.length_take];omega
theorem mSteal_ll2 (N:Nat) (q f:LQ):(mSteal N q f).2.1.l.length ≤ f.l.length:=by
 unfold mSteal
 split
 ·simp
 ·simp only [List.length_drop];omega
theorem qs_turn {X:Sd} {i:Nat} (hi:i < X.ps.length):Qs X (turnM X i):=Qs.setq hi _ (mTurn_ll _ _ _) rfl rfl rfl rfl rfl
theorem qs_near {X:Sd} {i:Nat} (hi:i < X.ps.length):Qs X (nearM X i).1:=by
 unfold nearM
 split
 ·exact ⟨rfl,rfl,rfl,rfl,rfl,fun _=>⟨rfl,rfl,rfl⟩,fun h=>h⟩
 ·split
  ·exact Qs.setq hi _ (mGet_ll _ _) rfl rfl rfl rfl rfl
  ·exact Qs.setq hi _ (mFetch_ll _ _ _ _) rfl rfl rfl rfl rfl
theorem qs_ready1 {X:Sd} {i:Nat} (hi:i < X.ps.length) (g:Int):Qs X { X.setP i { X.p i with q:=(mReady (X.p i).N (X.p i).q g X.gl).1 } with gl:=(mReady (X.p i).N (X.p i).q g X.gl).2.1 } :=
 Qs.setq hi (mReady (X.p i).N (X.p i).q g X.gl).1 (fun h=>mTurn_ll _ _ X.gl h) rfl rfl rfl rfl rfl
theorem qs_ready:∀ (l:List Int) (X:Sd) (i:Nat),i < X.ps.length → Qs X (readyA X i l) ∧ (readyA X i l).all.Perm (l ++ X.all)
 | [],X,i,hi=>⟨Qs.refl X,List.Perm.refl _⟩
 | g :: t,X,i,hi=>by
  have h1:=qs_ready1 hi g
  obtain ⟨h2,h3⟩:=qs_ready t _ i (by rw [h1.len];exact hi)
  refine ⟨h1.trans h2,h3.trans ?_⟩
  obtain ⟨R,k1,k2⟩:=all_p hi
  have hp:=k2 { X.setP i { X.p i with q:=(mReady (X.p i).N (X.p i).q g X.gl).1 } with gl:=(mReady (X.p i).N (X.p i).q g X.gl).2.1 } _ rfl rfl
  obtain ⟨m1,m2⟩:=mTurn_perm (X.p i).N (X.p i).q X.gl
  rw [m2] at m1
  have m3:((mTurn (X.p i).N (X.p i).q X.gl).2.1 ++ (mTurn (X.p i).N (X.p i).q X.gl).1.l).Perm (X.gl ++ (X.p i).l):=by simpa [Pm.l] using m1
  have m4:(g :: ((mTurn (X.p i).N (X.p i).q X.gl).2.1 ++ ((mTurn (X.p i).N (X.p i).q X.gl).1.l ++ R))).Perm (g :: X.all):=by
   refine List.Perm.cons g ?_
   refine List.Perm.trans ?_ k1.symm
   rw [← List.append_assoc,← List.append_assoc]
   exact m3.append_right R
  have m5:({ X.setP i { X.p i with q:=(mReady (X.p i).N (X.p i).q g X.gl).1 } with gl:=(mReady (X.p i).N (X.p i).q g X.gl).2.1 }:Sd).all.Perm (g :: X.all):=by
   refine hp.trans (List.Perm.trans ?_ m4)
   show ((mTurn (X.p i).N (X.p i).q X.gl).2.1 ++ (((some g).toList ++ (mTurn (X.p i).N (X.p i).q X.gl).1.l) ++ R)).Perm _
   simp only [Option.toList_some,List.cons_append,List.nil_append]
   exact List.perm_middle
  have m6:=m5.append_left t
  refine m6.trans ?_
  exact List.perm_middle
theorem qs_new {X:Sd} {i v:Nat} (hi:i < X.ps.length) (hv:v < X.ps.length):Qs X (newTurnM X i v).1 ∧
  (((newTurnM X i v).2.1 = 6 ∧ (newTurnM X i v).2.2 = -1 ∧ (newTurnM X i v).1.all.Perm X.all) ∨ ((newTurnM X i v).2.1 ≠ 6 ∧ X.all.Perm ((newTurnM X i v).2.2 :: (newTurnM X i v).1.all))):=by
 have hq1:=qs_turn hi
 have hi1:i < (turnM X i).ps.length:=by rw [hq1.len];exact hi
 have hq2:=qs_near hi1
 have hp1:=turn_perm hi
 have hp2:=near_perm hi1
 have hq12:=hq1.trans hq2
 unfold newTurnM
 simp only
 cases hn:(nearM (turnM X i) i).2 with
 | some g =>
  simp only
  rw [hn] at hp2
  refine ⟨hq12,.inr ⟨by decide,?_⟩⟩
  exact hp1.symm.trans hp2
 | none =>
  simp only
  obtain ⟨e1,e2,e3⟩:=near_none hi hn
  rw [e3]
  split
  ·rename_i hc
   have hvi:i ≠ v:=fun e=>hc.2 e.symm
   have qa:=Qs.setq (Y:=X.setP i { X.p i with q:=(mSteal (X.p i).N (X.p i).q (X.p v).q).1 }) hi _ (mSteal_ll _ _ _) rfl rfl rfl rfl rfl
   have hpv:(X.setP i { X.p i with q:=(mSteal (X.p i).N (X.p i).q (X.p v).q).1 }).p v = X.p v:=by rw [setP_p hi,if_neg hvi]
   have qb:=Qs.setq (X:=X.setP i { X.p i with q:=(mSteal (X.p i).N (X.p i).q (X.p v).q).1 }) (Y:=(X.setP i { X.p i with q:=(mSteal (X.p i).N (X.p i).q (X.p v).q).1 }).setP v { X.p v with q:=(mSteal (X.p i).N (X.p i).q (X.p v).q).2.1 }) (i:=v) (by rw [qa.len];exact hv) ((mSteal (X.p i).N (X.p i).q (X.p v).q).2.1) (fun h=>by
    have:=mSteal_ll2 (X.p i).N (X.p i).q (X.p v).q
    rw [hpv] at h ⊢;omega) (by rw [hpv];rfl) rfl rfl rfl rfl
   have hall:X.all.Perm ((mSteal (X.p i).N (X.p i).q (X.p v).q).2.2.toList ++ ((X.setP i { X.p i with q:=(mSteal (X.p i).N (X.p i).q (X.p v).q).1 }).setP v { X.p v with q:=(mSteal (X.p i).N (X.p i).q (X.p v).q).2.1 }).all):=by
    have hs:=mSteal_perm (X.p i).N (X.p i).q (X.p v).q
    obtain ⟨R,r1,r2⟩:=pick2_perm X.ps i v _ _ (X.p_at hi) (X.p_at hv) hvi
    have a1:=(r1.flatMap_right Pm.l)
    have a2:=((r2 { X.p i with q:=(mSteal (X.p i).N (X.p i).q (X.p v).q).1 } { X.p v with q:=(mSteal (X.p i).N (X.p i).q (X.p v).q).2.1 }).flatMap_right Pm.l)
    simp only [List.flatMap_cons] at a1 a2
    unfold Sd.all
    show (X.gl ++ (X.ps.flatMap Pm.l ++ X.ms.flatMap Mm.l)).Perm (_ ++ (X.gl ++ (((X.ps.set i _).set v _).flatMap Pm.l ++ X.ms.flatMap Mm.l)))
    rw [e2]
    simp only [List.nil_append]
    rw [← List.append_assoc]
    refine List.Perm.append_right _ ?_
    refine a1.trans ?_
    refine List.Perm.trans ?_ (a2.append_left _)
    have hs2:=hs.append_right (R.flatMap Pm.l)
    simpa [Pm.l,List.append_assoc] using hs2
   cases hs:(mSteal (X.p i).N (X.p i).q (X.p v).q).2.2 with
   | some g =>
    rw [hs] at hall
    simp only
    exact ⟨qa.trans qb,.inr ⟨by decide,hall⟩⟩
   | none =>
    rw [hs] at hall
    exact ⟨qa.trans qb,.inl ⟨rfl,rfl,hall.symm⟩⟩
  ·exact ⟨Qs.refl X,.inl ⟨rfl,rfl,List.Perm.refl _⟩⟩
structure SdWF (B:Nat) (X:Sd):Prop where
 wf:WF B X.W
 np:1 ≤ X.ps.length ∧ X.ps.length ≤ 64
 nm:1 ≤ X.ms.length ∧ X.ms.length ≤ 64
 sl:1 ≤ X.sl ∧ X.sl ≤ 1024
 st:X.st ≤ B
 N:∀ j,j < X.ps.length → 1 ≤ (X.p j).N ∧ (X.p j).N ≤ 1024
 ll:∀ j,(X.p j).q.l.length ≤ (X.p j).N
 tu:∀ j,(X.p j).tu ≤ B
 by_:∀ j,-1 ≤ (X.p j).by_ ∧ (X.p j).by_ < (X.ms.length:Int)
 m0:∀ i,(X.m i).P = -1 → (X.m i).G = -1 ∧ (X.m i).L = 0
 m1:∀ i,i < X.ms.length → (X.m i).P ≠ -1 → (0 ≤ (X.m i).P ∧ (X.m i).P < (X.ps.length:Int)) ∧ (X.p (X.m i).P.toNat).by_ = (i:Int)
 mL:∀ i,0 ≤ (X.m i).L ∧ (X.m i).L ≤ 1024 ∧ ((X.m i).G ≠ -1 → 1 ≤ (X.m i).L)
 nd:X.all.Nodup
 mem:∀ h,h ∈ X.all ↔ ∃ k:Nat,h = (k:Int) ∧ (X.W.g k).st = 1
theorem nodup_len:∀ (n:Nat) (l:List Int),l.Nodup → (∀ x ∈ l,0 ≤ x ∧ x < (n:Int)) → l.length ≤ n
 | 0,l,_,h=>by
  cases l with
  | nil=>simp
  | cons x t=>have:=h x (by simp);omega
 | n + 1,l,hn,h=>by
  have h1:=nodup_len n (l.erase (n:Int)) (hn.erase _) (fun x hx=>by
   have hx2:=(List.Nodup.mem_erase_iff hn).1 hx
   have:=h x hx2.2
   omega)
  have h2:l.length ≤ (l.erase (n:Int)).length + 1:=by rw [List.length_erase];split <;> omega
  omega
theorem SdWF.bound {B:Nat} {X:Sd} (h:SdWF B X):X.all.length ≤ 100:=by
 refine Nat.le_trans (nodup_len X.W.gs.length _ h.nd (fun x hx=>?_)) h.wf.g1.2
 obtain ⟨k,rfl,hk⟩:=(h.mem x).1 hx
 refine ⟨by omega,?_⟩
 rcases Nat.lt_or_ge k X.W.gs.length with h1 | h1
 ·omega
 ·rw [g_out (by omega)] at hk;exact absurd hk (by decide)
theorem SdWF.gl {B:Nat} {X:Sd} (h:SdWF B X):X.gl.length ≤ 100:=by
 have:=h.bound
 unfold Sd.all at this
 rw [List.length_append] at this
 omega
theorem SdWF.lets {B:Nat} {X:Sd} (h:SdWF B X) {m:Nat} (hm:m < X.ms.length) (hG:(X.m m).G ≠ -1):∃ k:Nat,(X.m m).G = (k:Int) ∧ (X.W.g k).st = 1 ∧ k < X.W.gs.length:=by
 obtain ⟨R,h1,-⟩:=all_m hm
 have:(X.m m).G ∈ X.all:=h1.mem_iff.2 (by unfold Mm.l;rw [if_neg hG];simp)
 obtain ⟨k,e,hk⟩:=(h.mem _).1 this
 refine ⟨k,e,hk,?_⟩
 rcases Nat.lt_or_ge k X.W.gs.length with h1 | h1
 ·exact h1
 ·rw [g_out (by omega)] at hk;exact absurd hk (by decide)
theorem SdWF.qs {B:Nat} {X Y:Sd} (h:SdWF B X) (q:Qs X Y) (hp:Y.all.Perm X.all):SdWF B Y:=by
 refine ⟨by rw [q.W];exact h.wf,by rw [q.len];exact h.np,by rw [q.ms];exact h.nm,by rw [q.sl];exact h.sl,by rw [q.st];exact h.st,fun j hj=>by rw [(q.p j).2.1];exact h.N j (by rw [← q.len];exact hj),q.ll h.ll,fun j=>by rw [(q.p j).2.2];exact h.tu j,fun j=>by rw [(q.p j).1,q.ms];exact h.by_ j,
  fun i hi=>?_,fun i hi hP=>?_,fun i=>?_,hp.nodup_iff.2 h.nd,fun x=>by rw [hp.mem_iff,q.W];exact h.mem x⟩
 ·unfold Sd.m at *;rw [q.ms] at hi ⊢;exact h.m0 i hi
 ·have e:Y.m i = X.m i:=by unfold Sd.m;rw [q.ms]
  rw [e] at hP ⊢
  rw [q.ms] at hi
  obtain ⟨a,b⟩:=h.m1 i hi hP
  exact ⟨by rw [q.len];exact a,by rw [(q.p _).1];exact b⟩
 ·have e:Y.m i = X.m i:=by unfold Sd.m;rw [q.ms]
  rw [e];exact h.mL i
theorem SdWF.mono {B C:Nat} {X:Sd} (h:SdWF B X) (hb:B ≤ C):SdWF C X :=
 ⟨h.wf.mono hb,h.np,h.nm,h.sl,Nat.le_trans h.st hb,h.N,h.ll,fun j=>Nat.le_trans (h.tu j) hb,h.by_,h.m0,h.m1,h.mL,h.nd,h.mem⟩
theorem SdWF.stp {B:Nat} {X:Sd} (h:SdWF B X) {s:Nat} (hs:s ≤ B):SdWF B { X with st:=s }:=⟨h.wf,h.np,h.nm,h.sl,hs,h.N,h.ll,h.tu,h.by_,h.m0,h.m1,h.mL,h.nd,h.mem⟩
def turnV (x:Sd × Int × Int):Ending:=.returned (.tuple #[.int .i64 x.2.1,.int .i64 x.2.2])
def Fit {sp:Nat} (D:Drw sp) (s:D.T) (asks:Option (Int × Int)) (v:Int) (s':D.T):Prop :=
 (asks = none ∧ v = 0 ∧ s' = s) ∨ ∃ k n,asks = some (k,n) ∧ (0 ≤ v ∧ v < n) ∧ D.Dv s k n v s'
def Drew (w0:World) (b sp:Nat) (L:Sl) (D:Drw sp) (s:D.T) (X:Sd) (R:List Asr) (j:Nat) (asks:Option (Int × Int)) (res:Int → Sd × Ending) (r:Ending) (w':World):Prop :=
 (∃ v s',Fit D s asks v s' ∧ D.ok j s' ∧ r = (res v).2 ∧ SAt w0 w' b sp L (res v).1 (D.A s' ++ R)) ∨
 (∃ ch s' k n,r = .panicked ch ∧ asks = some (k,n) ∧ D.Dp s k n r s' ∧ D.ok j s' ∧ SAt w0 w' b sp L X (D.A s' ++ R))
theorem new_some {X:Sd} {i:Nat} {g:Int} (h:(nearM (turnM X i) i).2 = some g) (v:Nat):newTurnM X i v = ((nearM (turnM X i) i).1,4,g):=by
 unfold newTurnM;simp only;rw [h]
theorem new_one {X:Sd} {i:Nat} (hi:i < X.ps.length) (h:(nearM (turnM X i) i).2 = none) (h1:¬ 1 < X.ps.length) (v:Nat):newTurnM X i v = (X,6,-1):=by
 unfold newTurnM;simp only;rw [h];simp only
 rw [if_neg (fun hc=>h1 hc.1),(near_none hi h).2.2]
theorem new_self {X:Sd} {i:Nat} (hi:i < X.ps.length) (h:(nearM (turnM X i) i).2 = none):newTurnM X i i = (X,6,-1):=by
 unfold newTurnM;simp only;rw [h];simp only
 rw [if_neg (fun hc=>hc.2 rfl),(near_none hi h).2.2]
theorem new_steal {X:Sd} {i v:Nat} (hi:i < X.ps.length) (h:(nearM (turnM X i) i).2 = none) (h1:1 < X.ps.length) (hv:v ≠ i):newTurnM X i v =
  ((X.setP i { X.p i with q:=(mSteal (X.p i).N (X.p i).q (X.p v).q).1 }).setP v { X.p v with q:=(mSteal (X.p i).N (X.p i).q (X.p v).q).2.1 },if (mSteal (X.p i).N (X.p i).q (X.p v).q).2.2.isSome then 5 else 6,((mSteal (X.p i).N (X.p i).q (X.p v).q).2.2).getD (-1)):=by
 unfold newTurnM;simp only;rw [h];simp only
 rw [if_pos ⟨h1,hv⟩,(near_none hi h).2.2]
 cases (mSteal (X.p i).N (X.p i).q (X.p v).q).2.2 with
 | some g=>rfl
 | none=>rfl
theorem sd_steal2 {w0 w:World} {b sp:Nat} {L:Sl} {X:Sd} {R:List Asr} (h:SAt w0 w b sp L X R) {i v p g p' g':Nat} (hi:i < X.ps.length) (hv:v < X.ps.length) (hld:L.ld[i]? = some (p,g)) (hld':L.ld[v]? = some (p',g')) (hn:(nearM (turnM X i) i).2 = none) (h1:1 < X.ps.length) :
  Calls Tryz.prog 92 #[.pointer (some ⟨p,0,none⟩),.pointer (some ⟨p',0,none⟩)] w fun r w'=>∃ x,r = .returned (gotv x) ∧ SAt w0 w' b sp L (newTurnM X i v).1 R ∧ (newTurnM X i v).2 = (if x.isSome then 5 else 6,x.getD (-1)):=by
 by_cases hne:i = v
 ·subst hne
  rw [hld] at hld'
  cases hld'
  refine (lsteal_self w p).mono (fun r w' hh=>⟨none,hh.1,?_,?_⟩)
  ·rw [new_self hi hn,hh.2];exact h
  ·rw [new_self hi hn];rfl
 ·refine (sd_steal h hi hv hne hld hld').mono (fun r w' hh=>⟨_,hh.1,?_,?_⟩)
  ·rw [new_steal hi hn h1 (fun e=>hne e.symm)];exact hh.2
  ·rw [new_steal hi hn h1 (fun e=>hne e.symm)]
theorem newTurn_any {w0 w:World} {b sp:Nat} {L:Sl} {X:Sd} {R:List Asr} {D:Drw sp} {s:D.T} {j:Nat} (h:SAt w0 w b sp L X (D.A s ++ R)) (hok:D.ok (j + 1) s) {i pb off:Nat} (hi:i < X.ps.length) (hpa:L.pa = some ⟨pb,off,none⟩) (hl:X.gl.length ≤ 100000) (hll:(X.p i).q.l.length ≤ 2000) (htu:(X.p i).tu ≤ 1000000) (hn:X.ps.length ≤ 1000) :
  Calls Tryz.prog 71 #[.pointer (some ⟨b,0,none⟩),.pointer (some ⟨pb,off + i * 3,none⟩)] w (Drew w0 b sp L D s X R j (if asksV X i then some (2,(X.ps.length:Int)) else none) (fun v=>((newTurnM X i v.toNat).1,turnV (newTurnM X i v.toNat)))):=by
 obtain ⟨_,_,p,g,-,hld⟩:=h.pa hi
 have hT:=sd_turn h hi hld (by omega)
 have hx0:=(h.proc hi hpa hld).1.1
 have hgl:(turnM X i).gl.length ≤ 1000000:=by
  show (mTurn (X.p i).N (X.p i).q X.gl).2.1.length ≤ _
  unfold mTurn
  split
  ·simp only;omega
  ·rename_i v _
   have:=mPut_len (X.p i).N ⟨none,(X.p i).q.l⟩ v X.gl
   simp only at this;omega
 have hiT:i < (turnM X i).ps.length:=by unfold turnM Sd.setP;simpa using hi
 have htT:((turnM X i).p i).tu ≤ 1000000:=by
  have:=(qs_turn hi).p i
  rw [this.2.2];exact htu
 have HN:=Lib.hid (fun (wx:World) (hx:SAt w0 wx b sp L (turnM X i) (D.A s ++ R))=>near_any hx hiT hpa hgl htT)
 have HT:=Lib.hid (fun (wx:World) (hx:SAt w0 wx b sp L X (D.A s ++ R))=>sd_turn hx hi hld (by omega))
 have HPR:=Lib.hid (fun (wx:World) (hx:SAt w0 wx b sp L X (D.A s ++ R))=>(hx.proc hi hpa hld).1.1)
 have HST:=Lib.hid (fun (wx:World) (R':List Asr) (hx:SAt w0 wx b sp L X R') (v:Nat) (hv:v < X.ps.length) (hnn:(nearM (turnM X i) i).2 = none) (h1:1 < X.ps.length)=>(by
  obtain ⟨pb',off',p',g',e1,e2⟩:=hx.pa hv
  rw [hpa] at e1;cases e1
  exact ⟨p',(hx.proc hv hpa e2).1.1,(hx.proc hi hpa hld).1.1,fun wy hy=>sd_steal2 hy hi hv hld e2 hnn h1⟩:∃ p',wx.cell? ⟨pb,off + v * 3,none⟩ = some (.pointer (some ⟨p',0,none⟩)) ∧ wx.cell? ⟨pb,off + i * 3,none⟩ = some (.pointer (some ⟨p,0,none⟩)) ∧ ∀ wy,SAt w0 wy b sp L X R' →
   Calls Tryz.prog 92 #[.pointer (some ⟨p,0,none⟩),.pointer (some ⟨p',0,none⟩)] wy fun r w'=>∃ x,r = .returned (gotv x) ∧ SAt w0 w' b sp L (newTurnM X i v).1 R' ∧ (newTurnM X i v).2 = (if x.isSome then 5 else 6,x.getD (-1))))
 have HNO:=Lib.hid (fun (hnn:(nearM (turnM X i) i).2 = none)=>(near_none hi hnn).2.2)
 have HONE:=Lib.hid (fun (hnn:(nearM (turnM X i) i).2 = none) (h1:¬ 1 < X.ps.length)=>new_one hi hnn h1 0)
 have HDR:=Lib.hid (fun (wx:World) (n:Int) (hn:1 ≤ n ∧ n < 9223372036854775808) (hx:SAt w0 wx b sp L X (D.A s ++ R))=>(by
  obtain ⟨S,h1,h2⟩:=hx.tail
  rw [List.append_assoc] at h1
  refine (D.hd s 2 n (R ++ S) j hok hn h1).mono (fun r w' hh=>?_)
  rcases hh with ⟨v,s',a1,a2,a3,a4,a5⟩ | ⟨ch,s',a1,a2,a3,a4⟩
  ·exact .inl ⟨v,s',a1,a2,a3,a4,h2 _ _ (by rw [List.append_assoc];exact a5)⟩
  ·exact .inr ⟨ch,s',a1,a2,a3,h2 _ _ (by rw [List.append_assoc];exact a4)⟩:Calls Tryz.prog 42 #[.pointer (some ⟨sp,0,none⟩),.int .i64 2,.int .i64 n] wx fun r w' =>
   (∃ v s',r = .returned (.int .i64 v) ∧ (0 ≤ v ∧ v < n) ∧ D.Dv s 2 n v s' ∧ D.ok j s' ∧ SAt w0 w' b sp L X (D.A s' ++ R)) ∨ (∃ ch s',r = .panicked ch ∧ D.Dp s 2 n r s' ∧ D.ok j s' ∧ SAt w0 w' b sp L X (D.A s' ++ R))))
 have H:=Lib.hid h
 have HOK:=Lib.hid hok
 obtain ⟨NN,hNN⟩:∃ NN,NN = nearM (turnM X i) i:=⟨_,rfl⟩
 have HV:Hid (asksV X i = (NN.2.isNone && decide (1 < X.ps.length))):=Lib.hid (by rw [hNN];rfl)
 have HS:Hid (∀ v g,NN.2 = some g → newTurnM X i v = (NN.1,4,g)):=Lib.hid (fun v g e=>by rw [hNN] at e ⊢;exact new_some e v)
 simp only [← hNN] at HN HST HNO HONE
 obtain ⟨NP,hNP⟩:∃ NP,NP = X.ps.length:=⟨_,rfl⟩
 obtain ⟨C12,c12⟩:=h.c12
 have HC12:Hid (∀ wx,SAt w0 wx b sp L X (D.A s ++ R) → ∃ c,wx.cell? ⟨b,12,none⟩ = some (.slice (some ⟨pb,off,none⟩) NP c)):=Lib.hid (fun wx hx=>by
  obtain ⟨c,hc⟩:=hx.c12
  rw [hpa,← hNP] at hc;exact ⟨c,hc⟩)
 have HC11:Hid (∀ wx R',SAt w0 wx b sp L X R' → wx.cell? ⟨b,11,none⟩ = some (.pointer (some ⟨sp,0,none⟩)) ∧ ∃ c,wx.cell? ⟨b,12,none⟩ = some (.slice (some ⟨pb,off,none⟩) NP c)):=Lib.hid (fun wx R' hx=>by
  obtain ⟨c,hc⟩:=hx.c12
  rw [hpa,← hNP] at hc;exact ⟨hx.c11,c,hc⟩)
 simp only [← hNP] at HST HONE HV hn ⊢
 generalize hak:(if asksV X i then some ((2:Int),(NP:Int)) else none) = ak
 have HAK:=Lib.hid hak
 clear h hok hT hx0 hgl hiT htT hld hpa hl hll htu hi hNN hNP c12 hak
 go_enter Tryz.func71,Tryz.ntmps71
 go_upto_region 1 with fail
 have x0:=HPR.out _ H.out
 refine wp_region_lexK (fun wx=>∃ nq,wx = World.drewN (w) nq) 7 1 (Array.replicate 8 false) #[true,true,true,true,true,true,true,false] (by kernel_rfl) (by kernel_rfl) ?_
 refine wpAnyK_seg 0 7 _ #[true,true,true,true,true,true,true,false] 0 (by kernel_rfl) noPanic_put (drew_q w) (by kernel_rfl) ?_
 simp only [List.take_succ_cons,List.take_zero,List.drop_zero]
 repeat ((first | refine wpSegH_no (by rfl) ?_ | (refine wpSegH_yes (by rfl) ?_;apply Exists.intro;apply And.intro;(· (rintro wx ⟨nq,rfl⟩;go_simp;first | done | with_reducible rfl))));simp only [Act.put,List.setIfInBounds_toArray,List.set_cons_zero,List.set_cons_succ])
 refine wpSegH_nil ?_
 refine wpAnyK_next ?_
 refine wpAnyK_seq 7 (by kernel_rfl) ?_
 simp only [List.drop_succ_cons,List.drop_zero]
 go_wp2_with fail
 refine (HT.out _ (H.out.step (below_dN w _))).mono ?_
 rintro r w1 ⟨rfl,h1⟩
 have H1:=Lib.hid h1
 clear h1 HT H x0
 go_wp2_with fail
 refine NoPanic.normal ?_
 go_wp2_with fail
 refine (HN.out _ H1.out).mono ?_
 rintro r w2 ⟨rfl,h2⟩
 have H2:=Lib.hid h2
 clear h2 HN H1
 obtain ⟨Y,x⟩:=NN
 cases x with
 | some gg =>
  have HR:Hid (Drew w0 b sp L D s X R j ak (fun v=>((newTurnM X i v.toNat).1,turnV (newTurnM X i v.toNat))) (turnV (Y,4,gg)) w2):=Lib.hid (by
   rw [← HAK.out,HV.out]
   simp only [Option.isNone_some,Bool.false_and,Bool.false_eq_true,if_false]
   refine .inl ⟨0,s,.inl ⟨rfl,rfl,rfl⟩,D.less _ _ HOK.out,?_,?_⟩
   ·simp only;rw [HS.out _ _ rfl]
   ·simp only;rw [HS.out _ _ rfl];exact H2.out)
  unfold gotv
  simp only [Option.getD_some,Option.isSome_some]
  clear HPR HST HNO HONE HDR HV HS HC12 HC11 H2
  go_wp2
  go_ret2
  exact HR.out
 | none =>
  have hY:=HNO.out rfl
  simp only at hY
  subst hY
  have HV2:Hid (asksV Y i = decide (1 < NP)):=Lib.hid (by rw [HV.out];simp)
  unfold gotv
  simp only [Option.getD_none,Option.isSome_none]
  obtain ⟨e11,c12,e12⟩:=HC11.out _ _ H2.out
  simp only at H2 HST HONE
  by_cases h1:1 < NP
  ·have hNP:(1:Int) < (NP:Int):=by omega
   have H1:=Lib.hid h1
   clear h1 HS HNO HV HONE
   go_upto_region 6 with fail
   refine wp_region_lexL (fun wx=>∃ nq,wx = World.drewN (w2) nq) 9 2 (Array.replicate 11 false) #[true,true,true,true,true,true,true,true,true,false,false] (by kernel_rfl) (by kernel_rfl) ?_
   refine wpAnyL_seg 0 9 _ #[true,true,true,true,true,true,true,true,true,false,false] 0 (by kernel_rfl)  (drew_q w2) (by kernel_rfl) ?_
   simp only [List.take_succ_cons,List.take_zero,List.drop_zero]
   repeat ((first | refine wpSegH_no (by rfl) ?_ | (refine wpSegH_yes (by rfl) ?_;apply Exists.intro;apply And.intro;(· (rintro wx ⟨nq,rfl⟩;go_simp;first | done | with_reducible rfl))));simp only [Act.put,List.setIfInBounds_toArray,List.set_cons_zero,List.set_cons_succ])
   refine wpSegH_nil ?_
   refine wpAnyL_next ?_
   refine wpAnyL_seq 9 (by kernel_rfl) ?_
   simp only [List.drop_succ_cons,List.drop_zero]
   go_wp2_with fail
   refine (HDR.out _ (NP:Int) (by omega) (H2.out.step (below_dN w2 _))).mono ?_
   rintro r w3 hp
   rcases hp with ⟨v,s',rfl,hv,hdv,hok,h3⟩ | ⟨ch,s',rfl,hdp,hok,h3⟩
   ·obtain ⟨vn,rfl⟩:∃ vn:Nat,v = (vn:Int):=⟨v.toNat,by omega⟩
    have hvl:(vn:Int) < (NP:Int):=hv.2
    have hv0:(0:Int) ≤ (vn:Int):=hv.1
    have HVD:=Lib.hid (And.intro hv (And.intro hdv hok))
    obtain ⟨p',y1,y0,hst⟩:=HST.out _ _ h3 vn (by omega) trivial H1.out
    obtain ⟨-,c13,e13⟩:=HC11.out _ _ h3
    have HS1:=Lib.hid (fun wx (hx:SAt w0 wx b sp L Y (D.A s' ++ R))=>hst wx hx)
    have H3:=Lib.hid h3
    clear hv hdv hok hst h3 HDR HST HPR H2 e11 e12 HC12 HC11
    go_upto_region 7 with fail
    refine wp_region_lexK (fun wx=>∃ nq,wx = World.drewN (w3) nq) 12 6 (Array.replicate 18 false) #[true,true,true,true,true,true,true,true,true,true,true,true,false,false,false,false,false,false] (by kernel_rfl) (by kernel_rfl) ?_
    refine wpAnyK_seg 0 12 _ #[true,true,true,true,true,true,true,true,true,true,true,true,false,false,false,false,false,false] 0 (by kernel_rfl) noPanic_put (drew_q w3) (by kernel_rfl) ?_
    simp only [List.take_succ_cons,List.take_zero,List.drop_zero]
    repeat ((first | refine wpSegH_no (by rfl) ?_ | (refine wpSegH_yes (by rfl) ?_;apply Exists.intro;apply And.intro;(· (rintro wx ⟨nq,rfl⟩;go_simp;first | done | with_reducible rfl))));simp only [Act.put,List.setIfInBounds_toArray,List.set_cons_zero,List.set_cons_succ])
    refine wpSegH_nil ?_
    refine wpAnyK_next ?_
    refine wpAnyK_phase (fun _=>True) 6 0 #[true,true,true,true,true,true,true,true,true,true,true,true,true,true,true,true,true,true] ?_
    refine wpAnyK_one 12 _ #[true,true,true,true,true,true,true,true,true,true,true,true,true,false,false,false,false,false] 5 (by kernel_rfl) (fun K hK=>?_)
    have HKK:=Lib.hid hK
    clear hK
    simp only [List.drop_succ_cons,List.drop_zero]
    refine headH_mk (by rfl) ?_
    go_simp
    refine (HS1.out _ (H3.out.step (below_dN w3 _))).mono ?_
    rintro r w4 ⟨x,rfl,h4,e4⟩
    have HR:Hid (Drew w0 b sp L D s Y R j ak (fun v=>((newTurnM Y i v.toNat).1,turnV (newTurnM Y i v.toNat))) (.returned (.tuple #[.int .i64 (if x.isSome then 5 else 6),.int .i64 (x.getD (-1))])) w4):=Lib.hid (by
     rw [← HAK.out,HV2.out,decide_eq_true H1.out]
     refine .inl ⟨(vn:Int),s',.inr ⟨2,(NP:Int),rfl,HVD.out.1,HVD.out.2.1⟩,HVD.out.2.2,?_,h4⟩
     show _ = turnV (newTurnM Y i vn)
     unfold turnV
     rw [e4])
    clear h4 e4 HS1 H3
    cases x with
    | none =>
     unfold gotv
     simp only [Option.getD_none,Option.isSome_none]
     refine HKK.out _ _ (trivial) ?_
     clear HKK K
     refine wpAnyK_seg 13 5 _ #[true,true,true,true,true,true,true,true,true,true,true,true,true,true,true,true,true,true] 0 (by kernel_rfl) noPanic_put (trivial) (by kernel_rfl) ?_
     simp only [List.take_succ_cons,List.take_zero,List.drop_succ_cons,List.drop_zero]
     repeat ((first | refine wpSegH_no (by rfl) ?_ | (refine wpSegH_yes (by rfl) ?_;apply Exists.intro;apply And.intro;(· (intro wx hS;(try dsimp only at hS);go_simp;first | done | with_reducible rfl))));simp only [Act.put,List.setIfInBounds_toArray,List.set_cons_zero,List.set_cons_succ])
     refine wpSegH_nil ?_
     refine wpAnyK_next ?_
     refine wpAnyK_done (by kernel_rfl) (NoPanic.normal ?_)
     go_wp2
     go_ret2
     exact HR.out
    | some gg =>
     unfold gotv
     simp only [Option.getD_some,Option.isSome_some]
     refine HKK.out _ _ (trivial) ?_
     clear HKK K
     refine wpAnyK_seg 13 5 _ #[true,true,true,true,true,true,true,true,true,true,true,true,true,true,true,true,true,true] 0 (by kernel_rfl) noPanic_put (trivial) (by kernel_rfl) ?_
     simp only [List.take_succ_cons,List.take_zero,List.drop_succ_cons,List.drop_zero]
     repeat ((first | refine wpSegH_no (by rfl) ?_ | (refine wpSegH_yes (by rfl) ?_;apply Exists.intro;apply And.intro;(· (intro wx hS;(try dsimp only at hS);go_simp;first | done | with_reducible rfl))));simp only [Act.put,List.setIfInBounds_toArray,List.set_cons_zero,List.set_cons_succ])
     refine wpSegH_nil ?_
     refine wpAnyK_next ?_
     refine wpAnyK_done (by kernel_rfl) (NoPanic.normal ?_)
     go_wp2
     go_ret2
     exact HR.out
   ·have HR:Hid (Drew w0 b sp L D s Y R j ak (fun v=>((newTurnM Y i v.toNat).1,turnV (newTurnM Y i v.toNat))) (.panicked ch) w3):=Lib.hid (by
     rw [← HAK.out,HV2.out,decide_eq_true H1.out]
     exact .inr ⟨ch,s',2,(NP:Int),rfl,rfl,hdp,hok,h3⟩)
    exact ⟨rfl,HR.out⟩
  ·have hNP:¬ (1:Int) < (NP:Int):=by omega
   have HR:Hid (Drew w0 b sp L D s Y R j ak (fun v=>((newTurnM Y i v.toNat).1,turnV (newTurnM Y i v.toNat))) (turnV (Y,6,-1)) w2):=Lib.hid (by
    rw [← HAK.out,HV2.out,decide_eq_false h1]
    simp only [Bool.false_eq_true,if_false]
    refine .inl ⟨0,s,.inl ⟨rfl,rfl,rfl⟩,D.less _ _ HOK.out,?_,?_⟩
    ·show turnV _ = turnV (newTurnM Y i 0);rw [HONE.out trivial h1]
    ·show SAt w0 w2 b sp L (newTurnM Y i 0).1 _;rw [HONE.out trivial h1];exact H2.out)
   clear h1 HPR HST HNO HONE HDR HV HS HC12 HC11 H2 HV2
   go_wp2
   go_ret2
   exact HR.out
theorem setM_all {X:Sd} {m:Nat} (hm:m < X.ms.length) (M:Mm):∃ R,X.all.Perm ((X.m m).l ++ R) ∧ (X.setM m M).all.Perm (M.l ++ R):=by
 obtain ⟨R,h1,h2⟩:=all_m hm
 exact ⟨R,h1,h2 _ _ rfl rfl rfl⟩
theorem setM_same {X:Sd} {m:Nat} (hm:m < X.ms.length) (M:Mm) (e:M.l = (X.m m).l):(X.setM m M).all.Perm X.all:=by
 obtain ⟨R,h1,h2⟩:=setM_all hm M
 rw [e] at h2;exact h2.trans h1.symm
theorem setP_same {X:Sd} {i:Nat} (hi:i < X.ps.length) (P:Pm) (e:P.l = (X.p i).l):(X.setP i P).all.Perm X.all:=by
 obtain ⟨R,h1,h2⟩:=all_p hi
 have:=h2 (X.setP i P) P rfl rfl
 rw [e] at this;exact this.trans h1.symm
theorem SdWF.hold {B:Nat} {X:Sd} (h:SdWF B X) {m:Nat} (hm:m < X.ms.length) (hP:(X.m m).P = -1):SdWF B (holdM X m).1:=by
 unfold holdM
 split
 ·rename_i i hi
  rw [List.findIdx?_eq_some_iff_getElem] at hi
  obtain ⟨hil,hb,-⟩:=hi
  have hbi:(X.p i).by_ = -1:=by
   have e:=X.p_at hil
   rw [List.getElem?_eq_getElem hil] at e
   simp only [Option.some.injEq] at e
   rw [← e];simpa using hb
  have hml:m < (X.setP i { X.p i with by_:=(m:Int) }).ms.length:=hm
  have hpp:∀ j,((X.setP i { X.p i with by_:=(m:Int) }).setM m { X.m m with P:=(i:Int) }).p j = if i = j then { X.p i with by_:=(m:Int) } else X.p j:=fun j=>setP_p hil _ j
  have hmm:∀ j,((X.setP i { X.p i with by_:=(m:Int) }).setM m { X.m m with P:=(i:Int) }).m j = if m = j then { X.m m with P:=(i:Int) } else X.m j:=fun j=>setM_m hml _ j
  have hall:=(setM_same hml { X.m m with P:=(i:Int) } rfl).trans (setP_same hil { X.p i with by_:=(m:Int) } rfl)
  have hlp:((X.setP i { X.p i with by_:=(m:Int) }).setM m { X.m m with P:=(i:Int) }).ps.length = X.ps.length:=by unfold Sd.setM Sd.setP;simp
  have hlm:((X.setP i { X.p i with by_:=(m:Int) }).setM m { X.m m with P:=(i:Int) }).ms.length = X.ms.length:=by unfold Sd.setM Sd.setP;simp
  refine ⟨h.wf,by rw [hlp];exact h.np,by rw [hlm];exact h.nm,h.sl,h.st,fun j hj=>?_,fun j=>?_,fun j=>?_,fun j=>?_,fun j hj=>?_,fun j hj hne=>?_,fun j=>?_,hall.nodup_iff.2 h.nd,fun x=>hall.mem_iff.trans (h.mem x)⟩
  ·rw [hlp] at hj;rw [hpp];split
   ·exact h.N i hil
   ·exact h.N j hj
  ·rw [hpp];split
   ·exact h.ll i
   ·exact h.ll j
  ·rw [hpp];split
   ·exact h.tu i
   ·exact h.tu j
  ·rw [hpp,hlm];split
   ·simp only;omega
   ·exact h.by_ j
  ·rw [hmm] at hj ⊢
   split at hj
   ·simp only at hj;omega
   ·rename_i e;rw [if_neg e];exact h.m0 j hj
  ·rw [hmm] at hne ⊢
   rw [hlm] at hj
   rw [hpp,hlp]
   split
   ·rename_i e;subst e
    simp only [Int.toNat_natCast]
    exact ⟨by omega,by rw [if_pos trivial]⟩
   ·rename_i e
    rw [if_neg e] at hne
    obtain ⟨a,b⟩:=h.m1 j hj hne
    refine ⟨a,?_⟩
    rw [if_neg (fun e2=>by rw [← e2,hbi] at b;omega)]
    exact b
  ·rw [hmm];split
   ·exact h.mL m
   ·exact h.mL j
 ·exact h
theorem SdWF.at {B:Nat} {X:Sd} (h:SdWF B X) {m:Nat} (hm:m < X.ms.length) (hP:(X.m m).P ≠ -1):∃ i:Nat,(X.m m).P = (i:Int) ∧ i < X.ps.length ∧ (X.p i).by_ = (m:Int):=by
 obtain ⟨a,b⟩:=h.m1 m hm hP
 exact ⟨(X.m m).P.toNat,by omega,by omega,b⟩
theorem SdWF.park {B:Nat} {X:Sd} (h:SdWF B X) {m i:Nat} (hm:m < X.ms.length) (hi:i < X.ps.length) (hP:(X.m m).P = (i:Int)) (hG:(X.m m).G = -1):SdWF B ((X.setP i { X.p i with by_:=-1 }).setM m ⟨-1,-1,0⟩):=by
 have hml:m < (X.setP i { X.p i with by_:=-1 }).ms.length:=hm
 have hpp:∀ j,((X.setP i { X.p i with by_:=-1 }).setM m ⟨-1,-1,0⟩).p j = if i = j then { X.p i with by_:=-1 } else X.p j:=fun j=>setP_p hi _ j
 have hmm:∀ j,((X.setP i { X.p i with by_:=-1 }).setM m ⟨-1,-1,0⟩).m j = if m = j then ⟨-1,-1,0⟩ else X.m j:=fun j=>setM_m hml _ j
 have hall:=(setM_same hml ⟨-1,-1,0⟩ (by
  show Mm.l _ = Mm.l (X.m m)
  unfold Mm.l;rw [hG])).trans (setP_same hi { X.p i with by_:=-1 } rfl)
 have hlp:((X.setP i { X.p i with by_:=-1 }).setM m ⟨-1,-1,0⟩).ps.length = X.ps.length:=by unfold Sd.setM Sd.setP;simp
 have hlm:((X.setP i { X.p i with by_:=-1 }).setM m ⟨-1,-1,0⟩).ms.length = X.ms.length:=by unfold Sd.setM Sd.setP;simp
 have hby:(X.p i).by_ = (m:Int):=by
  obtain ⟨-,b⟩:=h.m1 m hm (by rw [hP];omega)
  rw [hP,Int.toNat_natCast] at b;exact b
 refine ⟨h.wf,by rw [hlp];exact h.np,by rw [hlm];exact h.nm,h.sl,h.st,fun j hj=>?_,fun j=>?_,fun j=>?_,fun j=>?_,fun j hj=>?_,fun j hj hne=>?_,fun j=>?_,hall.nodup_iff.2 h.nd,fun x=>hall.mem_iff.trans (h.mem x)⟩
 ·rw [hlp] at hj;rw [hpp];split
  ·exact h.N i hi
  ·exact h.N j hj
 ·rw [hpp];split
  ·exact h.ll i
  ·exact h.ll j
 ·rw [hpp];split
  ·exact h.tu i
  ·exact h.tu j
 ·rw [hpp,hlm];split
  ·have:=h.nm;simp only;omega
  ·exact h.by_ j
 ·rw [hmm] at hj ⊢
  split
  ·exact ⟨rfl,rfl⟩
  ·rename_i e;rw [if_neg e] at hj;exact h.m0 j hj
 ·rw [hmm] at hne ⊢
  rw [hlm] at hj
  rw [hpp,hlp]
  split
  ·rename_i e;rw [if_pos e] at hne;exact absurd rfl hne
  ·rename_i e
   rw [if_neg e] at hne
   obtain ⟨a,b⟩:=h.m1 j hj hne
   refine ⟨a,?_⟩
   rw [if_neg (fun e2=>by rw [← e2,hby] at b;omega)]
   exact b
 ·rw [hmm];split
  ·exact ⟨by decide,by decide,fun hc=>absurd rfl hc⟩
  ·exact h.mL j
theorem SdWF.look {B:Nat} {X:Sd} (h:SdWF B X) {m v:Nat} (hm:m < X.ms.length) (hP:(X.m m).P ≠ -1) (hG:(X.m m).G = -1) (hv:v < X.ps.length):SdWF (B + 1) (lookM X m v).1:=by
 obtain ⟨i,hi,hil,hby⟩:=h.at hm hP
 unfold lookM
 simp only
 have hi2:(X.m m).P.toNat = i:=by rw [hi,Int.toNat_natCast]
 rw [hi2]
 have hMl:(X.m m).l = []:=by unfold Mm.l;rw [if_pos hG]
 split
 ·rename_i hc
  obtain ⟨g,hg⟩:∃ g,(X.p i).q.nx = some g:=by
   cases e:(X.p i).q.nx with
   | none=>have:=hc.2;rw [e] at this;cases this
   | some g=>exact ⟨g,rfl⟩
  have hget:mGet (X.p i).q = (⟨none,(X.p i).q.l⟩,some g):=by unfold mGet;rw [hg]
  rw [hget]
  simp only [Option.getD_some]
  have hq:=Qs.setq (Y:=X.setP i { X.p i with q:=⟨none,(X.p i).q.l⟩ }) hil ⟨none,(X.p i).q.l⟩ (fun h=>h) rfl rfl rfl rfl rfl
  obtain ⟨R,r1,r2⟩:=all_p hil
  have r3:=r2 (X.setP i { X.p i with q:=⟨none,(X.p i).q.l⟩ }) _ rfl rfl
  have r4:X.all.Perm (g :: (X.setP i { X.p i with q:=⟨none,(X.p i).q.l⟩ }).all):=by
   refine r1.trans ?_
   have e1:(X.p i).l = g :: (X.p i).q.l:=by unfold Pm.l;rw [hg];rfl
   rw [e1]
   refine List.perm_middle.trans (List.Perm.cons g ?_)
   exact r3.symm
  have hml:m < (X.setP i { X.p i with q:=⟨none,(X.p i).q.l⟩ }).ms.length:=hm
  obtain ⟨S,s1,s2⟩:=setM_all hml { X.m m with G:=g }
  have hgr:g ≠ -1:=by
   obtain ⟨k,e,-⟩:=(h.mem g).1 (r4.mem_iff.2 (by simp));omega
  have e3:((X.setP i { X.p i with q:=⟨none,(X.p i).q.l⟩ }).m m).l = []:=hMl
  rw [e3,List.nil_append] at s1
  have hall:((X.setP i { X.p i with q:=⟨none,(X.p i).q.l⟩ }).setM m { X.m m with G:=g }).all.Perm X.all:=by
   refine s2.trans ?_
   have:Mm.l { X.m m with G:=g } = [g]:=by unfold Mm.l;rw [if_neg hgr]
   rw [this]
   exact (List.Perm.cons g s1.symm).trans r4.symm
  have hXm:=setM_all hm { X.m m with G:=g }
  have hpp:∀ j,((X.setP i { X.p i with q:=⟨none,(X.p i).q.l⟩ }).setM m { X.m m with G:=g }).p j = if i = j then { X.p i with q:=⟨none,(X.p i).q.l⟩ } else X.p j:=fun j=>setP_p hil _ j
  have hmm:∀ j,((X.setP i { X.p i with q:=⟨none,(X.p i).q.l⟩ }).setM m { X.m m with G:=g }).m j = if m = j then { X.m m with G:=g } else X.m j:=fun j=>setM_m hml _ j
  have hlp:((X.setP i { X.p i with q:=⟨none,(X.p i).q.l⟩ }).setM m { X.m m with G:=g }).ps.length = X.ps.length:=hq.len
  have hlm:((X.setP i { X.p i with q:=⟨none,(X.p i).q.l⟩ }).setM m { X.m m with G:=g }).ms.length = X.ms.length:=by unfold Sd.setM Sd.setP;simp
  have hb2:B ≤ B + 1:=by omega
  refine ⟨h.wf.mono hb2,by rw [hlp];exact h.np,by rw [hlm];exact h.nm,h.sl,Nat.le_trans h.st hb2,fun j hj=>?_,fun j=>?_,fun j=>?_,fun j=>?_,fun j hj=>?_,fun j hj hne=>?_,fun j=>?_,hall.nodup_iff.2 h.nd,fun x=>hall.mem_iff.trans (h.mem x)⟩
  ·rw [hlp] at hj;rw [hpp];split
   ·exact h.N i hil
   ·exact h.N j hj
  ·rw [hpp];split
   ·exact h.ll i
   ·exact h.ll j
  ·rw [hpp];split
   ·have:=h.tu i;simp only;omega
   ·have:=h.tu j;omega
  ·rw [hpp,hlm];split
   ·exact h.by_ i
   ·exact h.by_ j
  ·rw [hmm] at hj ⊢
   split at hj
   ·exact absurd hj hP
   ·rename_i e;rw [if_neg e];exact h.m0 j hj
  ·rw [hmm] at hne ⊢
   rw [hlm] at hj
   rw [hpp,hlp]
   have key:∀ (a:Nat) (b:Int),(X.p a).by_ = b → (if i = a then ({ X.p i with q:=⟨none,(X.p i).q.l⟩ }:Pm) else X.p a).by_ = b:=fun a b hab=>by
    split
    ·rename_i e;rw [← e] at hab;exact hab
    ·exact hab
   split
   ·rename_i e;subst e
    obtain ⟨a,b⟩:=h.m1 m hm hP
    exact ⟨a,key _ _ b⟩
   ·rename_i e
    rw [if_neg e] at hne
    obtain ⟨a,b⟩:=h.m1 j hj hne
    exact ⟨a,key _ _ b⟩
  ·rw [hmm];split
   ·have:=h.mL m
    exact ⟨this.1,this.2.1,fun _=>by have:=hc.1;simp only;omega⟩
   ·exact h.mL j
 ·obtain ⟨q,hq⟩:=qs_new hil hv
  have hms:(newTurnM X i v).1.ms = X.ms:=q.ms
  have hmX:(newTurnM X i v).1.m m = X.m m:=by unfold Sd.m;rw [hms]
  have hm1:m < (newTurnM X i v).1.ms.length:=by rw [hms];exact hm
  have hi1:i < (newTurnM X i v).1.ps.length:=by rw [q.len];exact hil
  rcases hq with ⟨k1,k2,k3⟩ | ⟨k1,k2⟩
  ·rw [if_pos k1]
   have h1:=h.qs q k3
   exact (h1.park hm1 hi1 (by rw [hmX];exact hi) (by rw [hmX];exact hG)).mono (by omega)
  ·rw [if_neg k1]
   simp only
   generalize (newTurnM X i v).2.2 = g at *
   generalize (newTurnM X i v).1 = Y at *
   have hgr:g ≠ -1:=by
    obtain ⟨k,e,-⟩:=(h.mem g).1 (k2.mem_iff.2 (by simp));omega
   have hml:m < (Y.setP i { Y.p i with tu:=(Y.p i).tu + 1 }).ms.length:=hm1
   obtain ⟨S,s1,s2⟩:=setM_all hml { X.m m with G:=g,L:=Y.sl }
   have e3:((Y.setP i { Y.p i with tu:=(Y.p i).tu + 1 }).m m).l = []:=by
    show Mm.l (Y.m m) = [];rw [hmX];exact hMl
   rw [e3,List.nil_append] at s1
   have hsp:=setP_same hi1 { Y.p i with tu:=(Y.p i).tu + 1 } rfl
   have hall:((Y.setP i { Y.p i with tu:=(Y.p i).tu + 1 }).setM m { X.m m with G:=g,L:=Y.sl }).all.Perm X.all:=by
    refine s2.trans ?_
    have:Mm.l { X.m m with G:=g,L:=Y.sl } = [g]:=by unfold Mm.l;rw [if_neg hgr]
    rw [this]
    exact (List.Perm.cons g (s1.symm.trans hsp)).trans k2.symm
   have hpp:∀ j,((Y.setP i { Y.p i with tu:=(Y.p i).tu + 1 }).setM m { X.m m with G:=g,L:=Y.sl }).p j = if i = j then { Y.p i with tu:=(Y.p i).tu + 1 } else Y.p j:=fun j=>setP_p hi1 _ j
   have hmm:∀ j,((Y.setP i { Y.p i with tu:=(Y.p i).tu + 1 }).setM m { X.m m with G:=g,L:=Y.sl }).m j = if m = j then { X.m m with G:=g,L:=Y.sl } else Y.m j:=fun j=>setM_m hml _ j
   have hlp:((Y.setP i { Y.p i with tu:=(Y.p i).tu + 1 }).setM m { X.m m with G:=g,L:=Y.sl }).ps.length = X.ps.length:=by rw [← q.len];unfold Sd.setM Sd.setP;simp
   have hlm:((Y.setP i { Y.p i with tu:=(Y.p i).tu + 1 }).setM m { X.m m with G:=g,L:=Y.sl }).ms.length = X.ms.length:=by rw [← hms];unfold Sd.setM Sd.setP;simp
   have hYm:∀ j,Y.m j = X.m j:=fun j=>by unfold Sd.m;rw [hms]
   rw [hmX]
   have hW:((Y.setP i { Y.p i with tu:=(Y.p i).tu + 1 }).setM m { X.m m with G:=g,L:=Y.sl }).W = X.W:=q.W
   refine ⟨by rw [hW];exact h.wf.mono (by omega),by rw [hlp];exact h.np,by rw [hlm];exact h.nm,by show 1 ≤ Y.sl ∧ Y.sl ≤ 1024;rw [q.sl];exact h.sl,by show Y.st ≤ B + 1;rw [q.st];have:=h.st;omega,fun j hj=>?_,fun j=>?_,fun j=>?_,fun j=>?_,fun j hj=>?_,fun j hj hne=>?_,fun j=>?_,hall.nodup_iff.2 h.nd,fun x=>by rw [hall.mem_iff,hW];exact h.mem x⟩
   ·rw [hlp] at hj;rw [hpp];split
    ·show 1 ≤ (Y.p i).N ∧ _;rw [(q.p i).2.1];exact h.N i hil
    ·rw [(q.p j).2.1];exact h.N j hj
   ·rw [hpp];split
    ·exact q.ll h.ll i
    ·exact q.ll h.ll j
   ·rw [hpp];split
    ·show (Y.p i).tu + 1 ≤ B + 1;rw [(q.p i).2.2];have:=h.tu i;omega
    ·rw [(q.p j).2.2];have:=h.tu j;omega
   ·rw [hpp,hlm];split
    ·show -1 ≤ (Y.p i).by_ ∧ _;rw [(q.p i).1];exact h.by_ i
    ·rw [(q.p j).1];exact h.by_ j
   ·rw [hmm] at hj ⊢
    split at hj
    ·exact absurd hj hP
    ·rename_i e;rw [if_neg e,hYm];rw [hYm] at hj;exact h.m0 j hj
   ·rw [hmm] at hne ⊢
    rw [hlm] at hj
    rw [hpp,hlp]
    have key:∀ (a:Nat) (b:Int),(X.p a).by_ = b → (if i = a then ({ Y.p i with tu:=(Y.p i).tu + 1 }:Pm) else Y.p a).by_ = b:=fun a b hab=>by
     split
     ·rename_i e;rw [← e] at hab;show (Y.p i).by_ = b;rw [(q.p i).1];exact hab
     ·rw [(q.p a).1];exact hab
    split
    ·rename_i e;subst e
     obtain ⟨a,b⟩:=h.m1 m hm hP
     exact ⟨a,key _ _ b⟩
    ·rename_i e
     rw [if_neg e,hYm] at hne
     rw [hYm]
     obtain ⟨a,b⟩:=h.m1 j hj hne
     exact ⟨a,key _ _ b⟩
   ·rw [hmm];split
    ·have h2:=h.sl
     show 0 ≤ Y.sl ∧ Y.sl ≤ 1024 ∧ (_ → 1 ≤ Y.sl)
     rw [q.sl];exact ⟨by omega,by omega,fun _=>by omega⟩
    ·rw [hYm];exact h.mL j
theorem perm_in2 {a b c:List Int}:(a ++ (b ++ c)).Perm (b ++ (a ++ c)):=by
 rw [← List.append_assoc,← List.append_assoc];exact List.perm_append_comm.append_right c
theorem SdWF.run {B:Nat} {X:Sd} (h:SdWF B X) (hB:B ≤ 80000) {m:Nat} (hm:m < X.ms.length) (hP:(X.m m).P ≠ -1) (hG:(X.m m).G ≠ -1) (hen:X.W.en = 0) (d:Int):SdWF (B + X.W.ks.length + 1) (runM X m d).1:=by
 obtain ⟨i,hi,hil,hby⟩:=h.at hm hP
 obtain ⟨k,hk,hks,hkl⟩:=h.lets hm hG
 have hlets:X.W.lets (k:Int):=⟨hen,by omega,by omega,by simpa using hks⟩
 have hB2:B ≤ B + X.W.ks.length + 1:=by omega
 have hwf:=(h.wf.exec hB (k:Int) d).1
 obtain ⟨rd,hkeep⟩:=rd_exec h.wf hB hlets d
 unfold runM
 simp only
 have hk2:(X.m m).G.toNat = k:=by rw [hk,Int.toNat_natCast]
 have hi2:(X.m m).P.toNat = i:=by rw [hi,Int.toNat_natCast]
 rw [hk2,hi2]
 rw [← hk] at hwf rd hkeep
 obtain ⟨e,he⟩:∃ e,e = execM X.W (X.m m).G d:=⟨_,rfl⟩
 rw [← he] at hwf rd hkeep ⊢
 have hil2:i < ({ X with W:=e.1 }:Sd).ps.length:=hil
 obtain ⟨q,hq⟩:=qs_ready e.2.2 { X with W:=e.1 } i hil2
 have hall0:({ X with W:=e.1 }:Sd).all = X.all:=rfl
 rw [hall0] at hq
 obtain ⟨Y,hY⟩:∃ Y,Y = readyA { X with W:=e.1 } i e.2.2:=⟨_,rfl⟩
 rw [← hY] at q hq ⊢
 have hYW:Y.W = e.1:=q.W
 have hYm:∀ j,Y.m j = X.m j:=fun j=>by unfold Sd.m;rw [q.ms]
 have hYml:Y.ms.length = X.ms.length:=by rw [q.ms]
 have hYpl:Y.ps.length = X.ps.length:=q.len
 have hkin:(k:Int) ∈ X.all:=by
  obtain ⟨R,r1,-⟩:=all_m hm
  exact r1.mem_iff.2 (by unfold Mm.l;rw [if_neg hG,hk];simp)
 have hndY:Y.all.Nodup:=by
  refine hq.nodup_iff.2 ?_
  rw [List.nodup_append]
  refine ⟨rd.nd,h.nd,fun a ha b hb e2=>?_⟩
  subst e2
  obtain ⟨j,rfl,-,c,-⟩:=rd.st a ha
  obtain ⟨j',e3,c'⟩:=(h.mem _).1 hb
  have:j = j':=by omega
  subst this;exact c c'
 have hkn:(k:Int) ∉ e.2.2:=fun hc=>by
  obtain ⟨j,e3,c,-⟩:=rd.st _ hc
  exact c (by omega)
 have hmemY:∀ x,x ∈ Y.all ↔ x = (k:Int) ∨ ∃ j:Nat,x = (j:Int) ∧ j ≠ k ∧ (e.1.g j).st = 1:=fun x=>by
  rw [hq.mem_iff,List.mem_append]
  constructor
  ·rintro (hx | hx)
   ·obtain ⟨j,e3,c,-,c2⟩:=rd.st x hx
    exact .inr ⟨j,e3,c,c2⟩
   ·obtain ⟨j,e3,c⟩:=(h.mem x).1 hx
    by_cases hjk:j = k
    ·exact .inl (by rw [e3,hjk])
    ·by_cases hin:(j:Int) ∈ e.2.2
     ·obtain ⟨j2,e4,c3,-,c4⟩:=rd.st _ hin
      have:j = j2:=by omega
      subst this;exact .inr ⟨j,e3,hjk,c4⟩
     ·exact .inr ⟨j,e3,hjk,(rd.oth j hjk hin).2 c⟩
  ·rintro (hx | ⟨j,e3,c,c2⟩)
   ·exact .inr (by rw [hx];exact hkin)
   ·by_cases hin:(j:Int) ∈ e.2.2
    ·exact .inl (by rw [e3];exact hin)
    ·exact .inr ((h.mem x).2 ⟨j,e3,(rd.oth j c hin).1 c2⟩)
 have base:∀ (M:Mm) (gl':List Int),M.P = (X.m m).P → (0 ≤ M.L ∧ M.L ≤ 1024 ∧ (M.G ≠ -1 → 1 ≤ M.L)) → ({ Y.setM m M with gl:=gl' }:Sd).all.Nodup → (∀ x,x ∈ ({ Y.setM m M with gl:=gl' }:Sd).all ↔ ∃ j:Nat,x = (j:Int) ∧ (e.1.g j).st = 1) → SdWF (B + X.W.ks.length + 1) { Y.setM m M with gl:=gl' }:=fun M gl' eP hL hnd hmem=>by
  have hm1:m < Y.ms.length:=by rw [hYml];exact hm
  have hmm:∀ j,({ Y.setM m M with gl:=gl' }:Sd).m j = if m = j then M else X.m j:=fun j=>by
   have:=setM_m hm1 M j
   rw [hYm] at this;exact this
  have hlm:({ Y.setM m M with gl:=gl' }:Sd).ms.length = X.ms.length:=by rw [← hYml];unfold Sd.setM;simp
  refine ⟨by show WF _ Y.W;rw [hYW];exact hwf,by show 1 ≤ Y.ps.length ∧ Y.ps.length ≤ 64;rw [hYpl];exact h.np,by rw [hlm];exact h.nm,by show 1 ≤ Y.sl ∧ Y.sl ≤ 1024;rw [q.sl];exact h.sl,by show Y.st ≤ _;rw [q.st];show X.st ≤ _;have:=h.st;omega,
   fun j hj=>by show 1 ≤ (Y.p j).N ∧ (Y.p j).N ≤ 1024;rw [(q.p j).2.1];exact h.N j (by rw [← hYpl];exact hj),fun j=>q.ll h.ll j,fun j=>by show (Y.p j).tu ≤ _;rw [(q.p j).2.2];exact Nat.le_trans (h.tu j) hB2,fun j=>by rw [hlm];show -1 ≤ (Y.p j).by_ ∧ (Y.p j).by_ < _;rw [(q.p j).1];exact h.by_ j,
   fun j hj=>?_,fun j hj hne=>?_,fun j=>?_,hnd,fun x=>by rw [hmem];show _ ↔ ∃ k:Nat,x = (k:Int) ∧ (Y.W.g k).st = 1;rw [hYW]⟩
  ·rw [hmm] at hj ⊢
   split at hj
   ·rw [eP] at hj;exact absurd hj hP
   ·rename_i e;rw [if_neg e];exact h.m0 j hj
  ·rw [hmm] at hne ⊢
   rw [hlm] at hj
   have key:∀ (a:Nat),(Y.p a).by_ = (X.p a).by_:=fun a=>(q.p a).1
   split
   ·rename_i e;subst e
    rw [eP]
    obtain ⟨a,b⟩:=h.m1 m hm hP
    exact ⟨by show 0 ≤ (X.m m).P ∧ (X.m m).P < (Y.ps.length:Int);rw [hYpl];exact a,by show (Y.p _).by_ = _;rw [key];exact b⟩
   ·rename_i e
    rw [if_neg e] at hne
    obtain ⟨a,b⟩:=h.m1 j hj hne
    exact ⟨by show 0 ≤ (X.m j).P ∧ (X.m j).P < (Y.ps.length:Int);rw [hYpl];exact a,by show (Y.p _).by_ = _;rw [key];exact b⟩
  ·rw [hmm];split
   ·exact hL
   ·exact h.mL j
 have hmL:=h.mL m
 have hLpos:=hmL.2.2 hG
 have hm1:m < Y.ms.length:=by rw [hYml];exact hm
 rw [hYm]
 split
 ·rename_i hc
  obtain ⟨c1,c2⟩:=hkeep hc.1
  have hsame:(Y.setM m { X.m m with L:=(X.m m).L - 1 }).all.Perm Y.all:=setM_same hm1 _ (by rw [hYm];rfl)
  refine base { X.m m with L:=(X.m m).L - 1 } Y.gl rfl ⟨by have:=hc.2;simp only;omega,by simp only;omega,fun _=>by have:=hc.2;simp only;omega⟩ (hsame.nodup_iff.2 hndY) (fun x=>?_)
  refine hsame.mem_iff.trans ((hmemY x).trans ?_)
  constructor
  ·rintro (rfl | ⟨j,e3,-,c⟩)
   ·exact ⟨k,rfl,c1⟩
   ·exact ⟨j,e3,c⟩
  ·rintro ⟨j,e3,c⟩
   by_cases hjk:j = k
   ·exact .inl (by rw [e3,hjk])
   ·exact .inr ⟨j,e3,hjk,c⟩
 ·obtain ⟨R,r1,r2⟩:=setM_all hm1 { X.m m with G:=-1,L:=(X.m m).L - 1 }
  have eM:(Y.m m).l = [(k:Int)]:=by rw [hYm];unfold Mm.l;rw [if_neg hG,hk]
  have eM2:Mm.l { X.m m with G:=-1,L:=(X.m m).L - 1 } = []:=by unfold Mm.l;rw [if_pos rfl]
  rw [eM] at r1
  rw [eM2,List.nil_append] at r2
  have hperm:Y.all.Perm ((k:Int) :: (Y.setM m { X.m m with G:=-1,L:=(X.m m).L - 1 }).all):=r1.trans (List.Perm.cons _ r2.symm)
  have hnd1:=hperm.nodup_iff.1 hndY
  rw [List.nodup_cons] at hnd1
  have hmem1:∀ x,x ∈ (Y.setM m { X.m m with G:=-1,L:=(X.m m).L - 1 }).all ↔ ∃ j:Nat,x = (j:Int) ∧ j ≠ k ∧ (e.1.g j).st = 1:=fun x=>by
   constructor
   ·intro hx
    rcases (hmemY x).1 (hperm.mem_iff.2 (by simp [hx])) with rfl | hh
    ·exact absurd hx hnd1.1
    ·exact hh
   ·rintro ⟨j,e3,c,c2⟩
    have:=hperm.mem_iff.1 ((hmemY x).2 (.inr ⟨j,e3,c,c2⟩))
    rcases List.mem_cons.1 this with h5 | h5
    ·exact absurd (by omega) c
    ·exact h5
  have hL2:0 ≤ (X.m m).L - 1 ∧ (X.m m).L - 1 ≤ 1024 ∧ ((-1:Int) ≠ -1 → 1 ≤ (X.m m).L - 1):=⟨by omega,by omega,fun hc=>absurd rfl hc⟩
  rw [show (Y.W.g k).st = (e.1.g k).st by rw [hYW]]
  by_cases hst:(e.1.g k).st = 1
  ·rw [if_pos hst,show [(X.m m).G] = [(k:Int)] by rw [hk]]
   have hp2:({ Y.setM m { X.m m with G:=-1,L:=(X.m m).L - 1 } with gl:=Y.gl ++ [(k:Int)] }:Sd).all.Perm ((k:Int) :: (Y.setM m { X.m m with G:=-1,L:=(X.m m).L - 1 }).all):=by
    unfold Sd.all
    show ((Y.gl ++ [(k:Int)]) ++ _).Perm ((k:Int) :: (Y.gl ++ _))
    rw [List.append_assoc]
    exact List.perm_middle
   refine base { X.m m with G:=-1,L:=(X.m m).L - 1 } (Y.gl ++ [(k:Int)]) rfl hL2 (hp2.nodup_iff.2 (List.nodup_cons.2 hnd1)) (fun x=>?_)
   rw [hp2.mem_iff,List.mem_cons,hmem1]
   constructor
   ·rintro (rfl | ⟨j,e3,-,c⟩)
    ·exact ⟨k,rfl,hst⟩
    ·exact ⟨j,e3,c⟩
   ·rintro ⟨j,e3,c⟩
    by_cases hjk:j = k
    ·exact .inl (by rw [e3,hjk])
    ·exact .inr ⟨j,e3,hjk,c⟩
  ·rw [if_neg hst]
   refine base { X.m m with G:=-1,L:=(X.m m).L - 1 } Y.gl rfl hL2 hnd1.2 (fun x=>?_)
   refine (hmem1 x).trans ?_
   constructor
   ·rintro ⟨j,e3,-,c⟩;exact ⟨j,e3,c⟩
   ·rintro ⟨j,e3,c⟩
    exact ⟨j,e3,fun hjk=>hst (by rw [← hjk];exact c),c⟩
theorem SdWF.clock {B:Nat} {X:Sd} (h:SdWF B X):SdWF (B + 1) (clockM X).1:=by
 have tk:=tk_tick h.wf
 have hwf:=h.wf.tick.1
 have hp:(clockM X).1.all.Perm ((tickM X.W).2 ++ X.all):=by
  unfold Sd.all clockM
  show ((X.gl ++ (tickM X.W).2) ++ _).Perm _
  rw [List.append_assoc]
  exact perm_in2
 have hb2:B ≤ B + 1:=by omega
 refine ⟨hwf,h.np,h.nm,h.sl,Nat.le_trans h.st hb2,h.N,h.ll,fun j=>Nat.le_trans (h.tu j) hb2,h.by_,h.m0,h.m1,h.mL,hp.nodup_iff.2 ?_,fun x=>?_⟩
 ·rw [List.nodup_append]
  refine ⟨tk.nd,h.nd,fun a ha b hb e=>?_⟩
  subst e
  obtain ⟨j,rfl,c,-⟩:=tk.st a ha
  obtain ⟨j',e3,c'⟩:=(h.mem _).1 hb
  have:j = j':=by omega
  subst this;exact c c'
 ·rw [hp.mem_iff,List.mem_append]
  show _ ↔ ∃ k:Nat,x = (k:Int) ∧ ((tickM X.W).1.g k).st = 1
  constructor
  ·rintro (hx | hx)
   ·obtain ⟨j,e3,-,c⟩:=tk.st x hx
    exact ⟨j,e3,c⟩
   ·obtain ⟨j,e3,c⟩:=(h.mem x).1 hx
    by_cases hin:(j:Int) ∈ (tickM X.W).2
    ·obtain ⟨j2,e4,-,c4⟩:=tk.st _ hin
     have:j = j2:=by omega
     subst this;exact ⟨j,e3,c4⟩
    ·exact ⟨j,e3,by rw [tk.oth j hin];exact c⟩
  ·rintro ⟨j,e3,c⟩
   by_cases hin:(j:Int) ∈ (tickM X.W).2
   ·exact .inl (by rw [e3];exact hin)
   ·exact .inr ((h.mem x).2 ⟨j,e3,by rw [← tk.oth j hin];exact c⟩)
theorem SdWF.step {B:Nat} {X:Sd} (h:SdWF B X) (hB:B ≤ 80000) {m:Nat} (hm:m ≤ X.ms.length) (hen:X.W.en = 0) {d:Int} (hd:∀ k n,asks2 X m = some (k,n) → 0 ≤ d ∧ d < n):SdWF (B + X.W.ks.length + 1) (stepM X m d).1:=by
 have key:∀ {C:Nat} {Y:Sd},SdWF C Y → C ≤ B + X.W.ks.length + 1 → SdWF (B + X.W.ks.length + 1) { Y with st:=X.st + 1 }:=fun h1 h2=>(h1.mono h2).stp (by have:=h.st;omega)
 unfold stepM pickedM
 split
 ·exact key h.clock (by omega)
 ·rename_i hne
  have hml:m < X.ms.length:=by omega
  split
  ·rename_i hP;exact key (h.hold hml hP) (by omega)
  ·rename_i hP
   split
   ·rename_i hG
    obtain ⟨i,hi,hil,-⟩:=h.at hml hP
    by_cases ha:∃ k n,asks2 X m = some (k,n)
    ·obtain ⟨k,n,ha⟩:=ha
     have hd2:=hd k n ha
     unfold asks2 at ha
     rw [if_neg hne,if_neg hP,if_pos hG] at ha
     split at ha
     ·cases ha
     ·split at ha
      ·cases ha
       exact key (h.look hml hP hG (by omega)) (by omega)
      ·cases ha
    ·-- nothing is drawn: whatever d is,it isn't looked at
     have h0:(lookM X m d.toNat) = (lookM X m 0):=by
      have ha2:asks2 X m = none:=by
       cases e:asks2 X m with
       | none=>rfl
       | some kn=>exact absurd ⟨kn.1,kn.2,e⟩ ha
      unfold asks2 at ha2
      rw [if_neg hne,if_neg hP,if_pos hG] at ha2
      unfold lookM
      simp only
      split at ha2
      ·rename_i hc;rw [if_pos hc,if_pos hc]
      ·rename_i hc
       rw [if_neg hc,if_neg hc]
       split at ha2
       ·cases ha2
       ·rename_i hv
        have:newTurnM X (X.m m).P.toNat d.toNat = newTurnM X (X.m m).P.toNat 0:=by
         unfold newTurnM
         simp only
         unfold asksV at hv
         cases hn:(nearM (turnM X (X.m m).P.toNat) (X.m m).P.toNat).2 with
         | some g=>rfl
         | none =>
          rw [hn] at hv
          simp only [Option.isNone_none,Bool.true_and,decide_eq_true_eq] at hv
          simp only
          rw [if_neg (fun hh=>hv hh.1),if_neg (fun hh=>hv hh.1)]
        rw [this]
     rw [h0]
     exact key (h.look hml hP hG (by have:=h.np;omega)) (by omega)
   ·rename_i hG
    exact key (h.run hB hml hP hG hen d) (by omega)
def newSd (W:Wd) (np nm:Nat) (ring sl:Int):Sd :=
 { W:=W,ps:=List.replicate np ⟨roomOf ring,⟨none,[]⟩,0,-1⟩,ms:=List.replicate nm ⟨-1,-1,0⟩,gl:=[0],sl:=sl,st:=0 }
theorem getD_rep {α:Type} (n:Nat) (a d:α) (i:Nat):(List.replicate n a).getD i d = if i < n then a else d:=by
 rw [List.getD_eq_getElem?_getD,List.getElem?_replicate];split <;> rfl
theorem newSd_wf {fs:List (List In4)} {ks:List Cs3} {rooms:List Int} {locks:Nat} (hp:PW fs ks rooms.length locks) {np nm:Nat} {ring sl:Int} (h1:1 ≤ np ∧ np ≤ 64) (h2:1 ≤ nm ∧ nm ≤ 64) (h3:1 ≤ sl ∧ sl ≤ 1024):SdWF 0 (newSd (newM fs ks rooms locks) np nm ring sl):=by
 have ep:∀ j,(newSd (newM fs ks rooms locks) np nm ring sl).p j = if j < np then ⟨roomOf ring,⟨none,[]⟩,0,-1⟩ else default:=fun j=>getD_rep _ _ _ _
 have em:∀ j,(newSd (newM fs ks rooms locks) np nm ring sl).m j = ⟨-1,-1,0⟩:=fun j=>by
  show (List.replicate nm _).getD j _ = _
  rw [getD_rep];split <;> rfl
 have hall:(newSd (newM fs ks rooms locks) np nm ring sl).all = [0]:=by
  unfold Sd.all newSd
  have e1:(List.replicate np (⟨roomOf ring,⟨none,[]⟩,0,-1⟩:Pm)).flatMap Pm.l = []:=by
   rw [List.flatMap_eq_nil_iff];intro x hx;rw [(List.mem_replicate.1 hx).2];rfl
  have e2:(List.replicate nm (⟨-1,-1,0⟩:Mm)).flatMap Mm.l = []:=by
   rw [List.flatMap_eq_nil_iff];intro x hx;rw [(List.mem_replicate.1 hx).2];rfl
  simp only
  rw [e1,e2];rfl
 have hr:=roomOf_le ring
 refine ⟨newM_wf hp,by simpa [newSd] using h1,by simpa [newSd] using h2,h3,by simp [newSd],fun j hj=>?_,fun j=>?_,fun j=>?_,fun j=>?_,fun j _=>by rw [em];exact ⟨rfl,rfl⟩,fun j _ hne=>by rw [em] at hne;exact absurd rfl hne,fun j=>by rw [em];exact ⟨by decide,by decide,fun hc=>absurd rfl hc⟩,by rw [hall];simp,fun x=>?_⟩
 ·have hj':j < np:=by simpa [newSd] using hj
  rw [ep,if_pos hj'];exact hr
 ·rw [ep];split <;> simp [default]
 ·rw [ep];split <;> simp [default]
 ·rw [ep]
  have:1 ≤ (newSd (newM fs ks rooms locks) np nm ring sl).ms.length:=by simp [newSd];omega
  split
  ·simp only;omega
  ·show -1 ≤ (-1:Int) ∧ (-1:Int) < _;omega
 ·rw [hall,List.mem_singleton]
  show _ ↔ ∃ k:Nat,x = (k:Int) ∧ ((newM fs ks rooms locks).g k).st = 1
  constructor
  ·rintro rfl;exact ⟨0,rfl,rfl⟩
  ·rintro ⟨k,rfl,hk⟩
   cases k with
   | zero=>rfl
   | succ k=>rw [g_out (by show ¬ k + 1 < 1;omega)] at hk;exact absurd hk (by decide)
end Go.Proofs.YtodjgipiomnnfaaGreat
