/-
  Texts put together: SdRunW, SdHold, SdPick, EnM, SdStepW, SdGets, SdChk, WGrd1, WGrd2, TopRun, SdNewW, SdPan, TopRun2, CrcNums, Seg, WPut, WGet, WCrc1.
-/
import Derived.Test.YtphfaekpckbepaaGreatMp7
import Derived.Test.YtphfaekpckbepaaGreatMp6
import Derived.Recover
import Derived.Tactics
import Derived.Tactics2
import Derived.Deep.CutBlock
import Derived.WalkKit
import Derived.Test.YtphfaekpckbepaaGreatRows
import Derived.Test.YtphfaekpckbepaaGreatMp1
import Derived.ProofKit
import Derived.WalkSpells
import Derived.WalkLawsBesides
import Derived.IntWalk
import Derived.Lib.Hide
import Derived.LoopTactic
import Derived.Deep.RegionWith
import Derived.Lib.BitFns
import Derived.Deep.MidRow
import Derived.Deep.QuietTactic
import Derived.BigQuiet
set_option maxRecDepth 100000
set_option maxHeartbeats 16000000
set_option linter.unusedSimpArgs false
set_option linter.unusedVariables false
open Go Go.RowKit
set_option linter.unusedVariables false
namespace Go.Proofs.YtphfaekpckbepaaGreat
theorem readyA_snoc:∀ (l:List Int) (X:Sd) (i:Nat) (g:Int),readyA X i (l ++ [g]) = { (readyA X i l).setP i { (readyA X i l).p i with q:=(mReady ((readyA X i l).p i).N ((readyA X i l).p i).q g (readyA X i l).gl).1 } with gl:=(mReady ((readyA X i l).p i).N ((readyA X i l).p i).q g (readyA X i l).gl).2.1 }
 | [],X,i,g=>rfl
 | h :: t,X,i,g=>by
  rw [List.cons_append]
  exact readyA_snoc t _ i g
section
variable {w0 w:World} {b sp:Nat} {L:Sl} {X:Sd} {R:List Asr}
theorem SAt.perm {R':List Asr} (h:SAt w0 w b sp L X R) (hp:R.Perm R'):SAt w0 w b sp L X R':=by
 obtain ⟨S,h1,h2⟩:=h.tail
 exact h2 _ _ (h1.perm (hp.append_right S))
theorem SAt.box (h:SAt w0 w b sp L X R) (l:List Value) (t:TypeId):SAt w0 (w.alloc (.cells l.toArray t)) b sp L X (CelA w.heap.size l :: R):=by
 obtain ⟨S,h1,h2⟩:=h.tail
 exact h2 _ _ (h1.alloc l t rfl)
theorem SAt.cel {q:Nat} {cs:List Value} (h:SAt w0 w b sp L X (CelA q cs :: R)) (k:Nat) (v:Value) (hk:cs[k]? = some v):w.cell? ⟨q,k,none⟩ = some v ∧ w.frozen? ⟨q,k,none⟩ = false:=by
 obtain ⟨S,h1,h2⟩:=h.tail
 exact Own.cel h1 0 rfl k v hk
theorem SAt.setBox {q:Nat} {cs:List Value} (h:SAt w0 w b sp L X (CelA q cs :: R)) (k:Nat) (v:Value):SAt w0 (w.setCell ⟨q,k,none⟩ v) b sp L X (CelA q (cs.set k v) :: R):=by
 obtain ⟨S,h1,h2⟩:=h.tail
 exact h2 _ _ (Own.set h1 k v)
theorem SAt.row {a:Option Addr} {cap n:Nat} {cs:List Value} {A:Asr} (h:SAt w0 w b sp L X (A :: RowGA 1 a cap n cs :: R)):RowG 1 w a cap n cs:=by
 obtain ⟨S,h1,h2⟩:=h.tail
 exact Own.rowG h1 1 rfl
end
def RunP (w0:World) (b sp:Nat) (L:Sl) (D:Drw sp) (s:D.T) (X:Sd) (R:List Asr) (j m k:Nat) (r:Ending) (w':World):Prop :=
 (∃ v s' ra rc,Fit D s (asksE X.W k) v s' ∧ D.ok j s' ∧ r = .returned (.slice ra (runM X m v).2.length rc) ∧ SAt w0 w' b sp L (runM X m v).1 (RowGA 1 ra rc (runM X m v).2.length (intc (runM X m v).2) :: (D.A s' ++ R))) ∨
 (∃ ch s' kd n,r = .panicked ch ∧ asksE X.W k = some (kd,n) ∧ D.Dp s kd n r s' ∧ D.ok j s' ∧ SAt w0 w' b sp L X (D.A s' ++ R))
theorem RunP.dry {w0:World} {b sp:Nat} {L:Sl} {D:Drw sp} {s:D.T} {X:Sd} {R:List Asr} {j m k:Nat} {w':World} {ch:List PanicEntry} {s':D.T} {kd n:Int} (h1:asksE X.W k = some (kd,n)) (h2:D.Dp s kd n (.panicked ch) s') (h3:D.ok j s') (h4:SAt w0 w' b sp L X (D.A s' ++ R)):RunP w0 b sp L D s X R j m k (.panicked ch) w':=.inr ⟨ch,s',kd,n,rfl,h1,h2,h3,h4⟩
theorem run_any {w0 w:World} {b sp:Nat} {L:Sl} {X:Sd} {R:List Asr} {D:Drw sp} {s:D.T} {j B:Nat} (h:SAt w0 w b sp L X (D.A s ++ R)) (hok:D.ok (j + 1) s) (wf:SdWF B X) (hB:B ≤ 80000) {m:Nat} (hm:m < X.ms.length) (hP:(X.m m).P ≠ -1) (hG:(X.m m).G ≠ -1) (hen:X.W.en = 0) {k:Nat} (hk:(X.m m).G = (k:Int)) :
  Calls Tryz.prog 48 #[.pointer (some ⟨b,0,none⟩),.int .i64 (m:Int)] w (RunP w0 b sp L D s X R j m k):=by
 obtain ⟨i,hPi,hi,hby⟩:=wf.at hm hP
 obtain ⟨pb,off,p,g,hpa,hld⟩:=h.pa hi
 obtain ⟨mb,off2,hma⟩:=h.ma hm
 obtain ⟨C13,c13⟩:=h.c13
 have c11:=h.c11
 obtain ⟨⟨z0,z1,z2⟩,f0,f1,f2⟩:=h.mach hm hma
 rw [hma] at c13
 rw [hPi] at z0
 rw [hk] at z1
 have hnp:=wf.np
 have hnm:=wf.nm
 have hmL:=wf.mL m
 have hmX:(m:Int) < (X.ms.length:Int):=by omega
 have hm0:(0:Int) ≤ (m:Int):=by omega
 have hiX:(i:Int) < (X.ps.length:Int):=by omega
 have hi0:(0:Int) ≤ (i:Int):=by omega
 have hLp:=hmL.2.2 hG
 obtain ⟨k',hk',hks,hkl⟩:=wf.lets hm hG
 have hkk:k' = k:=by omega
 subst hkk
 have hlets:X.W.lets (k':Int):=⟨hen,by omega,by omega,by simpa using hks⟩
 have HEX:=Lib.hid (fun (wx:World) (hx:SAt w0 wx b sp L X (D.A s ++ R))=>sd_exec hx hok wf.wf hB k')
 have HEX2:=Lib.hid (fun (wx:World) (q:Nat) (hx:SAt w0 wx b sp L X (D.A s ++ (CelA q [.bool false,.slice none 0 0] :: R)))=>sd_exec hx hok wf.wf hB k')
 have HRL:Hid (∀ (v:Int),(execM X.W (k':Int) v).2.2.length ≤ 100):=Lib.hid (fun v=>by
  have hr:=(rd_exec wf.wf hB hlets v).1
  have hw:=(wf.wf.exec hB (k':Int) v).1
  exact Nat.le_trans (nodup_len _ _ hr.nd (fun x hx=>by
   obtain ⟨q,e,-,-,hs⟩:=hr.st x hx
   refine ⟨by omega,?_⟩
   rcases Nat.lt_or_ge q (execM X.W (k':Int) v).1.gs.length with h1 | h1
   ·omega
   ·rw [g_out (by omega)] at hs;exact absurd hs (by decide))) hw.g1.2)
 have HLEN:Hid (∀ (v:Int) (l:List Int),l.length ≤ (execM X.W (k':Int) v).2.2.length → (readyA { X with W:=(execM X.W (k':Int) v).1 } i l).gl.length ≤ 1000):=Lib.hid (fun v l hl=>by
  have hr:=(rd_exec wf.wf hB hlets v).1
  have hw:=(wf.wf.exec hB (k':Int) v).1
  have hb:(execM X.W (k':Int) v).2.2.length ≤ 100:=Nat.le_trans (nodup_len _ _ hr.nd (fun x hx=>by
   obtain ⟨q,e,-,-,hs⟩:=hr.st x hx
   refine ⟨by omega,?_⟩
   rcases Nat.lt_or_ge q (execM X.W (k':Int) v).1.gs.length with h1 | h1
   ·omega
   ·rw [g_out (by omega)] at hs;exact absurd hs (by decide))) hw.g1.2
  have hp:=(qs_ready l { X with W:=(execM X.W (k':Int) v).1 } i hi).2.length_eq
  have h2:({ X with W:=(execM X.W (k':Int) v).1 }:Sd).all.length ≤ 100:=wf.bound
  have h3:(readyA { X with W:=(execM X.W (k':Int) v).1 } i l).gl.length ≤ (readyA { X with W:=(execM X.W (k':Int) v).1 } i l).all.length:=by
   unfold Sd.all;rw [List.length_append];omega
  rw [List.length_append] at hp
  omega)
 have HQ:Hid (∀ (v:Int) (l:List Int),Qs { X with W:=(execM X.W (k':Int) v).1 } (readyA { X with W:=(execM X.W (k':Int) v).1 } i l)):=Lib.hid (fun v l=>(qs_ready l { X with W:=(execM X.W (k':Int) v).1 } i hi).1)
 have HMOD:Hid (∀ v,runM X m v = if (execM X.W (k':Int) v).2.1 = true ∧ 0 < (X.m m).L - 1 then ((readyA { X with W:=(execM X.W (k':Int) v).1 } i (execM X.W (k':Int) v).2.2).setM m { (readyA { X with W:=(execM X.W (k':Int) v).1 } i (execM X.W (k':Int) v).2.2).m m with L:=(X.m m).L - 1 },(execM X.W (k':Int) v).2.2)
   else ({ (readyA { X with W:=(execM X.W (k':Int) v).1 } i (execM X.W (k':Int) v).2.2).setM m { (readyA { X with W:=(execM X.W (k':Int) v).1 } i (execM X.W (k':Int) v).2.2).m m with G:=-1,L:=(X.m m).L - 1 } with gl:=if ((readyA { X with W:=(execM X.W (k':Int) v).1 } i (execM X.W (k':Int) v).2.2).W.g k').st = 1 then (readyA { X with W:=(execM X.W (k':Int) v).1 } i (execM X.W (k':Int) v).2.2).gl ++ [(k':Int)] else (readyA { X with W:=(execM X.W (k':Int) v).1 } i (execM X.W (k':Int) v).2.2).gl },(execM X.W (k':Int) v).2.2)):=Lib.hid (fun v=>by
  unfold runM
  simp only
  have hi2:(X.m m).P.toNat = i:=by rw [hPi,Int.toNat_natCast]
  rw [hi2]
  simp only [hk,Int.toNat_natCast])
 have HST:Hid (∀ v,k' < (execM X.W (k':Int) v).1.gs.length):=Lib.hid (fun v=>by
  have:=(wf.wf.exec hB (k':Int) v).2.gl;omega)
 have H:=Lib.hid h
 have HMM:=Lib.hid hm
 have HMA:=Lib.hid hma
 have HPA:=Lib.hid hpa
 have HLD:=Lib.hid hld
 have HI:=Lib.hid hi
 obtain ⟨LL,hLL⟩:∃ LL,LL = (X.m m).L:=⟨_,rfl⟩
 have HGI:=Lib.hid hk
 have HPI:=Lib.hid hPi
 rw [← hLL] at z2 HMOD hLp
 have hL2:LL ≤ 1024:=by rw [hLL];exact hmL.2.1
 have HLL:=Lib.hid hLL
 clear h hok wf hm hP hG hen hPi hi hby hpa hld hma hnp hnm hmL hk hk' hks hkl hlets hLL
 go_enter Tryz.func48,Tryz.ntmps48
 go_upto_region 2 with fail
 have hmf:∀ (fn:Fn) (first cap:Array Value) (w:World),(Instr.makeFunc fn first cap).run Tryz.prog w = .ok (.func fn first cap) w:=fun _ _ _ _=>rfl
 have HSB:Hid (∀ wx Y Z,SAt w0 wx b sp L Y Z → Y.ms = X.ms → wx.cell? ⟨b,11,none⟩ = some (.pointer (some ⟨sp,0,none⟩)) ∧ wx.cell? ⟨mb,off2 + m * 3 + 1,none⟩ = some (.int .i64 (k':Int))):=Lib.hid (fun wx Y Z hx e=>by
  have e1:Y.m m = X.m m:=by unfold Sd.m;rw [e]
  have h2:=(hx.mach (i:=m) (by rw [e];exact HMM.out) HMA.out).1.2.1
  rw [e1,HGI.out] at h2
  exact ⟨hx.c11,h2⟩)
 clear c11 z0 z1 z2 f0 f1 f2
 refine wp_region_lexP (fun wx=>wx.cell? ⟨b,11,none⟩ = some (.pointer (some ⟨sp,0,none⟩)) ∧ wx.cell? ⟨mb,off2 + m * 3 + 1,none⟩ = some (.int .i64 (k':Int))) 15 (Array.replicate 15 false) (by kernel_rfl) (by kernel_rfl) ?_
 have h1:=H.out.step (below_drew1 w)
 generalize w.drew = w1 at *
 refine wpAnyH_seg 0 12 _ #[true,true,true,true,true,true,true,true,true,true,true,true,false,false,false] 3 (by kernel_rfl) body_put (HSB.out _ _ _ h1 rfl) (by kernel_rfl) ?_
 simp only [List.take_succ_cons,List.take_zero,List.drop_zero]
 repeat ((first | refine wpSegH_no (by rfl) ?_ | (refine wpSegH_yes (by rfl) ?_;apply Exists.intro;apply And.intro;(· (intro wx hS;(try dsimp only at hS);go_simp;first | done | with_reducible rfl))));simp only [Act.put,List.setIfInBounds_toArray,List.set_cons_zero,List.set_cons_succ])
 refine wpSegH_nil ?_
 refine wpAnyH_two 12 13 _ #[true,true,true,true,true,true,true,true,true,true,true,true,true,false,false] #[true,true,true,true,true,true,true,true,true,true,true,true,false,true,false] 2 (by kernel_rfl) (fun K hK=>?_) (fun K hK=>?_)
 ·skip
  have HKK:=Lib.hid hK
  clear hK
  simp only [List.drop_succ_cons,List.drop_zero]
  refine headH_mk (by rfl) ?_
  go_simp
  refine (HEX.out _ h1).mono ?_
  intro r w2 hp
  rcases hp with ⟨v,s',ra,rc,hfit,hok',rfl,h2⟩ | ⟨ch,s',kd,n,rfl,hak,hdp,hok',h2⟩
  ·skip
   have HFIT:=Lib.hid (And.intro hfit hok')
   have HLEN2:=Lib.hid (HLEN.out v)
   have HQ2:=Lib.hid (HQ.out v)
   have HMOD2:=Lib.hid (HMOD.out v)
   have HST2:=Lib.hid (HST.out v)
   have hrl:=HRL.out v
   clear hfit hok' HLEN HQ HMOD HST HEX HEX2 HRL
   generalize execM X.W (k':Int) v = E at *
   obtain ⟨W1,kp,rd⟩:=E
   simp only at h2 HLEN2 HQ2 HMOD2 HST2 hrl ⊢
   obtain ⟨X1,hX1⟩:∃ X1:Sd,X1 = { X with W:=W1 }:=⟨_,rfl⟩
   rw [← hX1] at h2 HLEN2 HQ2 HMOD2
   have HX1:Hid (X1.ms = X.ms ∧ X1.ps = X.ps ∧ X1.W = W1):=Lib.hid (by rw [hX1];exact ⟨rfl,rfl,rfl⟩)
   clear hX1
   obtain ⟨N,hN⟩:∃ N,N = rd.length:=⟨_,rfl⟩
   rw [← hN] at h2 hrl ⊢
   have HN:=Lib.hid hN
   clear hN
   have e1:=HSB.out _ _ _ h2 HX1.out.1
   refine HKK.out _ _ (e1) ?_
   clear HKK K
   have h3:=h2.box [.bool false,.slice none 0 0] 156
   have e2:=HSB.out _ _ _ h3 HX1.out.1
   refine wpAnyH_one 13 _ #[true,true,true,true,true,true,true,true,true,true,true,true,true,true,false] 1 (by kernel_rfl) (fun K hK=>?_)
   have HKK:=Lib.hid hK
   clear hK
   simp only [List.drop_succ_cons,List.drop_zero]
   refine headH_mk (by rfl) ?_
   go_simp
   refine HKK.out _ _ (e2) ?_
   clear HKK K
   generalize w2.alloc (.cells #[.bool false,.slice none 0 0] 156) = w3 at *
   generalize w2.heap.size = qb at *
   obtain ⟨x0,y0⟩:=h3.cel 0 _ rfl
   obtain ⟨x1,y1⟩:=h3.cel 1 _ rfl
   have h4:=(h3.setBox 0 (.bool kp)).setBox 1 (.slice ra N rc)
   have e3:=HSB.out _ _ _ h4 HX1.out.1
   refine wpAnyH_one 14 _ #[true,true,true,true,true,true,true,true,true,true,true,true,true,true,true] 0 (by kernel_rfl) (fun K hK=>?_)
   have HKK:=Lib.hid hK
   clear hK
   simp only [List.drop_succ_cons,List.drop_zero]
   refine headH_mk (by rfl) ?_
   go_simp
   refine HKK.out _ _ (e3) ?_
   clear HKK K
   refine wpAnyH_done (by kernel_rfl) (?_) _
   have HS:=Lib.hid h4
   clear h2 h3 h4 e1 e2 x0 y0 x1 y1 H
   generalize (w3.setCell ⟨qb,0,none⟩ (.bool kp)).setCell ⟨qb,1,none⟩ (.slice ra N rc) = w4 at *
   obtain ⟨c11,z1⟩:=e3
   have c1:=(HS.out.cel 1 _ rfl).1
   clear c11 z1
   go_wp2_with fail
   go_loopw [31] (fun iv wr=>∃ i2:Nat,i2 ≤ N ∧ iv = .int .i64 i2 ∧ Hid (SAt w0 wr b sp L (readyA X1 i (rd.take i2)) (CelA qb [.bool kp,.slice ra N rc] :: RowGA 1 ra rc N (intc rd) :: (D.A s' ++ R)))) (fun iv _=>N - (intOf iv).toNat)
   case atStart=>exact ⟨0,by omega,rfl,HS⟩
   case round =>
    obtain ⟨i2,hi2,rfl,hr⟩:=hrel
    clear HS c1
    have q:=HQ2.out (rd.take i2)
    have hms:(readyA X1 i (rd.take i2)).ms = X.ms:=q.ms.trans HX1.out.1
    have hps:(readyA X1 i (rd.take i2)).ps.length = X.ps.length:=by rw [q.len,HX1.out.2.1]
    have hmm:(readyA X1 i (rd.take i2)).m m = X.m m:=by unfold Sd.m;rw [hms]
    have hmY:m < (readyA X1 i (rd.take i2)).ms.length:=by rw [hms];exact HMM.out
    have hiY:i < (readyA X1 i (rd.take i2)).ps.length:=by rw [hps];exact HI.out
    by_cases hlt:i2 < N
    ·have hlt2:(i2:Int) < (N:Int):=by omega
     have hi20:(0:Int) ≤ (i2:Int):=by omega
     have hil:i2 < rd.length:=by rw [← HN.out];exact hlt
     have hrow:=hr.out.row
     obtain ⟨rb,roff,rfl,hc⟩:=hrow.cells i2 (.int .i64 rd[i2]) (by rw [intc_get,List.getElem?_eq_getElem hil];rfl)
     have z0:=(hr.out.mach hmY HMA.out).1.1
     rw [hmm,HPI.out] at z0
     obtain ⟨C12,c12⟩:=hr.out.c12
     rw [HPA.out,hps] at c12
     have x0:=(hr.out.proc hiY HPA.out HLD.out).1.1
     have hgl:=HLEN2.out (rd.take i2) (by rw [List.length_take];omega)
     have htk:rd.take (i2 + 1) = rd.take i2 ++ [rd[i2]]:=List.take_succ_eq_append_getElem hil
     have HRD:=Lib.hid (fun (wx:World) (hx:SAt w0 wx b sp L (readyA X1 i (rd.take i2)) (CelA qb [.bool kp,.slice (some ⟨rb,roff,none⟩) N rc] :: RowGA 1 (some ⟨rb,roff,none⟩) rc N (intc rd) :: (D.A s' ++ R)))=>(sd_ready hx hiY HLD.out (by omega) rd[i2]).mono (R':=fun r w'=>(∃ y,r = .returned (.int .i64 y)) ∧ SAt w0 w' b sp L (readyA X1 i (rd.take (i2 + 1))) (CelA qb [.bool kp,.slice (some ⟨rb,roff,none⟩) N rc] :: RowGA 1 (some ⟨rb,roff,none⟩) rc N (intc rd) :: (D.A s' ++ R))) (fun r w' hh=>⟨⟨_,hh.1⟩,by rw [htk,readyA_snoc];exact hh.2⟩))
     generalize rd[i2] = gv at *
     clear q hms hps hmm hmY hiY hil hrow hgl htk
     go_upto_region 6 with fail
     refine wp_region_lexK (fun wx=>∃ nq,wx = World.drewN (wr) nq) 15 1 (Array.replicate 16 false) #[true,true,true,true,true,true,true,true,true,true,true,true,true,true,true,false] (by kernel_rfl) (by kernel_rfl) ?_
     refine wpAnyK_seg 0 15 _ #[true,true,true,true,true,true,true,true,true,true,true,true,true,true,true,false] 0 (by kernel_rfl) noPanic_put (drew_q wr) (by kernel_rfl) ?_
     simp only [List.take_succ_cons,List.take_zero,List.drop_zero]
     repeat ((first | refine wpSegH_no (by rfl) ?_ | (refine wpSegH_yes (by rfl) ?_;apply Exists.intro;apply And.intro;(· (rintro wx ⟨nq,rfl⟩;go_simp;first | done | with_reducible rfl))));simp only [Act.put,List.setIfInBounds_toArray,List.set_cons_zero,List.set_cons_succ])
     refine wpSegH_nil ?_
     refine wpAnyK_next ?_
     refine wpAnyK_seq 15 (by kernel_rfl) ?_
     simp only [List.drop_succ_cons,List.drop_zero]
     go_wp2_with fail
     refine (HRD.out _ (hr.out.step (below_dN wr _))).mono ?_
     rintro r w5 ⟨⟨y,rfl⟩,h5⟩
     have H5:=Lib.hid h5
     clear h5 HRD hr z0 c12 x0 hc
     go_wp2_with fail
     refine NoPanic.normal ?_
     go_wp2
     exact ⟨⟨i2 + 1,by omega,by go_num,H5⟩,by simp [intOf];omega⟩
    ·obtain rfl:i2 = N:=by omega
     have etk:rd.take i2 = rd:=by rw [HN.out,List.take_length]
     rw [etk] at hr q hms hps hmm hmY hiY
     obtain ⟨Y,hY⟩:∃ Y,Y = readyA X1 i rd:=⟨_,rfl⟩
     have HMOD3:=HMOD2
     have hylen:=HLEN2.out rd (by omega)
     rw [← hY] at hr q hms hps hmm hmY hiY HMOD3 hylen
     have hYW:Y.W = W1:=q.W.trans HX1.out.2.2
     obtain ⟨⟨-,z1,z2⟩,-,f1,f2⟩:=hr.out.mach hmY HMA.out
     rw [hmm,HGI.out] at z1
     rw [hmm,← HLL.out] at z2
     have hwr:IntKind.i64.wrap (LL - 1) = LL - 1:=by rw [IntKind.wrap_i64];omega
     have h6:=hr.out.setL hmY HMA.out (LL - 1)
     have hm6:m < (Y.setM m { Y.m m with L:=LL - 1 }).ms.length:=by simpa [Sd.setM] using hmY
     obtain ⟨⟨-,y1,y2⟩,-,g1,-⟩:=h6.mach hm6 HMA.out
     rw [setM_m hmY,if_pos rfl] at y1 y2
     simp only at y1 y2
     rw [hmm,HGI.out] at y1
     obtain ⟨b0,-⟩:=h6.cel 0 _ rfl
     obtain ⟨b1,-⟩:=h6.cel 1 _ rfl
     have H6:=Lib.hid h6
     have HY:Hid (Y.ms = X.ms ∧ Y.m m = X.m m ∧ m < Y.ms.length ∧ m < (Y.setM m { Y.m m with L:=LL - 1 }).ms.length ∧ Y.W = W1 ∧ Y.gl.length ≤ 1000):=Lib.hid ⟨hms,hmm,hmY,hm6,hYW,hylen⟩
     clear q hms hps hmm hmY hiY hY hYW h6 hm6 HMOD2 HQ2 HLEN2 hylen etk hr HX1 z1 f1
     go_upto_region 9 with fail
     generalize wr.setCell ⟨mb,off2 + m * 3 + 2,none⟩ (.int .i64 (LL - 1)) = w6 at *
     clear z2 f2
     have HPO:Hid (∀ wx Z,SAt w0 wx b sp L Z (RowGA 1 ra rc i2 (intc rd) :: (D.A s' ++ R)) → runM X m v = (Z,rd) → RunP w0 b sp L D s X R j m k' (.returned (.slice ra i2 rc)) wx):=Lib.hid (fun wx Z hz e=>.inl ⟨v,s',ra,rc,HFIT.out.1,HFIT.out.2,by rw [e,HN.out],by rw [e];rw [HN.out] at hz;exact hz⟩)
     by_cases hkeep:kp = true ∧ 0 < LL - 1
     ·obtain ⟨hk1,hk2⟩:=hkeep
      subst hk1
      have hres:=HMOD3.out
      rw [if_pos ⟨rfl,hk2⟩] at hres
      have HRES:Hid (∀ rr,rr = Ending.returned (.slice ra i2 rc) → RunP w0 b sp L D s X R j m k' rr w6):=Lib.hid (fun rr e=>by rw [e];exact HPO.out _ _ H6.out.less hres)
      clear hres HPO HMOD3 H6
      have hk3:LL - 1 > 0:=hk2
      go_wp2
      go_ret
      exact HRES.out _ rfl
     ·have hres:=HMOD3.out
      rw [if_neg hkeep] at hres
      have HRES:=Lib.hid hres
      clear hres HMOD3
      obtain ⟨e1,e2,e3,e4,e5,e6⟩:=HY.out
      have hst:statusM W1 (k':Int) = (W1.g k').st:=by
       unfold statusM
       rw [if_pos ⟨by omega,by have:=HST2.out;omega⟩,Int.toNat_natCast]
      have HSTA:=Lib.hid (fun (wx:World) (hx:SAt w0 wx b sp L (Y.setM m { Y.m m with L:=LL - 1 }) (CelA qb [.bool kp,.slice ra i2 rc] :: RowGA 1 ra rc i2 (intc rd) :: (D.A s' ++ R)))=>(by
       have:=sd_status hx (k':Int)
       rw [show (Y.setM m { Y.m m with L:=LL - 1 }).W = W1 from e5,hst] at this
       exact this:Calls Tryz.prog 13 #[.pointer (some ⟨b,0,none⟩),.int .i64 (k':Int)] wx fun r w'=>r = .returned (.int .i64 (W1.g k').st) ∧ w' = wx))
      rw [e5] at HRES
      generalize (W1.g k').st = sv at *
      have hcond:(kp = true ∧ LL - 1 > 0) = False:=by simpa using hkeep
      clear e1 e2 e3 e4 e5 e6 hst
      have HB0:=Lib.hid b0
      have HB1:=Lib.hid b1
      have hk0:kp = false ∨ (kp = true ∧ ¬ LL - 1 > 0):=by
       cases kp with
       | false=>exact .inl rfl
       | true=>exact .inr ⟨rfl,fun hc=>hkeep ⟨rfl,hc⟩⟩
      clear hkeep hcond
      rcases hk0 with rfl | ⟨rfl,hk0⟩
      ·skip
       go_upto_region 11 with fail
       refine wp_region_lexK (fun wx=>∃ nq,wx = World.drewN (w6) nq) 7 2 (Array.replicate 9 false) #[true,true,true,true,true,true,true,false,false] (by kernel_rfl) (by kernel_rfl) ?_
       refine wpAnyK_seg 0 7 _ #[true,true,true,true,true,true,true,false,false] 0 (by kernel_rfl) noPanic_put (drew_q w6) (by kernel_rfl) ?_
       simp only [List.take_succ_cons,List.take_zero,List.drop_zero]
       repeat ((first | refine wpSegH_no (by rfl) ?_ | (refine wpSegH_yes (by rfl) ?_;apply Exists.intro;apply And.intro;(· (rintro wx ⟨nq,rfl⟩;go_simp;first | done | with_reducible rfl))));simp only [Act.put,List.setIfInBounds_toArray,List.set_cons_zero,List.set_cons_succ])
       refine wpSegH_nil ?_
       refine wpAnyK_next ?_
       refine wpAnyK_seq 7 (by kernel_rfl) ?_
       simp only [List.drop_succ_cons,List.drop_zero]
       go_wp2_with fail
       refine (HSTA.out _ (H6.out.step (below_dN w6 _))).mono ?_
       rintro r w7 ⟨rfl,rfl⟩
       by_cases hsv:sv = 1
       ·have hsv2:(sv == 1) = true:=by simpa using hsv
        rw [if_pos hsv] at HRES
        have h7:=H6.out.step (below_dN w6 1)
        have y7:=cell_below y1 (below_dN w6 1)
        have HY1:Hid (∀ wx Z,SAt w0 wx b sp L (Y.setM m { Y.m m with L:=LL - 1 }) Z → wx.cell? ⟨mb,off2 + m * 3 + 1,none⟩ = some (.int .i64 (k':Int))):=Lib.hid (fun wx Z hz=>by
         have h2:=(hz.mach HY.out.2.2.2.1 HMA.out).1.2.1
         rw [setM_m HY.out.2.2.1,if_pos rfl] at h2
         simp only at h2
         rw [HY.out.2.1,HGI.out] at h2;exact h2)
        have H7:=Lib.hid h7
        clear hsv h7 HSTA H6 y1 y2 b0 b1 HB0 HB1 g1
        go_wp2_with fail
        refine NoPanic.normal ?_
        go_upto_region 12 with fail
        have h7:=H7.out
        generalize w6.drewN 1 = w7 at *
        have h8:=h7.step (below_drew1 w7)
        refine wp_region_lexK (fun wx=>wx.cell? ⟨mb,off2 + m * 3 + 1,none⟩ = some (.int .i64 (k':Int))) 9 0 (Array.replicate 9 false) #[true,true,true,true,true,true,true,true,true] (by kernel_rfl) (by kernel_rfl) ?_
        refine wpAnyK_seg 0 7 _ #[true,true,true,true,true,true,true,false,false] 2 (by kernel_rfl) noPanic_put (HY1.out _ _ h8) (by kernel_rfl) ?_
        simp only [List.take_succ_cons,List.take_zero,List.drop_zero]
        repeat ((first | refine wpSegH_no (by rfl) ?_ | (refine wpSegH_yes (by rfl) ?_;apply Exists.intro;apply And.intro;(· (intro wx hS;(try dsimp only at hS);go_simp;first | done | with_reducible rfl))));simp only [Act.put,List.setIfInBounds_toArray,List.set_cons_zero,List.set_cons_succ])
        refine wpSegH_nil ?_
        have h9:=h8.box [.int .i64 (k':Int)] 3
        refine wpAnyK_one 7 _ #[true,true,true,true,true,true,true,true,false] 1 (by kernel_rfl) (fun K hK=>?_)
        have HKK:=Lib.hid hK
        clear hK
        simp only [List.drop_succ_cons,List.drop_zero]
        refine headH_mk (by rfl) ?_
        go_simp
        refine HKK.out _ _ (HY1.out _ _ h9) ?_
        clear HKK K
        refine wpAnyK_one 8 _ #[true,true,true,true,true,true,true,true,true] 0 (by kernel_rfl) (fun K hK=>?_)
        have HKK:=Lib.hid hK
        clear hK
        simp only [List.drop_succ_cons,List.drop_zero]
        refine headH_mk (by rfl) ?_
        go_simp
        refine (sd_gput h9 (some ⟨w7.drew.heap.size,0,none⟩) 1 1 [(k':Int)] rfl (RowAt.one w7.drew (k':Int) 3 rfl).ints (by have:=HY.out.2.2.2.2.2;show Y.gl.length + 1 ≤ _;omega)).mono ?_
        rintro r w10 ⟨rfl,h10⟩
        have e10:w10.cell? ⟨mb,off2 + m * 3 + 1,none⟩ = some (.int .i64 (k':Int)):=by
         have h2:w10.cell? ⟨mb,off2 + m * 3 + 1,none⟩ = some (.int .i64 ((Y.setM m { Y.m m with L:=LL - 1 }).m m).G):=(h10.mach (i:=m) HY.out.2.2.2.1 HMA.out).1.2.1
         rw [setM_m HY.out.2.2.1,if_pos rfl] at h2
         simp only at h2
         rw [HY.out.2.1,HGI.out] at h2;exact h2
        refine HKK.out _ _ (e10) ?_
        clear HKK K
        refine wpAnyK_next ?_
        refine wpAnyK_done (by kernel_rfl) (NoPanic.normal ?_)
        have h11:=h10.setG (i:=m) HY.out.2.2.2.1 HMA.out (-1)
        obtain ⟨⟨-,d1,-⟩,-,k1,-⟩:=h10.mach (i:=m) HY.out.2.2.2.1 HMA.out
        have e8:=(h11.less.cel 1 _ rfl).1
        have HF:Hid (∀ rr,rr = Ending.returned (.slice ra i2 rc) → RunP w0 b sp L D s X R j m k' rr (w10.setCell ⟨mb,off2 + m * 3 + 1,none⟩ (.int .i64 (-1)))):=Lib.hid (fun rr e=>by
         rw [e]
         refine HPO.out _ _ h11.less.less ?_
         rw [HRES.out]
         congr 1
         show _ = ({ (Y.setM m { Y.m m with L:=LL - 1 }).setM m { (Y.setM m { Y.m m with L:=LL - 1 }).m m with G:=-1 } with gl:=Y.gl ++ [(k':Int)] }:Sd)
         rw [setM_setM,setM_m HY.out.2.2.1,if_pos rfl])
        clear h7 h8 h9 h10 h11 y7 HRES HPO e10 H7 HY1
        go_upto_region 14 with fail
        clear d1 k1
        generalize w10.setCell ⟨mb,off2 + m * 3 + 1,none⟩ (.int .i64 (-1)) = w11 at *
        go_wp2
        go_ret
        exact HF.out _ rfl
       ·have hsv2:(sv == 1) = false:=by simpa using hsv
        rw [if_neg hsv] at HRES
        have h8:=(H6.out.step (below_dN w6 1)).setG HY.out.2.2.2.1 HMA.out (-1)
        obtain ⟨⟨-,d1,-⟩,-,k1,-⟩:=(H6.out.step (below_dN w6 1)).mach HY.out.2.2.2.1 HMA.out
        have e8:=(h8.cel 1 _ rfl).1
        have HF:Hid (∀ rr,rr = Ending.returned (.slice ra i2 rc) → RunP w0 b sp L D s X R j m k' rr ((w6.drewN 1).setCell ⟨mb,off2 + m * 3 + 1,none⟩ (.int .i64 (-1)))):=Lib.hid (fun rr e=>by
         rw [e]
         refine HPO.out _ _ h8.less ?_
         rw [HRES.out]
         congr 1
         rw [setM_setM,setM_m HY.out.2.2.1,if_pos rfl]
         rfl)
        clear hsv h8 HSTA H6 y1 y2 b0 b1 HB0 HB1 g1 HRES HPO
        go_wp2_with fail
        refine NoPanic.normal ?_
        go_upto_region 14 with fail
        clear d1 k1
        generalize (w6.drewN 1).setCell ⟨mb,off2 + m * 3 + 1,none⟩ (.int .i64 (-1)) = w9 at *
        go_wp2
        go_ret
        exact HF.out _ rfl
      ·skip
       go_upto_region 11 with fail
       refine wp_region_lexK (fun wx=>∃ nq,wx = World.drewN (w6) nq) 7 2 (Array.replicate 9 false) #[true,true,true,true,true,true,true,false,false] (by kernel_rfl) (by kernel_rfl) ?_
       refine wpAnyK_seg 0 7 _ #[true,true,true,true,true,true,true,false,false] 0 (by kernel_rfl) noPanic_put (drew_q w6) (by kernel_rfl) ?_
       simp only [List.take_succ_cons,List.take_zero,List.drop_zero]
       repeat ((first | refine wpSegH_no (by rfl) ?_ | (refine wpSegH_yes (by rfl) ?_;apply Exists.intro;apply And.intro;(· (rintro wx ⟨nq,rfl⟩;go_simp;first | done | with_reducible rfl))));simp only [Act.put,List.setIfInBounds_toArray,List.set_cons_zero,List.set_cons_succ])
       refine wpSegH_nil ?_
       refine wpAnyK_next ?_
       refine wpAnyK_seq 7 (by kernel_rfl) ?_
       simp only [List.drop_succ_cons,List.drop_zero]
       go_wp2_with fail
       refine (HSTA.out _ (H6.out.step (below_dN w6 _))).mono ?_
       rintro r w7 ⟨rfl,rfl⟩
       by_cases hsv:sv = 1
       ·have hsv2:(sv == 1) = true:=by simpa using hsv
        rw [if_pos hsv] at HRES
        have h7:=H6.out.step (below_dN w6 1)
        have y7:=cell_below y1 (below_dN w6 1)
        have HY1:Hid (∀ wx Z,SAt w0 wx b sp L (Y.setM m { Y.m m with L:=LL - 1 }) Z → wx.cell? ⟨mb,off2 + m * 3 + 1,none⟩ = some (.int .i64 (k':Int))):=Lib.hid (fun wx Z hz=>by
         have h2:=(hz.mach HY.out.2.2.2.1 HMA.out).1.2.1
         rw [setM_m HY.out.2.2.1,if_pos rfl] at h2
         simp only at h2
         rw [HY.out.2.1,HGI.out] at h2;exact h2)
        have H7:=Lib.hid h7
        clear hsv h7 HSTA H6 y1 y2 b0 b1 HB0 HB1 g1
        go_wp2_with fail
        refine NoPanic.normal ?_
        go_upto_region 12 with fail
        have h7:=H7.out
        generalize w6.drewN 1 = w7 at *
        have h8:=h7.step (below_drew1 w7)
        refine wp_region_lexK (fun wx=>wx.cell? ⟨mb,off2 + m * 3 + 1,none⟩ = some (.int .i64 (k':Int))) 9 0 (Array.replicate 9 false) #[true,true,true,true,true,true,true,true,true] (by kernel_rfl) (by kernel_rfl) ?_
        refine wpAnyK_seg 0 7 _ #[true,true,true,true,true,true,true,false,false] 2 (by kernel_rfl) noPanic_put (HY1.out _ _ h8) (by kernel_rfl) ?_
        simp only [List.take_succ_cons,List.take_zero,List.drop_zero]
        repeat ((first | refine wpSegH_no (by rfl) ?_ | (refine wpSegH_yes (by rfl) ?_;apply Exists.intro;apply And.intro;(· (intro wx hS;(try dsimp only at hS);go_simp;first | done | with_reducible rfl))));simp only [Act.put,List.setIfInBounds_toArray,List.set_cons_zero,List.set_cons_succ])
        refine wpSegH_nil ?_
        have h9:=h8.box [.int .i64 (k':Int)] 3
        refine wpAnyK_one 7 _ #[true,true,true,true,true,true,true,true,false] 1 (by kernel_rfl) (fun K hK=>?_)
        have HKK:=Lib.hid hK
        clear hK
        simp only [List.drop_succ_cons,List.drop_zero]
        refine headH_mk (by rfl) ?_
        go_simp
        refine HKK.out _ _ (HY1.out _ _ h9) ?_
        clear HKK K
        refine wpAnyK_one 8 _ #[true,true,true,true,true,true,true,true,true] 0 (by kernel_rfl) (fun K hK=>?_)
        have HKK:=Lib.hid hK
        clear hK
        simp only [List.drop_succ_cons,List.drop_zero]
        refine headH_mk (by rfl) ?_
        go_simp
        refine (sd_gput h9 (some ⟨w7.drew.heap.size,0,none⟩) 1 1 [(k':Int)] rfl (RowAt.one w7.drew (k':Int) 3 rfl).ints (by have:=HY.out.2.2.2.2.2;show Y.gl.length + 1 ≤ _;omega)).mono ?_
        rintro r w10 ⟨rfl,h10⟩
        have e10:w10.cell? ⟨mb,off2 + m * 3 + 1,none⟩ = some (.int .i64 (k':Int)):=by
         have h2:w10.cell? ⟨mb,off2 + m * 3 + 1,none⟩ = some (.int .i64 ((Y.setM m { Y.m m with L:=LL - 1 }).m m).G):=(h10.mach (i:=m) HY.out.2.2.2.1 HMA.out).1.2.1
         rw [setM_m HY.out.2.2.1,if_pos rfl] at h2
         simp only at h2
         rw [HY.out.2.1,HGI.out] at h2;exact h2
        refine HKK.out _ _ (e10) ?_
        clear HKK K
        refine wpAnyK_next ?_
        refine wpAnyK_done (by kernel_rfl) (NoPanic.normal ?_)
        have h11:=h10.setG (i:=m) HY.out.2.2.2.1 HMA.out (-1)
        obtain ⟨⟨-,d1,-⟩,-,k1,-⟩:=h10.mach (i:=m) HY.out.2.2.2.1 HMA.out
        have e8:=(h11.less.cel 1 _ rfl).1
        have HF:Hid (∀ rr,rr = Ending.returned (.slice ra i2 rc) → RunP w0 b sp L D s X R j m k' rr (w10.setCell ⟨mb,off2 + m * 3 + 1,none⟩ (.int .i64 (-1)))):=Lib.hid (fun rr e=>by
         rw [e]
         refine HPO.out _ _ h11.less.less ?_
         rw [HRES.out]
         congr 1
         show _ = ({ (Y.setM m { Y.m m with L:=LL - 1 }).setM m { (Y.setM m { Y.m m with L:=LL - 1 }).m m with G:=-1 } with gl:=Y.gl ++ [(k':Int)] }:Sd)
         rw [setM_setM,setM_m HY.out.2.2.1,if_pos rfl])
        clear h7 h8 h9 h10 h11 y7 HRES HPO e10 H7 HY1
        go_upto_region 14 with fail
        clear d1 k1
        generalize w10.setCell ⟨mb,off2 + m * 3 + 1,none⟩ (.int .i64 (-1)) = w11 at *
        go_wp2
        go_ret
        exact HF.out _ rfl
       ·have hsv2:(sv == 1) = false:=by simpa using hsv
        rw [if_neg hsv] at HRES
        have h8:=(H6.out.step (below_dN w6 1)).setG HY.out.2.2.2.1 HMA.out (-1)
        obtain ⟨⟨-,d1,-⟩,-,k1,-⟩:=(H6.out.step (below_dN w6 1)).mach HY.out.2.2.2.1 HMA.out
        have e8:=(h8.cel 1 _ rfl).1
        have HF:Hid (∀ rr,rr = Ending.returned (.slice ra i2 rc) → RunP w0 b sp L D s X R j m k' rr ((w6.drewN 1).setCell ⟨mb,off2 + m * 3 + 1,none⟩ (.int .i64 (-1)))):=Lib.hid (fun rr e=>by
         rw [e]
         refine HPO.out _ _ h8.less ?_
         rw [HRES.out]
         congr 1
         rw [setM_setM,setM_m HY.out.2.2.1,if_pos rfl]
         rfl)
        clear hsv h8 HSTA H6 y1 y2 b0 b1 HB0 HB1 g1 HRES HPO
        go_wp2_with fail
        refine NoPanic.normal ?_
        go_upto_region 14 with fail
        clear d1 k1
        generalize (w6.drewN 1).setCell ⟨mb,off2 + m * 3 + 1,none⟩ (.int .i64 (-1)) = w9 at *
        go_wp2
        go_ret
        exact HF.out _ rfl
  ·exact ⟨rfl,RunP.dry hak hdp hok' h2⟩
 ·skip
  have h2:=h1.box [.bool false,.slice none 0 0] 156
  have e2:=HSB.out _ _ _ h2 rfl
  have HKK:=Lib.hid hK
  clear hK
  simp only [List.drop_succ_cons,List.drop_zero]
  refine headH_mk (by rfl) ?_
  go_simp
  refine HKK.out _ _ (e2) ?_
  clear HKK K
  generalize w1.alloc (.cells #[.bool false,.slice none 0 0] 156) = w2 at *
  generalize w1.heap.size = qb at *
  refine wpAnyH_one 12 _ #[true,true,true,true,true,true,true,true,true,true,true,true,true,true,false] 1 (by kernel_rfl) (fun K hK=>?_)
  have HKK:=Lib.hid hK
  clear hK
  simp only [List.drop_succ_cons,List.drop_zero]
  refine headH_mk (by rfl) ?_
  go_simp
  refine (HEX2.out _ qb (h2.perm List.perm_middle.symm)).mono ?_
  intro r w3 hp
  rcases hp with ⟨v,s',ra,rc,hfit,hok',rfl,h3⟩ | ⟨ch,s',kd,n,rfl,hak,hdp,hok',h3⟩
  ·skip
   have HFIT:=Lib.hid (And.intro hfit hok')
   have HLEN2:=Lib.hid (HLEN.out v)
   have HQ2:=Lib.hid (HQ.out v)
   have HMOD2:=Lib.hid (HMOD.out v)
   have HST2:=Lib.hid (HST.out v)
   have hrl:=HRL.out v
   clear hfit hok' HLEN HQ HMOD HST HEX HEX2 HRL
   generalize execM X.W (k':Int) v = E at *
   obtain ⟨W1,kp,rd⟩:=E
   simp only at h3 HLEN2 HQ2 HMOD2 HST2 hrl ⊢
   obtain ⟨X1,hX1⟩:∃ X1:Sd,X1 = { X with W:=W1 }:=⟨_,rfl⟩
   rw [← hX1] at h3 HLEN2 HQ2 HMOD2
   have HX1:Hid (X1.ms = X.ms ∧ X1.ps = X.ps ∧ X1.W = W1):=Lib.hid (by rw [hX1];exact ⟨rfl,rfl,rfl⟩)
   clear hX1
   obtain ⟨N,hN⟩:∃ N,N = rd.length:=⟨_,rfl⟩
   rw [← hN] at h3 hrl ⊢
   have HN:=Lib.hid hN
   clear hN
   have h3:SAt w0 w3 b sp L X1 (CelA qb [.bool false,.slice none 0 0] :: RowGA 1 ra rc N (intc rd) :: (D.A s' ++ R)):=h3.perm ((List.Perm.cons _ List.perm_middle).trans (List.Perm.swap _ _ _))
   have e3:=HSB.out _ _ _ h3 HX1.out.1
   refine HKK.out _ _ (e3) ?_
   clear HKK K
   obtain ⟨x0,y0⟩:=h3.cel 0 _ rfl
   obtain ⟨x1,y1⟩:=h3.cel 1 _ rfl
   have h4:=(h3.setBox 0 (.bool kp)).setBox 1 (.slice ra N rc)
   have e3:=HSB.out _ _ _ h4 HX1.out.1
   refine wpAnyH_one 14 _ #[true,true,true,true,true,true,true,true,true,true,true,true,true,true,true] 0 (by kernel_rfl) (fun K hK=>?_)
   have HKK:=Lib.hid hK
   clear hK
   simp only [List.drop_succ_cons,List.drop_zero]
   refine headH_mk (by rfl) ?_
   go_simp
   refine HKK.out _ _ (e3) ?_
   clear HKK K
   refine wpAnyH_done (by kernel_rfl) (?_) _
   have HS:=Lib.hid h4
   clear h2 h3 h4 e2 x0 y0 x1 y1 H
   generalize (w3.setCell ⟨qb,0,none⟩ (.bool kp)).setCell ⟨qb,1,none⟩ (.slice ra N rc) = w4 at *
   obtain ⟨c11,z1⟩:=e3
   have c1:=(HS.out.cel 1 _ rfl).1
   clear c11 z1
   go_wp2_with fail
   go_loopw [31] (fun iv wr=>∃ i2:Nat,i2 ≤ N ∧ iv = .int .i64 i2 ∧ Hid (SAt w0 wr b sp L (readyA X1 i (rd.take i2)) (CelA qb [.bool kp,.slice ra N rc] :: RowGA 1 ra rc N (intc rd) :: (D.A s' ++ R)))) (fun iv _=>N - (intOf iv).toNat)
   case atStart=>exact ⟨0,by omega,rfl,HS⟩
   case round =>
    obtain ⟨i2,hi2,rfl,hr⟩:=hrel
    clear HS c1
    have q:=HQ2.out (rd.take i2)
    have hms:(readyA X1 i (rd.take i2)).ms = X.ms:=q.ms.trans HX1.out.1
    have hps:(readyA X1 i (rd.take i2)).ps.length = X.ps.length:=by rw [q.len,HX1.out.2.1]
    have hmm:(readyA X1 i (rd.take i2)).m m = X.m m:=by unfold Sd.m;rw [hms]
    have hmY:m < (readyA X1 i (rd.take i2)).ms.length:=by rw [hms];exact HMM.out
    have hiY:i < (readyA X1 i (rd.take i2)).ps.length:=by rw [hps];exact HI.out
    by_cases hlt:i2 < N
    ·have hlt2:(i2:Int) < (N:Int):=by omega
     have hi20:(0:Int) ≤ (i2:Int):=by omega
     have hil:i2 < rd.length:=by rw [← HN.out];exact hlt
     have hrow:=hr.out.row
     obtain ⟨rb,roff,rfl,hc⟩:=hrow.cells i2 (.int .i64 rd[i2]) (by rw [intc_get,List.getElem?_eq_getElem hil];rfl)
     have z0:=(hr.out.mach hmY HMA.out).1.1
     rw [hmm,HPI.out] at z0
     obtain ⟨C12,c12⟩:=hr.out.c12
     rw [HPA.out,hps] at c12
     have x0:=(hr.out.proc hiY HPA.out HLD.out).1.1
     have hgl:=HLEN2.out (rd.take i2) (by rw [List.length_take];omega)
     have htk:rd.take (i2 + 1) = rd.take i2 ++ [rd[i2]]:=List.take_succ_eq_append_getElem hil
     have HRD:=Lib.hid (fun (wx:World) (hx:SAt w0 wx b sp L (readyA X1 i (rd.take i2)) (CelA qb [.bool kp,.slice (some ⟨rb,roff,none⟩) N rc] :: RowGA 1 (some ⟨rb,roff,none⟩) rc N (intc rd) :: (D.A s' ++ R)))=>(sd_ready hx hiY HLD.out (by omega) rd[i2]).mono (R':=fun r w'=>(∃ y,r = .returned (.int .i64 y)) ∧ SAt w0 w' b sp L (readyA X1 i (rd.take (i2 + 1))) (CelA qb [.bool kp,.slice (some ⟨rb,roff,none⟩) N rc] :: RowGA 1 (some ⟨rb,roff,none⟩) rc N (intc rd) :: (D.A s' ++ R))) (fun r w' hh=>⟨⟨_,hh.1⟩,by rw [htk,readyA_snoc];exact hh.2⟩))
     generalize rd[i2] = gv at *
     clear q hms hps hmm hmY hiY hil hrow hgl htk
     go_upto_region 6 with fail
     refine wp_region_lexK (fun wx=>∃ nq,wx = World.drewN (wr) nq) 15 1 (Array.replicate 16 false) #[true,true,true,true,true,true,true,true,true,true,true,true,true,true,true,false] (by kernel_rfl) (by kernel_rfl) ?_
     refine wpAnyK_seg 0 15 _ #[true,true,true,true,true,true,true,true,true,true,true,true,true,true,true,false] 0 (by kernel_rfl) noPanic_put (drew_q wr) (by kernel_rfl) ?_
     simp only [List.take_succ_cons,List.take_zero,List.drop_zero]
     repeat ((first | refine wpSegH_no (by rfl) ?_ | (refine wpSegH_yes (by rfl) ?_;apply Exists.intro;apply And.intro;(· (rintro wx ⟨nq,rfl⟩;go_simp;first | done | with_reducible rfl))));simp only [Act.put,List.setIfInBounds_toArray,List.set_cons_zero,List.set_cons_succ])
     refine wpSegH_nil ?_
     refine wpAnyK_next ?_
     refine wpAnyK_seq 15 (by kernel_rfl) ?_
     simp only [List.drop_succ_cons,List.drop_zero]
     go_wp2_with fail
     refine (HRD.out _ (hr.out.step (below_dN wr _))).mono ?_
     rintro r w5 ⟨⟨y,rfl⟩,h5⟩
     have H5:=Lib.hid h5
     clear h5 HRD hr z0 c12 x0 hc
     go_wp2_with fail
     refine NoPanic.normal ?_
     go_wp2
     exact ⟨⟨i2 + 1,by omega,by go_num,H5⟩,by simp [intOf];omega⟩
    ·obtain rfl:i2 = N:=by omega
     have etk:rd.take i2 = rd:=by rw [HN.out,List.take_length]
     rw [etk] at hr q hms hps hmm hmY hiY
     obtain ⟨Y,hY⟩:∃ Y,Y = readyA X1 i rd:=⟨_,rfl⟩
     have HMOD3:=HMOD2
     have hylen:=HLEN2.out rd (by omega)
     rw [← hY] at hr q hms hps hmm hmY hiY HMOD3 hylen
     have hYW:Y.W = W1:=q.W.trans HX1.out.2.2
     obtain ⟨⟨-,z1,z2⟩,-,f1,f2⟩:=hr.out.mach hmY HMA.out
     rw [hmm,HGI.out] at z1
     rw [hmm,← HLL.out] at z2
     have hwr:IntKind.i64.wrap (LL - 1) = LL - 1:=by rw [IntKind.wrap_i64];omega
     have h6:=hr.out.setL hmY HMA.out (LL - 1)
     have hm6:m < (Y.setM m { Y.m m with L:=LL - 1 }).ms.length:=by simpa [Sd.setM] using hmY
     obtain ⟨⟨-,y1,y2⟩,-,g1,-⟩:=h6.mach hm6 HMA.out
     rw [setM_m hmY,if_pos rfl] at y1 y2
     simp only at y1 y2
     rw [hmm,HGI.out] at y1
     obtain ⟨b0,-⟩:=h6.cel 0 _ rfl
     obtain ⟨b1,-⟩:=h6.cel 1 _ rfl
     have H6:=Lib.hid h6
     have HY:Hid (Y.ms = X.ms ∧ Y.m m = X.m m ∧ m < Y.ms.length ∧ m < (Y.setM m { Y.m m with L:=LL - 1 }).ms.length ∧ Y.W = W1 ∧ Y.gl.length ≤ 1000):=Lib.hid ⟨hms,hmm,hmY,hm6,hYW,hylen⟩
     clear q hms hps hmm hmY hiY hY hYW h6 hm6 HMOD2 HQ2 HLEN2 hylen etk hr HX1 z1 f1
     go_upto_region 9 with fail
     generalize wr.setCell ⟨mb,off2 + m * 3 + 2,none⟩ (.int .i64 (LL - 1)) = w6 at *
     clear z2 f2
     have HPO:Hid (∀ wx Z,SAt w0 wx b sp L Z (RowGA 1 ra rc i2 (intc rd) :: (D.A s' ++ R)) → runM X m v = (Z,rd) → RunP w0 b sp L D s X R j m k' (.returned (.slice ra i2 rc)) wx):=Lib.hid (fun wx Z hz e=>.inl ⟨v,s',ra,rc,HFIT.out.1,HFIT.out.2,by rw [e,HN.out],by rw [e];rw [HN.out] at hz;exact hz⟩)
     by_cases hkeep:kp = true ∧ 0 < LL - 1
     ·obtain ⟨hk1,hk2⟩:=hkeep
      subst hk1
      have hres:=HMOD3.out
      rw [if_pos ⟨rfl,hk2⟩] at hres
      have HRES:Hid (∀ rr,rr = Ending.returned (.slice ra i2 rc) → RunP w0 b sp L D s X R j m k' rr w6):=Lib.hid (fun rr e=>by rw [e];exact HPO.out _ _ H6.out.less hres)
      clear hres HPO HMOD3 H6
      have hk3:LL - 1 > 0:=hk2
      go_wp2
      go_ret
      exact HRES.out _ rfl
     ·have hres:=HMOD3.out
      rw [if_neg hkeep] at hres
      have HRES:=Lib.hid hres
      clear hres HMOD3
      obtain ⟨e1,e2,e3,e4,e5,e6⟩:=HY.out
      have hst:statusM W1 (k':Int) = (W1.g k').st:=by
       unfold statusM
       rw [if_pos ⟨by omega,by have:=HST2.out;omega⟩,Int.toNat_natCast]
      have HSTA:=Lib.hid (fun (wx:World) (hx:SAt w0 wx b sp L (Y.setM m { Y.m m with L:=LL - 1 }) (CelA qb [.bool kp,.slice ra i2 rc] :: RowGA 1 ra rc i2 (intc rd) :: (D.A s' ++ R)))=>(by
       have:=sd_status hx (k':Int)
       rw [show (Y.setM m { Y.m m with L:=LL - 1 }).W = W1 from e5,hst] at this
       exact this:Calls Tryz.prog 13 #[.pointer (some ⟨b,0,none⟩),.int .i64 (k':Int)] wx fun r w'=>r = .returned (.int .i64 (W1.g k').st) ∧ w' = wx))
      rw [e5] at HRES
      generalize (W1.g k').st = sv at *
      have hcond:(kp = true ∧ LL - 1 > 0) = False:=by simpa using hkeep
      clear e1 e2 e3 e4 e5 e6 hst
      have HB0:=Lib.hid b0
      have HB1:=Lib.hid b1
      have hk0:kp = false ∨ (kp = true ∧ ¬ LL - 1 > 0):=by
       cases kp with
       | false=>exact .inl rfl
       | true=>exact .inr ⟨rfl,fun hc=>hkeep ⟨rfl,hc⟩⟩
      clear hkeep hcond
      rcases hk0 with rfl | ⟨rfl,hk0⟩
      ·skip
       go_upto_region 11 with fail
       refine wp_region_lexK (fun wx=>∃ nq,wx = World.drewN (w6) nq) 7 2 (Array.replicate 9 false) #[true,true,true,true,true,true,true,false,false] (by kernel_rfl) (by kernel_rfl) ?_
       refine wpAnyK_seg 0 7 _ #[true,true,true,true,true,true,true,false,false] 0 (by kernel_rfl) noPanic_put (drew_q w6) (by kernel_rfl) ?_
       simp only [List.take_succ_cons,List.take_zero,List.drop_zero]
       repeat ((first | refine wpSegH_no (by rfl) ?_ | (refine wpSegH_yes (by rfl) ?_;apply Exists.intro;apply And.intro;(· (rintro wx ⟨nq,rfl⟩;go_simp;first | done | with_reducible rfl))));simp only [Act.put,List.setIfInBounds_toArray,List.set_cons_zero,List.set_cons_succ])
       refine wpSegH_nil ?_
       refine wpAnyK_next ?_
       refine wpAnyK_seq 7 (by kernel_rfl) ?_
       simp only [List.drop_succ_cons,List.drop_zero]
       go_wp2_with fail
       refine (HSTA.out _ (H6.out.step (below_dN w6 _))).mono ?_
       rintro r w7 ⟨rfl,rfl⟩
       by_cases hsv:sv = 1
       ·have hsv2:(sv == 1) = true:=by simpa using hsv
        rw [if_pos hsv] at HRES
        have h7:=H6.out.step (below_dN w6 1)
        have y7:=cell_below y1 (below_dN w6 1)
        have HY1:Hid (∀ wx Z,SAt w0 wx b sp L (Y.setM m { Y.m m with L:=LL - 1 }) Z → wx.cell? ⟨mb,off2 + m * 3 + 1,none⟩ = some (.int .i64 (k':Int))):=Lib.hid (fun wx Z hz=>by
         have h2:=(hz.mach HY.out.2.2.2.1 HMA.out).1.2.1
         rw [setM_m HY.out.2.2.1,if_pos rfl] at h2
         simp only at h2
         rw [HY.out.2.1,HGI.out] at h2;exact h2)
        have H7:=Lib.hid h7
        clear hsv h7 HSTA H6 y1 y2 b0 b1 HB0 HB1 g1
        go_wp2_with fail
        refine NoPanic.normal ?_
        go_upto_region 12 with fail
        have h7:=H7.out
        generalize w6.drewN 1 = w7 at *
        have h8:=h7.step (below_drew1 w7)
        refine wp_region_lexK (fun wx=>wx.cell? ⟨mb,off2 + m * 3 + 1,none⟩ = some (.int .i64 (k':Int))) 9 0 (Array.replicate 9 false) #[true,true,true,true,true,true,true,true,true] (by kernel_rfl) (by kernel_rfl) ?_
        refine wpAnyK_seg 0 7 _ #[true,true,true,true,true,true,true,false,false] 2 (by kernel_rfl) noPanic_put (HY1.out _ _ h8) (by kernel_rfl) ?_
        simp only [List.take_succ_cons,List.take_zero,List.drop_zero]
        repeat ((first | refine wpSegH_no (by rfl) ?_ | (refine wpSegH_yes (by rfl) ?_;apply Exists.intro;apply And.intro;(· (intro wx hS;(try dsimp only at hS);go_simp;first | done | with_reducible rfl))));simp only [Act.put,List.setIfInBounds_toArray,List.set_cons_zero,List.set_cons_succ])
        refine wpSegH_nil ?_
        have h9:=h8.box [.int .i64 (k':Int)] 3
        refine wpAnyK_one 7 _ #[true,true,true,true,true,true,true,true,false] 1 (by kernel_rfl) (fun K hK=>?_)
        have HKK:=Lib.hid hK
        clear hK
        simp only [List.drop_succ_cons,List.drop_zero]
        refine headH_mk (by rfl) ?_
        go_simp
        refine HKK.out _ _ (HY1.out _ _ h9) ?_
        clear HKK K
        refine wpAnyK_one 8 _ #[true,true,true,true,true,true,true,true,true] 0 (by kernel_rfl) (fun K hK=>?_)
        have HKK:=Lib.hid hK
        clear hK
        simp only [List.drop_succ_cons,List.drop_zero]
        refine headH_mk (by rfl) ?_
        go_simp
        refine (sd_gput h9 (some ⟨w7.drew.heap.size,0,none⟩) 1 1 [(k':Int)] rfl (RowAt.one w7.drew (k':Int) 3 rfl).ints (by have:=HY.out.2.2.2.2.2;show Y.gl.length + 1 ≤ _;omega)).mono ?_
        rintro r w10 ⟨rfl,h10⟩
        have e10:w10.cell? ⟨mb,off2 + m * 3 + 1,none⟩ = some (.int .i64 (k':Int)):=by
         have h2:w10.cell? ⟨mb,off2 + m * 3 + 1,none⟩ = some (.int .i64 ((Y.setM m { Y.m m with L:=LL - 1 }).m m).G):=(h10.mach (i:=m) HY.out.2.2.2.1 HMA.out).1.2.1
         rw [setM_m HY.out.2.2.1,if_pos rfl] at h2
         simp only at h2
         rw [HY.out.2.1,HGI.out] at h2;exact h2
        refine HKK.out _ _ (e10) ?_
        clear HKK K
        refine wpAnyK_next ?_
        refine wpAnyK_done (by kernel_rfl) (NoPanic.normal ?_)
        have h11:=h10.setG (i:=m) HY.out.2.2.2.1 HMA.out (-1)
        obtain ⟨⟨-,d1,-⟩,-,k1,-⟩:=h10.mach (i:=m) HY.out.2.2.2.1 HMA.out
        have e8:=(h11.less.cel 1 _ rfl).1
        have HF:Hid (∀ rr,rr = Ending.returned (.slice ra i2 rc) → RunP w0 b sp L D s X R j m k' rr (w10.setCell ⟨mb,off2 + m * 3 + 1,none⟩ (.int .i64 (-1)))):=Lib.hid (fun rr e=>by
         rw [e]
         refine HPO.out _ _ h11.less.less ?_
         rw [HRES.out]
         congr 1
         show _ = ({ (Y.setM m { Y.m m with L:=LL - 1 }).setM m { (Y.setM m { Y.m m with L:=LL - 1 }).m m with G:=-1 } with gl:=Y.gl ++ [(k':Int)] }:Sd)
         rw [setM_setM,setM_m HY.out.2.2.1,if_pos rfl])
        clear h7 h8 h9 h10 h11 y7 HRES HPO e10 H7 HY1
        go_upto_region 14 with fail
        clear d1 k1
        generalize w10.setCell ⟨mb,off2 + m * 3 + 1,none⟩ (.int .i64 (-1)) = w11 at *
        go_wp2
        go_ret
        exact HF.out _ rfl
       ·have hsv2:(sv == 1) = false:=by simpa using hsv
        rw [if_neg hsv] at HRES
        have h8:=(H6.out.step (below_dN w6 1)).setG HY.out.2.2.2.1 HMA.out (-1)
        obtain ⟨⟨-,d1,-⟩,-,k1,-⟩:=(H6.out.step (below_dN w6 1)).mach HY.out.2.2.2.1 HMA.out
        have e8:=(h8.cel 1 _ rfl).1
        have HF:Hid (∀ rr,rr = Ending.returned (.slice ra i2 rc) → RunP w0 b sp L D s X R j m k' rr ((w6.drewN 1).setCell ⟨mb,off2 + m * 3 + 1,none⟩ (.int .i64 (-1)))):=Lib.hid (fun rr e=>by
         rw [e]
         refine HPO.out _ _ h8.less ?_
         rw [HRES.out]
         congr 1
         rw [setM_setM,setM_m HY.out.2.2.1,if_pos rfl]
         rfl)
        clear hsv h8 HSTA H6 y1 y2 b0 b1 HB0 HB1 g1 HRES HPO
        go_wp2_with fail
        refine NoPanic.normal ?_
        go_upto_region 14 with fail
        clear d1 k1
        generalize (w6.drewN 1).setCell ⟨mb,off2 + m * 3 + 1,none⟩ (.int .i64 (-1)) = w9 at *
        go_wp2
        go_ret
        exact HF.out _ rfl
      ·skip
       go_upto_region 11 with fail
       refine wp_region_lexK (fun wx=>∃ nq,wx = World.drewN (w6) nq) 7 2 (Array.replicate 9 false) #[true,true,true,true,true,true,true,false,false] (by kernel_rfl) (by kernel_rfl) ?_
       refine wpAnyK_seg 0 7 _ #[true,true,true,true,true,true,true,false,false] 0 (by kernel_rfl) noPanic_put (drew_q w6) (by kernel_rfl) ?_
       simp only [List.take_succ_cons,List.take_zero,List.drop_zero]
       repeat ((first | refine wpSegH_no (by rfl) ?_ | (refine wpSegH_yes (by rfl) ?_;apply Exists.intro;apply And.intro;(· (rintro wx ⟨nq,rfl⟩;go_simp;first | done | with_reducible rfl))));simp only [Act.put,List.setIfInBounds_toArray,List.set_cons_zero,List.set_cons_succ])
       refine wpSegH_nil ?_
       refine wpAnyK_next ?_
       refine wpAnyK_seq 7 (by kernel_rfl) ?_
       simp only [List.drop_succ_cons,List.drop_zero]
       go_wp2_with fail
       refine (HSTA.out _ (H6.out.step (below_dN w6 _))).mono ?_
       rintro r w7 ⟨rfl,rfl⟩
       by_cases hsv:sv = 1
       ·have hsv2:(sv == 1) = true:=by simpa using hsv
        rw [if_pos hsv] at HRES
        have h7:=H6.out.step (below_dN w6 1)
        have y7:=cell_below y1 (below_dN w6 1)
        have HY1:Hid (∀ wx Z,SAt w0 wx b sp L (Y.setM m { Y.m m with L:=LL - 1 }) Z → wx.cell? ⟨mb,off2 + m * 3 + 1,none⟩ = some (.int .i64 (k':Int))):=Lib.hid (fun wx Z hz=>by
         have h2:=(hz.mach HY.out.2.2.2.1 HMA.out).1.2.1
         rw [setM_m HY.out.2.2.1,if_pos rfl] at h2
         simp only at h2
         rw [HY.out.2.1,HGI.out] at h2;exact h2)
        have H7:=Lib.hid h7
        clear hsv h7 HSTA H6 y1 y2 b0 b1 HB0 HB1 g1
        go_wp2_with fail
        refine NoPanic.normal ?_
        go_upto_region 12 with fail
        have h7:=H7.out
        generalize w6.drewN 1 = w7 at *
        have h8:=h7.step (below_drew1 w7)
        refine wp_region_lexK (fun wx=>wx.cell? ⟨mb,off2 + m * 3 + 1,none⟩ = some (.int .i64 (k':Int))) 9 0 (Array.replicate 9 false) #[true,true,true,true,true,true,true,true,true] (by kernel_rfl) (by kernel_rfl) ?_
        refine wpAnyK_seg 0 7 _ #[true,true,true,true,true,true,true,false,false] 2 (by kernel_rfl) noPanic_put (HY1.out _ _ h8) (by kernel_rfl) ?_
        simp only [List.take_succ_cons,List.take_zero,List.drop_zero]
        repeat ((first | refine wpSegH_no (by rfl) ?_ | (refine wpSegH_yes (by rfl) ?_;apply Exists.intro;apply And.intro;(· (intro wx hS;(try dsimp only at hS);go_simp;first | done | with_reducible rfl))));simp only [Act.put,List.setIfInBounds_toArray,List.set_cons_zero,List.set_cons_succ])
        refine wpSegH_nil ?_
        have h9:=h8.box [.int .i64 (k':Int)] 3
        refine wpAnyK_one 7 _ #[true,true,true,true,true,true,true,true,false] 1 (by kernel_rfl) (fun K hK=>?_)
        have HKK:=Lib.hid hK
        clear hK
        simp only [List.drop_succ_cons,List.drop_zero]
        refine headH_mk (by rfl) ?_
        go_simp
        refine HKK.out _ _ (HY1.out _ _ h9) ?_
        clear HKK K
        refine wpAnyK_one 8 _ #[true,true,true,true,true,true,true,true,true] 0 (by kernel_rfl) (fun K hK=>?_)
        have HKK:=Lib.hid hK
        clear hK
        simp only [List.drop_succ_cons,List.drop_zero]
        refine headH_mk (by rfl) ?_
        go_simp
        refine (sd_gput h9 (some ⟨w7.drew.heap.size,0,none⟩) 1 1 [(k':Int)] rfl (RowAt.one w7.drew (k':Int) 3 rfl).ints (by have:=HY.out.2.2.2.2.2;show Y.gl.length + 1 ≤ _;omega)).mono ?_
        rintro r w10 ⟨rfl,h10⟩
        have e10:w10.cell? ⟨mb,off2 + m * 3 + 1,none⟩ = some (.int .i64 (k':Int)):=by
         have h2:w10.cell? ⟨mb,off2 + m * 3 + 1,none⟩ = some (.int .i64 ((Y.setM m { Y.m m with L:=LL - 1 }).m m).G):=(h10.mach (i:=m) HY.out.2.2.2.1 HMA.out).1.2.1
         rw [setM_m HY.out.2.2.1,if_pos rfl] at h2
         simp only at h2
         rw [HY.out.2.1,HGI.out] at h2;exact h2
        refine HKK.out _ _ (e10) ?_
        clear HKK K
        refine wpAnyK_next ?_
        refine wpAnyK_done (by kernel_rfl) (NoPanic.normal ?_)
        have h11:=h10.setG (i:=m) HY.out.2.2.2.1 HMA.out (-1)
        obtain ⟨⟨-,d1,-⟩,-,k1,-⟩:=h10.mach (i:=m) HY.out.2.2.2.1 HMA.out
        have e8:=(h11.less.cel 1 _ rfl).1
        have HF:Hid (∀ rr,rr = Ending.returned (.slice ra i2 rc) → RunP w0 b sp L D s X R j m k' rr (w10.setCell ⟨mb,off2 + m * 3 + 1,none⟩ (.int .i64 (-1)))):=Lib.hid (fun rr e=>by
         rw [e]
         refine HPO.out _ _ h11.less.less ?_
         rw [HRES.out]
         congr 1
         show _ = ({ (Y.setM m { Y.m m with L:=LL - 1 }).setM m { (Y.setM m { Y.m m with L:=LL - 1 }).m m with G:=-1 } with gl:=Y.gl ++ [(k':Int)] }:Sd)
         rw [setM_setM,setM_m HY.out.2.2.1,if_pos rfl])
        clear h7 h8 h9 h10 h11 y7 HRES HPO e10 H7 HY1
        go_upto_region 14 with fail
        clear d1 k1
        generalize w10.setCell ⟨mb,off2 + m * 3 + 1,none⟩ (.int .i64 (-1)) = w11 at *
        go_wp2
        go_ret
        exact HF.out _ rfl
       ·have hsv2:(sv == 1) = false:=by simpa using hsv
        rw [if_neg hsv] at HRES
        have h8:=(H6.out.step (below_dN w6 1)).setG HY.out.2.2.2.1 HMA.out (-1)
        obtain ⟨⟨-,d1,-⟩,-,k1,-⟩:=(H6.out.step (below_dN w6 1)).mach HY.out.2.2.2.1 HMA.out
        have e8:=(h8.cel 1 _ rfl).1
        have HF:Hid (∀ rr,rr = Ending.returned (.slice ra i2 rc) → RunP w0 b sp L D s X R j m k' rr ((w6.drewN 1).setCell ⟨mb,off2 + m * 3 + 1,none⟩ (.int .i64 (-1)))):=Lib.hid (fun rr e=>by
         rw [e]
         refine HPO.out _ _ h8.less ?_
         rw [HRES.out]
         congr 1
         rw [setM_setM,setM_m HY.out.2.2.1,if_pos rfl]
         rfl)
        clear hsv h8 HSTA H6 y1 y2 b0 b1 HB0 HB1 g1 HRES HPO
        go_wp2_with fail
        refine NoPanic.normal ?_
        go_upto_region 14 with fail
        clear d1 k1
        generalize (w6.drewN 1).setCell ⟨mb,off2 + m * 3 + 1,none⟩ (.int .i64 (-1)) = w9 at *
        go_wp2
        go_ret
        exact HF.out _ rfl
  ·exact ⟨rfl,RunP.dry hak hdp hok' (SAt.less (h3.perm List.perm_middle))⟩
end Go.Proofs.YtphfaekpckbepaaGreat
open Go Go.RowKit
set_option linter.unusedVariables false
namespace Go.Proofs.YtphfaekpckbepaaGreat
theorem hold_any {w0 w:World} {b sp:Nat} {L:Sl} {X:Sd} {R:List Asr} (h:SAt w0 w b sp L X R) {m:Nat} (hm:m < X.ms.length) (hn:X.ps.length ≤ 1000) (hn2:X.ms.length ≤ 1000) :
  Calls Tryz.prog 46 #[.pointer (some ⟨b,0,none⟩),.int .i64 (m:Int)] w fun r w'=>r = .returned (.int .i64 (holdM X m).2) ∧ SAt w0 w' b sp L (holdM X m).1 R:=by
 obtain ⟨C12,c12⟩:=h.c12
 obtain ⟨C13,c13⟩:=h.c13
 have HP:=Lib.hid (fun (i:Nat) (hi:i < X.ps.length)=>(by
  obtain ⟨pb,off,p,g,k1,k2⟩:=h.pa hi
  exact ⟨pb,off,p,g,k1,k2,h.proc hi k1 k2⟩:∃ pb off p g,L.pa = some ⟨pb,off,none⟩ ∧ L.ld[i]? = some (p,g) ∧ (w.cell? ⟨pb,off + i * 3,none⟩ = some (.pointer (some ⟨p,0,none⟩)) ∧ w.cell? ⟨pb,off + i * 3 + 1,none⟩ = some (.int .i64 ((X.p i).tu:Int)) ∧ w.cell? ⟨pb,off + i * 3 + 2,none⟩ = some (.int .i64 (X.p i).by_)) ∧
  w.frozen? ⟨pb,off + i * 3 + 1,none⟩ = false ∧ w.frozen? ⟨pb,off + i * 3 + 2,none⟩ = false))
 obtain ⟨mb,off2,hma⟩:=h.ma hm
 rw [hma] at c13
 have HMA:=Lib.hid hma
 have HE:=Lib.hid (fun (i:Nat) (hi:i < X.ps.length) (hb:(X.p i).by_ = -1) (hall:∀ j,j < i → (X.p j).by_ ≠ -1)=>(by
  unfold holdM
  have e:X.ps.findIdx? (fun p=>p.by_ == -1) = some i:=by
   rw [List.findIdx?_eq_some_iff_getElem]
   have eg:∀ j (hj:j < X.ps.length),X.ps[j] = X.p j:=fun j hj=>by
    have:=X.p_at hj;rw [List.getElem?_eq_getElem hj] at this;simpa using this
   exact ⟨hi,by rw [eg i hi];simpa using hb,fun j hj=>by rw [eg j (by omega)];simpa using hall j hj⟩
  rw [e]:holdM X m = ((X.setP i { X.p i with by_:=(m:Int) }).setM m { X.m m with P:=(i:Int) },2)))
 have HN:=Lib.hid (fun (hall:∀ j,j < X.ps.length → (X.p j).by_ ≠ -1)=>(by
  unfold holdM
  have e:X.ps.findIdx? (fun p=>p.by_ == -1) = none:=by
   rw [List.findIdx?_eq_none_iff]
   intro P hP
   obtain ⟨j,hj,rfl⟩:=List.getElem_of_mem hP
   have eg:=X.p_at hj
   rw [List.getElem?_eq_getElem hj] at eg
   simp only [Option.some.injEq] at eg
   rw [eg];simpa using hall j hj
  rw [e]:holdM X m = (X,3)))
 have H:=Lib.hid h
 generalize hrr:holdM X m = rr at *
 have HRR:=Lib.hid hrr
 have hmX:(m:Int) < (X.ms.length:Int):=by omega
 have hm0:(0:Int) ≤ (m:Int):=by omega
 have HMX:=Lib.hid hm
 obtain ⟨N,hN⟩:∃ N,N = X.ps.length:=⟨_,rfl⟩
 have HNN:=Lib.hid hN
 obtain ⟨K,hK⟩:∃ K,K = X.ms.length:=⟨_,rfl⟩
 rw [← hN] at HP HE HN c12 hn
 rw [← hK] at c13 hmX hn2
 have HKK:=Lib.hid hK
 clear h hma hrr hN hK hm
 go_enter Tryz.func46,Tryz.ntmps46
 go_wp2_with fail
 go_loopw [12] (fun iv wr=>∃ i:Nat,i ≤ N ∧ iv = .int .i64 i ∧ wr = w ∧ Hid (∀ j,j < i → (X.p j).by_ ≠ -1)) (fun iv _=>N - (intOf iv).toNat)
 case atStart=>exact ⟨0,by omega,rfl,rfl,Lib.hid (fun j hj=>by omega)⟩
 case round =>
  obtain ⟨i,hi,rfl,rfl,hall⟩:=hrel
  by_cases hlt:i < N
  ·have hlt2:(i:Int) < (N:Int):=by omega
   have hi0:(0:Int) ≤ (i:Int):=by omega
   obtain ⟨pb,off,p,g,hpa,-,⟨x0,x1,x2⟩,y1,y2⟩:=HP.out i hlt
   rw [hpa] at c12
   have HPA:=Lib.hid hpa
   clear hpa x0 x1 y1
   by_cases hby:(X.p i).by_ = -1
   ·have o1:=H.out.setBy (by rw [← HNN.out];exact hlt) HPA.out (m:Int)
    obtain ⟨⟨z0,z1,z2⟩,f0,f1,f2⟩:=o1.mach (i:=m) (by exact HMX.out) HMA.out
    have o2:=o1.setP (i:=m) (by exact HMX.out) HMA.out (i:Int)
    have hres:=HE.out i hlt hby hall.out
    have HFIN:Hid (rr.2 = 2 ∧ SAt w0 ((wr.setCell ⟨pb,off + i * 3 + 2,none⟩ (.int .i64 (m:Int))).setCell ⟨mb,off2 + m * 3,none⟩ (.int .i64 (i:Int))) b sp L rr.1 R):=Lib.hid (by
     rw [hres]
     exact ⟨rfl,o2⟩)
    rw [hby] at x2
    clear o1 o2 hres z1 z2 f1 f2 hby
    go_wp2
    go_ret
    exact ⟨by rw [HFIN.out.1];rfl,HFIN.out.2⟩
   ·have hb2:((X.p i).by_ == -1) = false:=by simpa using hby
    have H2:Hid (∀ j,j < i + 1 → (X.p j).by_ ≠ -1):=Lib.hid (fun j hj=>by
     rcases Nat.lt_succ_iff_lt_or_eq.1 hj with h | h
     ·exact hall.out j h
     ·rw [h];exact hby)
    generalize (X.p i).by_ = bv at *
    clear hby hall
    go_wp2
    exact ⟨⟨i + 1,by omega,by go_num,by trivial,H2⟩,by simp [intOf];omega⟩
  ·obtain rfl:i = N:=by omega
   have hres:=HN.out hall.out
   have HFIN:Hid (rr.2 = 3 ∧ SAt w0 wr b sp L rr.1 R):=Lib.hid (by rw [hres];exact ⟨rfl,H.out⟩)
   clear hres
   go_wp2
   go_ret
   exact ⟨by rw [HFIN.out.1];rfl,HFIN.out.2⟩
def evV (e:Ev) (ra:Option Addr) (rc:Nat):Value:=.agg #[.int .i64 e.kind,.int .i64 e.M,.int .i64 e.G,.slice ra e.rd.length rc]
def evz:List Value:=[.int .i64 0,.int .i64 0,.int .i64 0,.slice none 0 0]
theorem ev_get {w:World} {q:Nat} {a b c:Int} {ra:Option Addr} {n rc:Nat} (e0:w.cell? ⟨q,0,none⟩ = some (.int .i64 a)) (e1:w.cell? ⟨q,1,none⟩ = some (.int .i64 b)) (e2:w.cell? ⟨q,2,none⟩ = some (.int .i64 c)) (e3:w.cell? ⟨q,3,none⟩ = some (.slice ra n rc)) :
  (loadVar 64 ⟨q,0,none⟩).run Tryz.prog w = .ok (.agg #[.int .i64 a,.int .i64 b,.int .i64 c,.slice ra n rc]) w:=by
 simp [go_sem,e0,e1,e2,e3]
theorem stick_any {w0 w:World} {b sp:Nat} {L:Sl} {X:Sd} {R:List Asr} {B:Nat} (h:SAt w0 w b sp L X R) (wf:SdWF B X) (hB:B ≤ 80000) :
  Calls Tryz.prog 45 #[.pointer (some ⟨b,0,none⟩)] w fun r w'=>∃ ra rc,r = .returned (evV (pickedM X X.ms.length 0).2 ra rc) ∧ SAt w0 w' b sp L (pickedM X X.ms.length 0).1 (RowGA 1 ra rc (pickedM X X.ms.length 0).2.rd.length (intc (pickedM X X.ms.length 0).2.rd) :: R):=by
 have hpk:pickedM X X.ms.length 0 = ((clockM X).1,⟨1,-1,-1,(clockM X).2⟩):=by unfold pickedM;rw [if_pos rfl]
 rw [hpk]
 unfold clockM evV
 simp only
 have h1:=h.box evz 64
 have HT:=Lib.hid (sd_tick h1 wf.wf hB)
 have hl:(tickM X.W).2.length ≤ 100:=by
  have tk:=tk_tick wf.wf
  have hw:=wf.wf.tick.1
  refine Nat.le_trans (nodup_len _ _ tk.nd (fun x hx=>?_)) hw.g1.2
  obtain ⟨q,e,-,hs⟩:=tk.st x hx
  refine ⟨by omega,?_⟩
  rcases Nat.lt_or_ge q (tickM X.W).1.gs.length with h1 | h1
  ·omega
  ·rw [g_out (by omega)] at hs;exact absurd hs (by decide)
 have hgl:=wf.gl
 generalize htk:tickM X.W = tk at *
 obtain ⟨W1,rd⟩:=tk
 simp only at HT hl ⊢
 obtain ⟨N,hN⟩:∃ N,N = rd.length:=⟨_,rfl⟩
 rw [← hN] at HT hl ⊢
 have HN:=Lib.hid hN
 have HPUT:=Lib.hid (fun (wx:World) (a:Option Addr) (c:Nat) (Z:List Asr) (hx:SAt w0 wx b sp L { X with W:=W1 } (RowGA 1 a c N (intc rd) :: Z))=>(by
  obtain ⟨S,k1,k2⟩:=hx.tail
  have hr:=Own.rowG k1 0 rfl
  exact sd_gput hx a N c rd HN.out (RowG.to_row hr).1.ints (by rw [← HN.out];show X.gl.length + N ≤ _;omega):Calls Tryz.prog 30 #[.pointer (some ⟨b,14,none⟩),.slice a N c] wx fun r w'=>r = .returned (.tuple #[]) ∧ SAt w0 w' b sp L { X with W:=W1,gl:=X.gl ++ rd } (RowGA 1 a c N (intc rd) :: Z)))
 have H1:=Lib.hid h1
 clear h h1 wf hl hgl htk hN hpk
 unfold evz at H1 HT
 go_enter Tryz.func45,Tryz.ntmps45
 go_upto_region 1 with fail
 generalize w.alloc (.cells [.int .i64 0,.int .i64 0,.int .i64 0,.slice none 0 0].toArray 64) = w1 at *
 go_wp2_with fail
 refine HT.out.mono ?_
 rintro r w2 ⟨ra,rc,rfl,h2⟩
 have HP:=Lib.hid (HPUT.out _ _ _ _ h2)
 clear h2 HPUT HT
 go_wp2_with fail
 refine HP.out.mono ?_
 rintro r w3 ⟨rfl,h3⟩
 have h4:=h3.perm (List.Perm.swap _ _ _)
 generalize w.heap.size = q at *
 obtain ⟨x0,y0⟩:=h4.cel 0 _ rfl
 obtain ⟨x1,y1⟩:=h4.cel 1 _ rfl
 obtain ⟨x2,y2⟩:=h4.cel 2 _ rfl
 obtain ⟨x3,y3⟩:=h4.cel 3 _ rfl
 have h5:=(((h4.setBox 0 (.int .i64 1)).setBox 1 (.int .i64 (-1))).setBox 2 (.int .i64 (-1))).setBox 3 (.slice ra N rc)
 obtain ⟨u0,-⟩:=h5.cel 0 _ rfl
 obtain ⟨u1,-⟩:=h5.cel 1 _ rfl
 obtain ⟨u2,-⟩:=h5.cel 2 _ rfl
 obtain ⟨u3,-⟩:=h5.cel 3 _ rfl
 have H5:=Lib.hid h5.less
 clear h3 h4 h5 H1 HP
 have EG:=ev_get u0 u1 u2 u3
 go_wp2
 exact bodyPost_ret (results_cell Tryz.results45 _ ⟨q,0,none⟩ rfl EG) rfl ⟨ra,rc,rfl,H5.out⟩
theorem perm_two {α:Type _} {a b:α} {A R:List α}:List.Perm (a :: b :: (A ++ R)) (A ++ (a :: b :: R)):=(List.Perm.cons a List.perm_middle.symm).trans List.perm_middle.symm
theorem perm_four {α:Type _} {a b c r:α} {A R:List α}:List.Perm (r :: (A ++ (a :: b :: c :: R))) (a :: b :: c :: r :: (A ++ R)):=(List.Perm.cons r (List.perm_middle.trans (List.Perm.cons a (List.perm_middle.trans (List.Perm.cons b List.perm_middle))))).trans ((List.Perm.swap _ _ _).trans (List.Perm.cons a ((List.Perm.swap _ _ _).trans (List.Perm.cons b (List.Perm.swap _ _ _)))))
theorem perm_three {α:Type _} {a b c:α} {A R:List α}:List.Perm (c :: a :: b :: (A ++ R)) (A ++ (a :: b :: c :: R)):=(List.Perm.cons c perm_two).trans (List.perm_middle.symm.trans (List.Perm.append_left A (List.perm_middle (l₁:=[a,b]) (l₂:=R)).symm))
def PickP (w0:World) (b sp:Nat) (L:Sl) (D:Drw sp) (s:D.T) (X:Sd) (R:List Asr) (j m:Nat) (r:Ending) (w':World):Prop :=
 (∃ v s' ra rc,Fit D s (asks2 X m) v s' ∧ D.ok j s' ∧ r = .returned (evV (pickedM X m v).2 ra rc) ∧ SAt w0 w' b sp L (pickedM X m v).1 (RowGA 1 ra rc (pickedM X m v).2.rd.length (intc (pickedM X m v).2.rd) :: (D.A s' ++ R))) ∨
 (∃ ch s' kd n,r = .panicked ch ∧ asks2 X m = some (kd,n) ∧ D.Dp s kd n r s' ∧ D.ok j s' ∧ SAt w0 w' b sp L X (D.A s' ++ R))
theorem SAt.nilRow {w0 w:World} {b sp:Nat} {L:Sl} {X:Sd} {R:List Asr} (h:SAt w0 w b sp L X R):SAt w0 w b sp L X (RowGA 1 none 0 0 [] :: R):=by
 obtain ⟨S,h1,h2⟩:=h.tail
 exact h2 _ _ (Own.rowNil0 1 h1)
theorem pick_clock {w0 w:World} {b sp:Nat} {L:Sl} {X:Sd} {R:List Asr} {D:Drw sp} {s:D.T} {j B:Nat} (h:SAt w0 w b sp L X (D.A s ++ R)) (hok:D.ok (j + 1) s) (wf:SdWF B X) (hB:B ≤ 80000) :
  Calls Tryz.prog 34 #[.pointer (some ⟨b,0,none⟩),.int .i64 (X.ms.length:Int)] w (PickP w0 b sp L D s X R j X.ms.length):=by
 have h1:=h.box evz 64
 have HT:=Lib.hid (stick_any h1 wf hB)
 obtain ⟨C13,c13⟩:=h1.c13
 have ha:asks2 X X.ms.length = none:=by unfold asks2;rw [if_pos rfl]
 have HEND:Hid (∀ ra rc wx rr,rr = Ending.returned (evV (pickedM X X.ms.length 0).2 ra rc) → SAt w0 wx b sp L (pickedM X X.ms.length 0).1 (RowGA 1 ra rc (pickedM X X.ms.length 0).2.rd.length (intc (pickedM X X.ms.length 0).2.rd) :: (D.A s ++ R)) → PickP w0 b sp L D s X R j X.ms.length rr wx):=Lib.hid (fun ra rc wx rr e hx=>.inl ⟨0,s,ra,rc,.inl ⟨ha,rfl,rfl⟩,D.less _ _ hok,e,hx⟩)
 generalize pickedM X X.ms.length 0 = pk at *
 obtain ⟨Y,k0,M0,G0,rd⟩:=pk
 unfold evV at HT HEND
 simp only at HT HEND
 obtain ⟨K,hK⟩:∃ K,K = X.ms.length:=⟨_,rfl⟩
 rw [← hK] at c13 HEND ⊢
 generalize rd.length = N at *
 clear h h1 hok wf ha hK
 unfold evz at HT c13
 go_enter Tryz.func34,Tryz.ntmps34
 go_upto_region 1 with fail
 generalize w.alloc (.cells [.int .i64 0,.int .i64 0,.int .i64 0,.slice none 0 0].toArray 64) = w1 at *
 go_wp2_with fail
 refine HT.out.mono ?_
 rintro r w2 ⟨ra,rc,rfl,h2⟩
 generalize w.heap.size = q at *
 have h3:=h2.perm (List.Perm.swap _ _ _)
 obtain ⟨x0,y0⟩:=h3.cel 0 _ rfl
 obtain ⟨x1,y1⟩:=h3.cel 1 _ rfl
 obtain ⟨x2,y2⟩:=h3.cel 2 _ rfl
 obtain ⟨x3,y3⟩:=h3.cel 3 _ rfl
 have h5:=(((h3.setBox 0 (.int .i64 k0)).setBox 1 (.int .i64 M0)).setBox 2 (.int .i64 G0)).setBox 3 (.slice ra N rc)
 have EG:=ev_get (h5.cel 0 _ rfl).1 (h5.cel 1 _ rfl).1 (h5.cel 2 _ rfl).1 (h5.cel 3 _ rfl).1
 have H5:=Lib.hid h5.less
 clear h2 h3 h5 HT
 go_wp2
 exact bodyPost_ret (results_cell Tryz.results34 _ ⟨q,0,none⟩ rfl EG) rfl (HEND.out ra rc _ _ rfl H5.out)
theorem pick_hold {w0 w:World} {b sp:Nat} {L:Sl} {X:Sd} {R:List Asr} {D:Drw sp} {s:D.T} {j B:Nat} (h:SAt w0 w b sp L X (D.A s ++ R)) (hok:D.ok (j + 1) s) (wf:SdWF B X) (hB:B ≤ 80000) {m:Nat} (hm:m < X.ms.length) (hP:(X.m m).P = -1) :
  Calls Tryz.prog 34 #[.pointer (some ⟨b,0,none⟩),.int .i64 (m:Int)] w (PickP w0 b sp L D s X R j m):=by
 obtain ⟨mb,off2,hma⟩:=h.ma hm
 have hne:((m:Int) == (X.ms.length:Int)) = false:=by rw [beq_eq_false_iff_ne];omega
 have hnp:=wf.np
 have hnm:=wf.nm
 have hmX:(m:Int) < (X.ms.length:Int):=by omega
 have hm0:(0:Int) ≤ (m:Int):=by omega
 have h1:=h.box evz 64
 obtain ⟨C13,c13⟩:=h1.c13
 rw [hma] at c13
 obtain ⟨K,hK⟩:∃ K,K = X.ms.length:=⟨_,rfl⟩
 have HC13:=Lib.hid (fun (wx:World) (Z:List Asr) (hx:SAt w0 wx b sp L X Z)=>(by
  obtain ⟨C,hc⟩:=hx.c13
  rw [hma,← hK] at hc
  exact ⟨C,hc⟩:∃ C,wx.cell? ⟨b,13,none⟩ = some (.slice (some ⟨mb,off2,none⟩) K C)))
 have HM:=Lib.hid (fun (wx:World) (Z:List Asr) (hx:SAt w0 wx b sp L X Z)=>hx.mach hm hma)
 have H1:=Lib.hid h1
 rw [← hK] at c13 hne hmX
 have ha:asks2 X m = none:=by unfold asks2;rw [if_neg (by omega),if_pos hP]
 have hpk:∀ v,pickedM X m v = ((holdM X m).1,⟨(holdM X m).2,(m:Int),-1,[]⟩):=fun v=>by unfold pickedM;rw [if_neg (by omega),if_pos hP]
 have HH:=Lib.hid (fun (wx:World) (Z:List Asr) (hx:SAt w0 wx b sp L X Z)=>hold_any hx hm (by omega) (by omega))
 have HEND:Hid (∀ wx rr,rr = Ending.returned (.agg #[.int .i64 (holdM X m).2,.int .i64 (m:Int),.int .i64 (-1),.slice none 0 0]) → SAt w0 wx b sp L (holdM X m).1 (D.A s ++ R) → PickP w0 b sp L D s X R j m rr wx):=Lib.hid (fun wx rr e hx=>.inl ⟨0,s,none,0,.inl ⟨ha,rfl,rfl⟩,D.less _ _ hok,by rw [hpk,e];rfl,by rw [hpk];exact hx.nilRow⟩)
 generalize holdM X m = hd at *
 obtain ⟨Y,kd⟩:=hd
 simp only at HH HEND
 rw [hP] at HM
 obtain ⟨mP,hmP⟩:∃ mP:Int,mP = -1:=⟨_,rfl⟩
 generalize (X.m m).G = mG at *
 generalize (X.m m).L = mL at *
 rw [← hmP] at HM
 have HmP:=Lib.hid hmP
 clear h h1 hok wf hnp hnm hma ha hpk hm hP hK hmP
 unfold evz at H1 c13
 go_enter Tryz.func34,Tryz.ntmps34
 go_upto_region 1 with fail
 generalize w.alloc (.cells [.int .i64 0,.int .i64 0,.int .i64 0,.slice none 0 0].toArray 64) = w1 at *
 generalize w.heap.size = q at *
 go_upto_region 4 with fail
 have H2:=Lib.hid (H1.out.box [.int .i64 0,.int .i64 (m:Int),.int .i64 (-1),.slice none 0 0] 64)
 clear H1 c13
 generalize w1.alloc (.cells #[.int .i64 0,.int .i64 (m:Int),.int .i64 (-1),.slice none 0 0] 64) = w2 at *
 generalize w1.heap.size = q5 at *
 obtain ⟨C2,d13⟩:=HC13.out _ _ H2.out
 obtain ⟨⟨z0,z1,z2⟩,-⟩:=HM.out _ _ H2.out
 have H3:=Lib.hid (H2.out.box [.int .i64 mP,.int .i64 mG,.int .i64 mL] 97)
 clear H2
 go_upto_region 6 with fail
 clear z0 z1 z2 d13
 generalize w2.alloc (.cells #[.int .i64 mP,.int .i64 mG,.int .i64 mL] 97) = w3 at *
 generalize w2.heap.size = q6 at *
 have x0:=(H3.out.cel 0 _ rfl).1
 have x1:=(H3.out.cel 1 _ rfl).1
 obtain rfl:=HmP.out
 go_wp2_with fail
 refine (HH.out _ _ H3.out).mono ?_
 rintro r w4 ⟨rfl,h4⟩
 have h5:=h4.less
 obtain ⟨y0,v0⟩:=h5.cel 0 _ rfl
 obtain ⟨y1,v1⟩:=h5.cel 1 _ rfl
 obtain ⟨y2,v2⟩:=h5.cel 2 _ rfl
 obtain ⟨y3,v3⟩:=h5.cel 3 _ rfl
 have h6:=h5.setBox 0 (.int .i64 kd)
 obtain ⟨u0,-⟩:=h6.cel 0 _ rfl
 obtain ⟨u1,-⟩:=h6.cel 1 _ rfl
 obtain ⟨u2,-⟩:=h6.cel 2 _ rfl
 obtain ⟨u3,-⟩:=h6.cel 3 _ rfl
 clear h4 h5 H3 HH HM HC13 x0 x1
 go_upto_region 10 with fail
 clear y0 y1 y2 y3 v0 v1 v2 v3
 generalize w4.setCell ⟨q5,0,none⟩ (.int .i64 kd) = w5 at *
 have h7:=h6.perm (List.Perm.swap _ _ _)
 obtain ⟨p0,r0⟩:=h7.cel 0 _ rfl
 obtain ⟨p1,r1⟩:=h7.cel 1 _ rfl
 obtain ⟨p2,r2⟩:=h7.cel 2 _ rfl
 obtain ⟨p3,r3⟩:=h7.cel 3 _ rfl
 have h8:=(((h7.setBox 0 (.int .i64 kd)).setBox 1 (.int .i64 (m:Int))).setBox 2 (.int .i64 (-1))).setBox 3 (.slice none 0 0)
 have EG:=ev_get (h8.cel 0 _ rfl).1 (h8.cel 1 _ rfl).1 (h8.cel 2 _ rfl).1 (h8.cel 3 _ rfl).1
 have H8:=Lib.hid h8.less.less
 clear h6 h7 h8
 go_wp2
 exact bodyPost_ret (results_cell Tryz.results34 _ ⟨q,0,none⟩ rfl EG) rfl (HEND.out _ _ rfl H8.out)
theorem pick_look {w0 w:World} {b sp:Nat} {L:Sl} {X:Sd} {R:List Asr} {D:Drw sp} {s:D.T} {j B:Nat} (h:SAt w0 w b sp L X (D.A s ++ R)) (hok:D.ok (j + 1) s) (wf:SdWF B X) (hB:B ≤ 80000) {m:Nat} (hm:m < X.ms.length) (hP:(X.m m).P ≠ -1) (hG:(X.m m).G = -1) :
  Calls Tryz.prog 34 #[.pointer (some ⟨b,0,none⟩),.int .i64 (m:Int)] w (PickP w0 b sp L D s X R j m):=by
 obtain ⟨mb,off2,hma⟩:=h.ma hm
 have hne:((m:Int) == (X.ms.length:Int)) = false:=by rw [beq_eq_false_iff_ne];omega
 have hnp:=wf.np
 have hnm:=wf.nm
 have hmX:(m:Int) < (X.ms.length:Int):=by omega
 have hm0:(0:Int) ≤ (m:Int):=by omega
 have h1:=h.box evz 64
 obtain ⟨C13,c13⟩:=h1.c13
 rw [hma] at c13
 obtain ⟨K,hK⟩:∃ K,K = X.ms.length:=⟨_,rfl⟩
 have HC13:=Lib.hid (fun (wx:World) (Z:List Asr) (hx:SAt w0 wx b sp L X Z)=>(by
  obtain ⟨C,hc⟩:=hx.c13
  rw [hma,← hK] at hc
  exact ⟨C,hc⟩:∃ C,wx.cell? ⟨b,13,none⟩ = some (.slice (some ⟨mb,off2,none⟩) K C)))
 have HM:=Lib.hid (fun (wx:World) (Z:List Asr) (hx:SAt w0 wx b sp L X Z)=>hx.mach hm hma)
 have H1:=Lib.hid h1
 rw [← hK] at c13 hne hmX
 have ha:asks2 X m = asksL X m:=by unfold asks2 asksL;rw [if_neg (by omega),if_neg hP,if_pos hG]
 have hpk:∀ v,pickedM X m v = ((lookM X m v.toNat).1,⟨(lookM X m v.toNat).2.1,(m:Int),(lookM X m v.toNat).2.2,[]⟩):=fun v=>by unfold pickedM;rw [if_neg (by omega),if_neg hP,if_pos hG]
 have HH:=Lib.hid (fun (wx:World) (Z:List Asr) (hx:SAt w0 wx b sp L X (D.A s ++ Z))=>look_any hx hok wf hB hm hP hG)
 have HEND:Hid (∀ v s' wx rr,Fit D s (asksL X m) v s' → D.ok j s' → rr = Ending.returned (.agg #[.int .i64 (lookM X m v.toNat).2.1,.int .i64 (m:Int),.int .i64 (lookM X m v.toNat).2.2,.slice none 0 0]) → SAt w0 wx b sp L (lookM X m v.toNat).1 (D.A s' ++ R) → PickP w0 b sp L D s X R j m rr wx):=Lib.hid (fun v s' wx rr hf ho e hx=>.inl ⟨v,s',none,0,by rw [ha];exact hf,ho,by rw [hpk,e];rfl,by rw [hpk];exact hx.nilRow⟩)
 have HDRY:Hid (∀ ch s' kd n wx,asksL X m = some (kd,n) → D.Dp s kd n (.panicked ch) s' → D.ok j s' → SAt w0 wx b sp L X (D.A s' ++ R) → PickP w0 b sp L D s X R j m (.panicked ch) wx):=Lib.hid (fun ch s' kd n wx e h1 h2 h3=>.inr ⟨ch,s',kd,n,rfl,by rw [ha];exact e,h1,h2,h3⟩)
 have hPb:((X.m m).P == -1) = false:=by simpa using hP
 rw [hG] at HM
 obtain ⟨mG,hmG⟩:∃ mG:Int,mG = -1:=⟨_,rfl⟩
 generalize (X.m m).P = mP at *
 generalize (X.m m).L = mL at *
 rw [← hmG] at HM
 have HmG:=Lib.hid hmG
 clear h h1 hok wf hnp hnm hma ha hpk hm hP hG hK hmG
 unfold evz at H1 c13
 go_enter Tryz.func34,Tryz.ntmps34
 go_upto_region 1 with fail
 generalize w.alloc (.cells [.int .i64 0,.int .i64 0,.int .i64 0,.slice none 0 0].toArray 64) = w1 at *
 generalize w.heap.size = q at *
 go_upto_region 4 with fail
 have H2:=Lib.hid (H1.out.box [.int .i64 0,.int .i64 (m:Int),.int .i64 (-1),.slice none 0 0] 64)
 clear H1 c13
 generalize w1.alloc (.cells #[.int .i64 0,.int .i64 (m:Int),.int .i64 (-1),.slice none 0 0] 64) = w2 at *
 generalize w1.heap.size = q5 at *
 obtain ⟨C2,d13⟩:=HC13.out _ _ H2.out
 obtain ⟨⟨z0,z1,z2⟩,-⟩:=HM.out _ _ H2.out
 have H3:=Lib.hid (H2.out.box [.int .i64 mP,.int .i64 mG,.int .i64 mL] 97)
 clear H2
 go_upto_region 6 with fail
 clear z0 z1 z2 d13
 generalize w2.alloc (.cells #[.int .i64 mP,.int .i64 mG,.int .i64 mL] 97) = w3 at *
 generalize w2.heap.size = q6 at *
 have x0:=(H3.out.cel 0 _ rfl).1
 have x1:=(H3.out.cel 1 _ rfl).1
 obtain rfl:=HmG.out
 have H3b:Hid (SAt w0 w3 b sp L X (D.A s ++ (CelA q5 [.int .i64 0,.int .i64 (m:Int),.int .i64 (-1),.slice none 0 0] :: CelA q [.int .i64 0,.int .i64 0,.int .i64 0,.slice none 0 0] :: R))):=Lib.hid (H3.out.less.perm perm_two)
 go_wp2_with fail
 refine (HH.out _ _ H3b.out).mono ?_
 intro r w4 hp
 clear H3 H3b HH HM HC13 x0 x1
 rcases hp with ⟨v,s',hf,ho,rfl,h4⟩ | ⟨ch,s',kd,n,rfl,hk,hdp,ho,h4⟩
 ·have HF:=Lib.hid (And.intro hf ho)
  unfold turnV at h4 ⊢
  simp only at h4 ⊢
  have HE2:=Lib.hid (HEND.out v s')
  clear hf ho HEND HDRY
  generalize lookM X m v.toNat = lk at *
  obtain ⟨Y,kd,gg⟩:=lk
  simp only at h4 HE2 ⊢
  have h5:=h4.perm perm_two.symm
  obtain ⟨y0,v0⟩:=h5.cel 0 _ rfl
  obtain ⟨y1,v1⟩:=h5.cel 1 _ rfl
  obtain ⟨y2,v2⟩:=h5.cel 2 _ rfl
  obtain ⟨y3,v3⟩:=h5.cel 3 _ rfl
  have h6:=(h5.setBox 0 (.int .i64 kd)).setBox 2 (.int .i64 gg)
  obtain ⟨u0,-⟩:=h6.cel 0 _ rfl
  obtain ⟨u1,-⟩:=h6.cel 1 _ rfl
  obtain ⟨u2,-⟩:=h6.cel 2 _ rfl
  obtain ⟨u3,-⟩:=h6.cel 3 _ rfl
  clear h4 h5
  go_upto_region 10 with fail
  clear y0 y1 y2 y3 v0 v1 v2 v3
  generalize (w4.setCell ⟨q5,0,none⟩ (.int .i64 kd)).setCell ⟨q5,2,none⟩ (.int .i64 gg) = w5 at *
  have h7:=h6.perm (List.Perm.swap _ _ _)
  obtain ⟨p0,r0⟩:=h7.cel 0 _ rfl
  obtain ⟨p1,r1⟩:=h7.cel 1 _ rfl
  obtain ⟨p2,r2⟩:=h7.cel 2 _ rfl
  obtain ⟨p3,r3⟩:=h7.cel 3 _ rfl
  have h8:=(((h7.setBox 0 (.int .i64 kd)).setBox 1 (.int .i64 (m:Int))).setBox 2 (.int .i64 gg)).setBox 3 (.slice none 0 0)
  have EG:=ev_get (h8.cel 0 _ rfl).1 (h8.cel 1 _ rfl).1 (h8.cel 2 _ rfl).1 (h8.cel 3 _ rfl).1
  have H8:=Lib.hid h8.less.less
  clear h6 h7 h8
  go_wp2
  exact bodyPost_ret (results_cell Tryz.results34 _ ⟨q,0,none⟩ rfl EG) rfl (HE2.out _ _ HF.out.1 HF.out.2 rfl H8.out)
 ·exact ⟨rfl,HDRY.out ch s' kd n _ hk hdp ho (SAt.less (SAt.less (h4.perm perm_two.symm)))⟩
theorem pick_run {w0 w:World} {b sp:Nat} {L:Sl} {X:Sd} {R:List Asr} {D:Drw sp} {s:D.T} {j B:Nat} (h:SAt w0 w b sp L X (D.A s ++ R)) (hok:D.ok (j + 1) s) (wf:SdWF B X) (hB:B ≤ 80000) {m:Nat} (hm:m < X.ms.length) (hP:(X.m m).P ≠ -1) (hG:(X.m m).G ≠ -1) (hen:X.W.en = 0) :
  Calls Tryz.prog 34 #[.pointer (some ⟨b,0,none⟩),.int .i64 (m:Int)] w (PickP w0 b sp L D s X R j m):=by
 obtain ⟨mb,off2,hma⟩:=h.ma hm
 have hne:((m:Int) == (X.ms.length:Int)) = false:=by rw [beq_eq_false_iff_ne];omega
 have hnp:=wf.np
 have hnm:=wf.nm
 have hmX:(m:Int) < (X.ms.length:Int):=by omega
 have hm0:(0:Int) ≤ (m:Int):=by omega
 have h1:=h.box evz 64
 obtain ⟨C13,c13⟩:=h1.c13
 rw [hma] at c13
 obtain ⟨K,hK⟩:∃ K,K = X.ms.length:=⟨_,rfl⟩
 have HC13:=Lib.hid (fun (wx:World) (Z:List Asr) (hx:SAt w0 wx b sp L X Z)=>(by
  obtain ⟨C,hc⟩:=hx.c13
  rw [hma,← hK] at hc
  exact ⟨C,hc⟩:∃ C,wx.cell? ⟨b,13,none⟩ = some (.slice (some ⟨mb,off2,none⟩) K C)))
 have HM:=Lib.hid (fun (wx:World) (Z:List Asr) (hx:SAt w0 wx b sp L X Z)=>hx.mach hm hma)
 have H1:=Lib.hid h1
 rw [← hK] at c13 hne hmX
 obtain ⟨k,hk,-,-⟩:=wf.lets hm hG
 have ha:asks2 X m = asksE X.W k:=by
  unfold asks2 asksE Sd.ins
  rw [if_neg (by omega),if_neg hP,if_neg hG,hk,Int.toNat_natCast]
 have hpk:∀ v,pickedM X m v = ((runM X m v).1,⟨7,(m:Int),(k:Int),(runM X m v).2⟩):=fun v=>by unfold pickedM;rw [if_neg (by omega),if_neg hP,if_neg hG,hk]
 have HH:=Lib.hid (fun (wx:World) (Z:List Asr) (hx:SAt w0 wx b sp L X (D.A s ++ Z))=>run_any hx hok wf hB hm hP hG hen hk)
 have HEND:Hid (∀ v s' ra rc wx rr,Fit D s (asksE X.W k) v s' → D.ok j s' → rr = Ending.returned (.agg #[.int .i64 7,.int .i64 (m:Int),.int .i64 (k:Int),.slice ra (runM X m v).2.length rc]) → SAt w0 wx b sp L (runM X m v).1 (RowGA 1 ra rc (runM X m v).2.length (intc (runM X m v).2) :: (D.A s' ++ R)) → PickP w0 b sp L D s X R j m rr wx):=Lib.hid (fun v s' ra rc wx rr hf ho e hx=>.inl ⟨v,s',ra,rc,by rw [ha];exact hf,ho,by rw [hpk,e];rfl,by rw [hpk];exact hx⟩)
 have HDRY:Hid (∀ ch s' kd n wx,asksE X.W k = some (kd,n) → D.Dp s kd n (.panicked ch) s' → D.ok j s' → SAt w0 wx b sp L X (D.A s' ++ R) → PickP w0 b sp L D s X R j m (.panicked ch) wx):=Lib.hid (fun ch s' kd n wx e h1 h2 h3=>.inr ⟨ch,s',kd,n,rfl,by rw [ha];exact e,h1,h2,h3⟩)
 have hPb:((X.m m).P == -1) = false:=by simpa using hP
 have hGb:((k:Int) == -1) = false:=by rw [beq_eq_false_iff_ne];omega
 rw [hk] at HM
 obtain ⟨mG,hmG⟩:∃ mG:Int,mG = (k:Int):=⟨_,rfl⟩
 generalize (X.m m).P = mP at *
 generalize (X.m m).L = mL at *
 rw [← hmG] at HM hGb
 have HmG:=Lib.hid hmG
 clear h h1 hok wf hnp hnm hma ha hpk hm hP hG hK hmG hen hk
 unfold evz at H1 c13
 go_enter Tryz.func34,Tryz.ntmps34
 go_upto_region 1 with fail
 generalize w.alloc (.cells [.int .i64 0,.int .i64 0,.int .i64 0,.slice none 0 0].toArray 64) = w1 at *
 generalize w.heap.size = q at *
 go_upto_region 4 with fail
 have H2:=Lib.hid (H1.out.box [.int .i64 0,.int .i64 (m:Int),.int .i64 (-1),.slice none 0 0] 64)
 clear H1 c13
 generalize w1.alloc (.cells #[.int .i64 0,.int .i64 (m:Int),.int .i64 (-1),.slice none 0 0] 64) = w2 at *
 generalize w1.heap.size = q5 at *
 obtain ⟨C2,d13⟩:=HC13.out _ _ H2.out
 obtain ⟨⟨z0,z1,z2⟩,-⟩:=HM.out _ _ H2.out
 have H3:=Lib.hid (H2.out.box [.int .i64 mP,.int .i64 mG,.int .i64 mL] 97)
 clear H2
 go_upto_region 6 with fail
 clear z0 z1 z2 d13
 generalize w2.alloc (.cells #[.int .i64 mP,.int .i64 mG,.int .i64 mL] 97) = w3 at *
 generalize w2.heap.size = q6 at *
 have x0:=(H3.out.cel 0 _ rfl).1
 have x1:=(H3.out.cel 1 _ rfl).1
 have H3b:Hid (SAt w0 w3 b sp L X (D.A s ++ (CelA q5 [.int .i64 0,.int .i64 (m:Int),.int .i64 (-1),.slice none 0 0] :: CelA q [.int .i64 0,.int .i64 0,.int .i64 0,.slice none 0 0] :: CelA q6 [.int .i64 mP,.int .i64 mG,.int .i64 mL] :: R))):=Lib.hid (H3.out.perm perm_three)
 have HS:Hid (∀ wx Y A,SAt w0 wx b sp L Y (A ++ (CelA q5 [.int .i64 0,.int .i64 (m:Int),.int .i64 (-1),.slice none 0 0] :: CelA q [.int .i64 0,.int .i64 0,.int .i64 0,.slice none 0 0] :: CelA q6 [.int .i64 mP,.int .i64 mG,.int .i64 mL] :: R)) → wx.cell? ⟨q6,1,none⟩ = some (.int .i64 mG)):=Lib.hid (fun wx Y A hx=>((hx.perm perm_three.symm).cel 1 _ rfl).1)
 go_upto_region 5 with fail
 have x1:=HS.out _ _ _ H3b.out
 clear H3 HM HC13 x0
 refine wp_region_lexP (fun wx=>wx.cell? ⟨q6,1,none⟩ = some (.int .i64 mG)) 11 (Array.replicate 11 false) (by kernel_rfl) (by kernel_rfl) ?_
 have h4:=H3b.out.step (below_drew1 w3)
 generalize w3.drew = w4 at *
 refine wpAnyH_seg 0 4 _ #[true,true,true,true,false,false,false,false,false,false,false] 7 (by kernel_rfl) (fun d _ _ _ _=>by cases d <;> exact fun h=>h) (HS.out _ _ _ h4) (by kernel_rfl) ?_
 simp only [List.take_succ_cons,List.take_zero,List.drop_zero]
 repeat ((first | refine wpSegH_no (by rfl) ?_ | (refine wpSegH_yes (by rfl) ?_;apply Exists.intro;apply And.intro;(· (intro wx hS;(try dsimp only at hS);go_simp;first | done | with_reducible rfl))));simp only [Act.put,List.setIfInBounds_toArray,List.set_cons_zero,List.set_cons_succ])
 refine wpSegH_nil ?_
 refine wpAnyH_seg 5 1 _ #[true,true,true,true,false,true,false,false,false,false,false] 6 (by kernel_rfl) (fun d _ _ _ _=>by cases d <;> exact fun h=>h) (HS.out _ _ _ h4) (by kernel_rfl) ?_
 simp only [List.take_succ_cons,List.take_zero,List.drop_succ_cons,List.drop_zero]
 repeat ((first | refine wpSegH_no (by rfl) ?_ | (refine wpSegH_yes (by rfl) ?_;apply Exists.intro;apply And.intro;(· (intro wx hS;(try dsimp only at hS);go_simp;first | done | with_reducible rfl))));simp only [Act.put,List.setIfInBounds_toArray,List.set_cons_zero,List.set_cons_succ])
 refine wpSegH_nil ?_
 refine wpAnyH_one 4 _ #[true,true,true,true,true,true,false,false,false,false,false] 5 (by kernel_rfl) (fun K hK=>?_)
 have HKK:=Lib.hid hK
 clear hK
 simp only [List.drop_succ_cons,List.drop_zero]
 refine headH_mk (by rfl) ?_
 go_simp
 refine (HH.out _ _ h4).mono ?_
 intro r w5 hp
 rcases hp with ⟨v,s',ra,rc,hf,ho,rfl,h5⟩ | ⟨ch,s',kd,n,rfl,hkk,hdp,ho,h5⟩
 ·have HF:=Lib.hid (And.intro hf ho)
  have HE2:=Lib.hid (HEND.out v s')
  clear hf ho HEND HDRY HH H3b x1 h4
  generalize runM X m v = lk at *
  obtain ⟨Y,rd⟩:=lk
  simp only at h5 HE2 ⊢
  have HX:=Lib.hid (HE2.out ra rc)
  clear HE2
  generalize rd.length = N at *
  have h6:SAt w0 w5 b sp L Y (CelA q5 [.int .i64 0,.int .i64 (m:Int),.int .i64 (-1),.slice none 0 0] :: CelA q [.int .i64 0,.int .i64 0,.int .i64 0,.slice none 0 0] :: CelA q6 [.int .i64 mP,.int .i64 mG,.int .i64 mL] :: RowGA 1 ra rc N (intc rd) :: (D.A s' ++ R)):=h5.perm perm_four
  have HS5:Hid (∀ wx c0 c2 c3 Z,SAt w0 wx b sp L Y (CelA q5 [c0,.int .i64 (m:Int),c2,c3] :: CelA q [.int .i64 0,.int .i64 0,.int .i64 0,.slice none 0 0] :: CelA q6 [.int .i64 mP,.int .i64 mG,.int .i64 mL] :: Z) → wx.cell? ⟨q6,1,none⟩ = some (.int .i64 mG)):=Lib.hid (fun wx c0 c2 c3 Z hx=>(hx.less.less.cel 1 _ rfl).1)
  refine HKK.out _ _ (HS5.out _ _ _ _ _ h6) ?_
  clear HKK K
  obtain ⟨y0,v0⟩:=h6.cel 0 _ rfl
  have h7:=h6.setBox 0 (.int .i64 7)
  refine wpAnyH_one 6 _ #[true,true,true,true,true,true,true,false,false,false,false] 4 (by kernel_rfl) (fun K hK=>?_)
  have HKK:=Lib.hid hK
  clear hK
  simp only [List.drop_succ_cons,List.drop_zero]
  refine headH_mk (by rfl) ?_
  go_simp
  refine HKK.out _ _ (HS5.out _ _ _ _ _ h7) ?_
  clear HKK K
  refine wpAnyH_seg 7 1 _ #[true,true,true,true,true,true,true,true,false,false,false] 3 (by kernel_rfl) (fun d _ _ _ _=>by cases d <;> exact fun h=>h) (HS5.out _ _ _ _ _ h7) (by kernel_rfl) ?_
  simp only [List.take_succ_cons,List.take_zero,List.drop_succ_cons,List.drop_zero]
  repeat ((first | refine wpSegH_no (by rfl) ?_ | (refine wpSegH_yes (by rfl) ?_;apply Exists.intro;apply And.intro;(· (intro wx hS;(try dsimp only at hS);go_simp;first | done | with_reducible rfl))));simp only [Act.put,List.setIfInBounds_toArray,List.set_cons_zero,List.set_cons_succ])
  refine wpSegH_nil ?_
  generalize w5.setCell ⟨q5,0,none⟩ (.int .i64 7) = w6 at *
  clear y0 v0
  obtain ⟨y2,v2⟩:=h7.cel 2 _ rfl
  have h8:=h7.setBox 2 (.int .i64 mG)
  refine wpAnyH_one 8 _ #[true,true,true,true,true,true,true,true,true,false,false] 2 (by kernel_rfl) (fun K hK=>?_)
  have HKK:=Lib.hid hK
  clear hK
  simp only [List.drop_succ_cons,List.drop_zero]
  refine headH_mk (by rfl) ?_
  go_simp
  refine HKK.out _ _ (HS5.out _ _ _ _ _ h8) ?_
  clear HKK K
  refine wpAnyH_seg 9 1 _ #[true,true,true,true,true,true,true,true,true,true,false] 1 (by kernel_rfl) (fun d _ _ _ _=>by cases d <;> exact fun h=>h) (HS5.out _ _ _ _ _ h8) (by kernel_rfl) ?_
  simp only [List.take_succ_cons,List.take_zero,List.drop_succ_cons,List.drop_zero]
  repeat ((first | refine wpSegH_no (by rfl) ?_ | (refine wpSegH_yes (by rfl) ?_;apply Exists.intro;apply And.intro;(· (intro wx hS;(try dsimp only at hS);go_simp;first | done | with_reducible rfl))));simp only [Act.put,List.setIfInBounds_toArray,List.set_cons_zero,List.set_cons_succ])
  refine wpSegH_nil ?_
  generalize w6.setCell ⟨q5,2,none⟩ (.int .i64 mG) = w7 at *
  clear y2 v2
  obtain ⟨y3,v3⟩:=h8.cel 3 _ rfl
  have h9:=h8.setBox 3 (.slice ra N rc)
  refine wpAnyH_one 10 _ #[true,true,true,true,true,true,true,true,true,true,true] 0 (by kernel_rfl) (fun K hK=>?_)
  have HKK:=Lib.hid hK
  clear hK
  simp only [List.drop_succ_cons,List.drop_zero]
  refine headH_mk (by rfl) ?_
  go_simp
  refine HKK.out _ _ (HS5.out _ _ _ _ _ h9) ?_
  clear HKK K
  refine wpAnyH_done (by kernel_rfl) (?_) _
  generalize w7.setCell ⟨q5,3,none⟩ (.slice ra N rc) = w8 at *
  clear y3 v3 h5 h6 h7 h8 HS HS5
  obtain ⟨u0,-⟩:=h9.cel 0 _ rfl
  obtain ⟨u1,-⟩:=h9.cel 1 _ rfl
  obtain ⟨u2,-⟩:=h9.cel 2 _ rfl
  obtain ⟨u3,-⟩:=h9.cel 3 _ rfl
  have ha:=h9.perm (List.Perm.swap _ _ _)
  obtain ⟨p0,r0⟩:=ha.cel 0 _ rfl
  obtain ⟨p1,r1⟩:=ha.cel 1 _ rfl
  obtain ⟨p2,r2⟩:=ha.cel 2 _ rfl
  obtain ⟨p3,r3⟩:=ha.cel 3 _ rfl
  have h8:=(((ha.setBox 0 (.int .i64 7)).setBox 1 (.int .i64 (m:Int))).setBox 2 (.int .i64 mG)).setBox 3 (.slice ra N rc)
  have EG:=ev_get (h8.cel 0 _ rfl).1 (h8.cel 1 _ rfl).1 (h8.cel 2 _ rfl).1 (h8.cel 3 _ rfl).1
  have H8:=Lib.hid h8.less.less.less
  clear ha h8 h9
  go_wp2
  exact bodyPost_ret (results_cell Tryz.results34 _ ⟨q,0,none⟩ rfl EG) rfl (HX.out _ _ HF.out.1 HF.out.2 (by rw [HmG.out]) H8.out)
 ·exact ⟨rfl,HDRY.out ch s' kd n _ hkk hdp ho (SAt.less (SAt.less (SAt.less (h5.perm perm_three.symm))))⟩
end Go.Proofs.YtphfaekpckbepaaGreat

open Go Go.RowKit
set_option linter.unusedVariables false
namespace Go.Proofs.YtphfaekpckbepaaGreat
theorem st_near (X:Sd) (i:Nat):(nearM X i).1.st = X.st:=by unfold nearM;split <;> (try split) <;> rfl
theorem st_new (X:Sd) (i v:Nat):(newTurnM X i v).1.st = X.st:=by
 have h:=st_near (turnM X i) i
 unfold newTurnM
 simp only
 split
 ·exact h
 ·split
  ·split <;> exact h
  ·exact h
theorem st_look (X:Sd) (m v:Nat):(lookM X m v).1.st = X.st:=by
 unfold lookM
 simp only
 split
 ·rfl
 ·split <;> exact st_new X _ _
theorem st_ready:∀ (l:List Int) (X:Sd) (i:Nat),(readyA X i l).st = X.st
 | [],X,i=>rfl
 | g :: t,X,i=>st_ready t _ i
theorem st_run (X:Sd) (m:Nat) (v:Int):(runM X m v).1.st = X.st:=by
 unfold runM
 simp only
 split <;> exact st_ready _ _ _
theorem st_hold (X:Sd) (m:Nat):(holdM X m).1.st = X.st:=by unfold holdM;split <;> rfl
theorem st_pick (X:Sd) (m:Nat) (v:Int):(pickedM X m v).1.st = X.st:=by
 unfold pickedM
 split
 ·rfl
 ·split
  ·exact st_hold X m
  ·split
   ·exact st_look X m _
   ·exact st_run X m v
theorem ms_near (X:Sd) (i:Nat):(nearM X i).1.ms = X.ms:=by unfold nearM;split <;> (try split) <;> rfl
theorem ms_new (X:Sd) (i v:Nat):(newTurnM X i v).1.ms = X.ms:=by
 have h:=ms_near (turnM X i) i
 unfold newTurnM
 simp only
 split
 ·exact h
 ·split
  ·split <;> exact h
  ·exact h
theorem ms_ready:∀ (l:List Int) (X:Sd) (i:Nat),(readyA X i l).ms = X.ms
 | [],X,i=>rfl
 | g :: t,X,i=>ms_ready t _ i
theorem ms_pick (X:Sd) (m:Nat) (v:Int):(pickedM X m v).1.ms.length = X.ms.length:=by
 unfold pickedM
 split
 ·rfl
 ·split
  ·unfold holdM;split <;> simp [Sd.setM,Sd.setP]
  ·split
   ·unfold lookM
    simp only
    split
    ·simp [Sd.setM,Sd.setP]
    ·split <;> simp [Sd.setM,Sd.setP,ms_new]
   ·unfold runM
    simp only
    split <;> simp [Sd.setM,Sd.setP,ms_ready]
def StepP (w0:World) (b sp:Nat) (L:Sl) (D:Drw sp) (s:D.T) (X:Sd) (R:List Asr) (j:Nat) (r:Ending) (w':World):Prop :=
 (∃ m:Nat,∃ v s1 s' ra rc,m ≤ X.ms.length ∧ D.Dv s 1 ((X.ms.length:Int) + 1) (m:Int) s1 ∧ Fit D s1 (asks2 X m) v s' ∧ D.ok j s' ∧ r = .returned (evV (stepM X m v).2 ra rc) ∧ SAt w0 w' b sp L (stepM X m v).1 (RowGA 1 ra rc (stepM X m v).2.rd.length (intc (stepM X m v).2.rd) :: (D.A s' ++ R))) ∨
 (∃ ch s',r = .panicked ch ∧ (D.Dp s 1 ((X.ms.length:Int) + 1) r s' ∨ ∃ m:Nat,∃ s1 kd n,m ≤ X.ms.length ∧ D.Dv s 1 ((X.ms.length:Int) + 1) (m:Int) s1 ∧ asks2 X m = some (kd,n) ∧ D.Dp s1 kd n r s') ∧ D.ok j s' ∧ SAt w0 w' b sp L X (D.A s' ++ R))
theorem pick_any {w0 w:World} {b sp:Nat} {L:Sl} {X:Sd} {R:List Asr} {D:Drw sp} {s:D.T} {j B:Nat} (h:SAt w0 w b sp L X (D.A s ++ R)) (hok:D.ok (j + 1) s) (wf:SdWF B X) (hB:B ≤ 80000) (hen:X.W.en = 0) {m:Nat} (hm:m ≤ X.ms.length) :
  Calls Tryz.prog 34 #[.pointer (some ⟨b,0,none⟩),.int .i64 (m:Int)] w (PickP w0 b sp L D s X R j m):=by
 by_cases e:m = X.ms.length
 ·subst e;exact pick_clock h hok wf hB
 ·have hml:m < X.ms.length:=by omega
  by_cases hP:(X.m m).P = -1
  ·exact pick_hold h hok wf hB hml hP
  ·by_cases hG:(X.m m).G = -1
   ·exact pick_look h hok wf hB hml hP hG
   ·exact pick_run h hok wf hB hml hP hG hen
theorem perm_five {α:Type _} {a c r:α} {A R:List α}:List.Perm (r :: (A ++ (a :: c :: R))) (a :: c :: r :: (A ++ R)):=(List.Perm.cons r (List.perm_middle.trans (List.Perm.cons a List.perm_middle))).trans ((List.Perm.swap _ _ _).trans (List.Perm.cons a (List.Perm.swap _ _ _)))
theorem step_any {w0 w:World} {b sp:Nat} {L:Sl} {X:Sd} {R:List Asr} {D:Drw sp} {s:D.T} {j B:Nat} (h:SAt w0 w b sp L X (D.A s ++ R)) (hok:D.ok (j + 2) s) (wf:SdWF B X) (hB:B ≤ 80000) (hov:overM X = 0) (hen:X.W.en = 0) :
  Calls Tryz.prog 20 #[.pointer (some ⟨b,0,none⟩)] w (StepP w0 b sp L D s X R j):=by
 have hnm:=wf.nm
 have h1:=(h.box evz 64).perm List.perm_middle.symm
 have hg1:=wf.wf.g1
 have HSTAT:=Lib.hid (stat_any h1 (by omega))
 rw [hov] at HSTAT
 have HDR:=Lib.hid (fun (wx:World) (n:Int) (Z:List Asr) (hn:n = (X.ms.length:Int) + 1) (hx:SAt w0 wx b sp L X (D.A s ++ Z))=>(by
  subst hn
  obtain ⟨S,k1,k2⟩:=hx.tail
  rw [List.append_assoc] at k1
  refine (D.hd s 1 ((X.ms.length:Int) + 1) (Z ++ S) (j + 1) hok ⟨by omega,by omega⟩ k1).mono (fun r w' hh=>?_)
  rcases hh with ⟨v,s',a1,a2,a3,a4,a5⟩ | ⟨ch,s',a1,a2,a3,a4⟩
  ·exact .inl ⟨v.toNat,s',by rw [a1];congr 2;omega,by omega,by rw [show ((v.toNat:Nat):Int) = v by omega];exact a3,a4,k2 _ _ (by rw [List.append_assoc];exact a5)⟩
  ·exact .inr ⟨ch,s',a1,a2,D.less _ _ a3,k2 _ _ (by rw [List.append_assoc];exact a4)⟩:Calls Tryz.prog 35 #[.pointer (some ⟨sp,0,none⟩),.int .i64 1,.int .i64 n] wx fun r w' =>
   (∃ m:Nat,∃ s1,r = .returned (.int .i64 (m:Int)) ∧ m ≤ X.ms.length ∧ D.Dv s 1 ((X.ms.length:Int) + 1) (m:Int) s1 ∧ D.ok (j + 1) s1 ∧ SAt w0 w' b sp L X (D.A s1 ++ Z)) ∨ (∃ ch s',r = .panicked ch ∧ D.Dp s 1 ((X.ms.length:Int) + 1) r s' ∧ D.ok j s' ∧ SAt w0 w' b sp L X (D.A s' ++ Z))))
 have HPK:=Lib.hid (fun (wx:World) (s1:D.T) (m:Nat) (Z:List Asr) (ho:D.ok (j + 1) s1) (hm:m ≤ X.ms.length) (hx:SAt w0 wx b sp L X (D.A s1 ++ Z))=>pick_any hx ho wf hB hen hm)
 have hst:=wf.st
 have HEND:Hid (∀ (m:Nat) v s1 s' ra rc wx rr,m ≤ X.ms.length → D.Dv s 1 ((X.ms.length:Int) + 1) (m:Int) s1 → Fit D s1 (asks2 X m) v s' → D.ok j s' → rr = Ending.returned (evV (pickedM X m v).2 ra rc) → SAt w0 wx b sp L { (pickedM X m v).1 with st:=(pickedM X m v).1.st + 1 } (RowGA 1 ra rc (pickedM X m v).2.rd.length (intc (pickedM X m v).2.rd) :: (D.A s' ++ R)) → StepP w0 b sp L D s X R j rr wx):=Lib.hid (fun m v s1 s' ra rc wx rr h1 h2 h3 h4 h5 h6=>.inl ⟨m,v,s1,s',ra,rc,h1,h2,h3,h4,h5,by rw [st_pick] at h6;exact h6⟩)
 have HST:Hid (∀ m v,(pickedM X m v).1.st ≤ 80000):=Lib.hid (fun m v=>by rw [st_pick];omega)
 have HD1:Hid (∀ ch s' wx,D.Dp s 1 ((X.ms.length:Int) + 1) (.panicked ch) s' → D.ok j s' → SAt w0 wx b sp L X (D.A s' ++ R) → StepP w0 b sp L D s X R j (.panicked ch) wx):=Lib.hid (fun ch s' wx h1 h2 h3=>.inr ⟨ch,s',rfl,.inl h1,h2,h3⟩)
 have HD2:Hid (∀ ch (m:Nat) s1 s' kd n wx,m ≤ X.ms.length → D.Dv s 1 ((X.ms.length:Int) + 1) (m:Int) s1 → asks2 X m = some (kd,n) → D.Dp s1 kd n (.panicked ch) s' → D.ok j s' → SAt w0 wx b sp L X (D.A s' ++ R) → StepP w0 b sp L D s X R j (.panicked ch) wx):=Lib.hid (fun ch m s1 s' kd n wx h0 h1 h2 h3 h4 h5=>.inr ⟨ch,s',rfl,.inr ⟨m,s1,kd,n,h0,h1,h2,h3⟩,h4,h5⟩)
 have HSB:Hid (∀ wx (Y:Sd) Z,SAt w0 wx b sp L Y Z → Y.ms.length = X.ms.length → wx.cell? ⟨b,11,none⟩ = some (.pointer (some ⟨sp,0,none⟩)) ∧ wx.cell? ⟨b,13,none⟩ = some (.slice L.ma X.ms.length L.mc)):=Lib.hid (fun wx Y Z hx e=>⟨hx.c11,by rw [← e];exact hx.c13'⟩)
 have HLM:Hid (∀ m v,m ≤ X.ms.length → (pickedM X m v).1.ms.length = X.ms.length):=Lib.hid (fun m v hm=>ms_pick X m v)
 have hwr:IntKind.i64.wrap ((X.ms.length:Int) + 1) = (X.ms.length:Int) + 1:=by rw [IntKind.wrap_i64];omega
 obtain ⟨K,hK⟩:∃ K,K = X.ms.length:=⟨_,rfl⟩
 simp only [← hK] at HDR HPK HEND HD1 HD2 HSB HLM hwr hnm
 have H1:=Lib.hid h1
 have HKX:=Lib.hid hK.symm
 clear h h1 hok wf hov hen hg1 hst hK
 unfold evz at H1 HSTAT
 go_enter Tryz.func20,Tryz.ntmps20
 go_upto_region 1 with fail
 generalize w.alloc (.cells [.int .i64 0,.int .i64 0,.int .i64 0,.slice none 0 0].toArray 64) = w1 at *
 generalize w.heap.size = q at *
 go_wp2_with fail
 refine HSTAT.out.mono ?_
 rintro r w2 ⟨rfl,hb⟩
 have H2:=Lib.hid (H1.out.step hb)
 clear H1 hb HSTAT
 go_upto_region 3 with fail
 have h3:=H2.out.step (below_drew1 w2)
 refine wp_region_lexP (fun wx=>wx.cell? ⟨b,11,none⟩ = some (.pointer (some ⟨sp,0,none⟩)) ∧ wx.cell? ⟨b,13,none⟩ = some (.slice L.ma K L.mc)) 15 (Array.replicate 15 false) (by kernel_rfl) (by kernel_rfl) ?_
 generalize w2.drew = w3 at *
 refine wpAnyH_seg 0 11 _ #[true,true,true,true,true,true,true,true,true,true,true,false,false,false,false] 4 (by kernel_rfl) body_put (HSB.out _ _ _ h3 HKX.out) (by kernel_rfl) ?_
 simp only [List.take_succ_cons,List.take_zero,List.drop_zero]
 repeat ((first | refine wpSegH_no (by rfl) ?_ | (refine wpSegH_yes (by rfl) ?_;apply Exists.intro;apply And.intro;(· (intro wx hS;(try dsimp only at hS);go_simp;first | done | with_reducible rfl))));simp only [Act.put,List.setIfInBounds_toArray,List.set_cons_zero,List.set_cons_succ])
 refine wpSegH_nil ?_
 refine wpAnyH_two 11 13 _ #[true,true,true,true,true,true,true,true,true,true,true,true,false,false,false] #[true,true,true,true,true,true,true,true,true,true,true,false,false,true,false] 3 (by kernel_rfl) (fun K hK=>?_) (fun K hK=>?_)
 ·skip
  have HKK:=Lib.hid hK
  clear hK
  simp only [List.drop_succ_cons,List.drop_zero]
  refine headH_mk (by rfl) ?_
  go_simp
  refine (HDR.out _ _ _ rfl h3).mono ?_
  intro r w4 hp
  rcases hp with ⟨m,s1,rfl,hm,hdv,ho1,h4⟩ | ⟨ch,s',rfl,hdp,ho1,h4⟩
  ·skip
   have e4:=HSB.out _ _ _ h4 HKX.out
   refine HKK.out _ _ (e4) ?_
   clear HKK K
   refine wpAnyH_two 12 13 _ #[true,true,true,true,true,true,true,true,true,true,true,true,true,false,false] #[true,true,true,true,true,true,true,true,true,true,true,true,false,true,false] 2 (by kernel_rfl) (fun K hK=>?_) (fun K hK=>?_)
   ·skip
    have HKK:=Lib.hid hK
    clear hK
    simp only [List.drop_succ_cons,List.drop_zero]
    refine headH_mk (by rfl) ?_
    go_simp
    refine (HPK.out _ _ _ _ ho1 hm h4).mono ?_
    intro r w6 hp
    rcases hp with ⟨v,s',ra,rc,hf,ho,rfl,h6⟩ | ⟨ch,s',kd,n,rfl,hk,hdp,ho,h6⟩
    ·skip
     have HFF:=Lib.hid (And.intro hm (And.intro hdv (And.intro hf ho)))
     have HE2:=Lib.hid (fun wx rr=>HEND.out m v s1 s' ra rc wx rr)
     have hst:=HST.out m v
     have hlm:=HLM.out m v hm
     generalize pickedM X m v = pk at *
     obtain ⟨Y,k0,M0,G0,rd⟩:=pk
     unfold evV at HE2 ⊢
     simp only at h6 HE2 hst hlm ⊢
     generalize rd.length = N at *
     have e6:=HSB.out _ _ _ h6 hlm
     refine HKK.out _ _ (e6) ?_
     clear HKK K
     have h5:=h6
     have h7:=((h6.perm ((List.Perm.cons _ List.perm_middle).trans (List.Perm.swap _ _ _))).box evz 64)
     unfold evz at h7
     have e7:=HSB.out _ _ _ h7 hlm
     refine wpAnyH_one 13 _ #[true,true,true,true,true,true,true,true,true,true,true,true,true,true,false] 1 (by kernel_rfl) (fun K hK=>?_)
     have HKK:=Lib.hid hK
     clear hK
     simp only [List.drop_succ_cons,List.drop_zero]
     refine headH_mk (by rfl) ?_
     go_simp
     refine HKK.out _ _ (e7) ?_
     clear HKK K
     generalize w6.alloc (.cells [.int .i64 0,.int .i64 0,.int .i64 0,.slice none 0 0].toArray 64) = w7 at *
     generalize w6.heap.size = q3 at *
     obtain ⟨x0,y0⟩:=h7.cel 0 _ rfl
     obtain ⟨x1,y1⟩:=h7.cel 1 _ rfl
     obtain ⟨x2,y2⟩:=h7.cel 2 _ rfl
     obtain ⟨x3,y3⟩:=h7.cel 3 _ rfl
     have h9:=(((h7.setBox 0 (.int .i64 k0)).setBox 1 (.int .i64 M0)).setBox 2 (.int .i64 G0)).setBox 3 (.slice ra N rc)
     have e9:=HSB.out _ _ _ h9 hlm
     refine wpAnyH_one 14 _ #[true,true,true,true,true,true,true,true,true,true,true,true,true,true,true] 0 (by kernel_rfl) (fun K hK=>?_)
     have HKK:=Lib.hid hK
     clear hK
     simp only [List.drop_succ_cons,List.drop_zero]
     refine headH_mk (by rfl) ?_
     go_simp
     refine HKK.out _ _ (e9) ?_
     clear HKK K
     refine wpAnyH_done (by kernel_rfl) (?_) _
     clear HEND HST HLM HD1 HD2 HPK HDR hm hdv hf ho
     have HQ:=Lib.hid h9
     generalize (((w7.setCell ⟨q3,0,none⟩ (.int .i64 k0)).setCell ⟨q3,1,none⟩ (.int .i64 M0)).setCell ⟨q3,2,none⟩ (.int .i64 G0)).setCell ⟨q3,3,none⟩ (.slice ra N rc) = w8 at *
     clear h3 h4 h5 h6 h7 h9 H2
     obtain ⟨c16,f16⟩:=HQ.out.c16
     have hwr2:IntKind.i64.wrap ((Y.st:Int) + 1) = (Y.st:Int) + 1:=by rw [IntKind.wrap_i64];omega
     have ha:=HQ.out.setSt (Y.st + 1)
     rw [show ((Y.st + 1:Nat):Int) = (Y.st:Int) + 1 by omega] at ha
     have HA:=Lib.hid ha
     clear ha HQ HSB
     go_upto_region 5 with fail
     clear c16 f16
     generalize w8.setCell ⟨b,16,none⟩ (.int .i64 ((Y.st:Int) + 1)) = w9 at *
     obtain ⟨u0,-⟩:=HA.out.cel 0 _ rfl
     obtain ⟨u1,-⟩:=HA.out.cel 1 _ rfl
     obtain ⟨u2,-⟩:=HA.out.cel 2 _ rfl
     obtain ⟨u3,-⟩:=HA.out.cel 3 _ rfl
     have hb:=HA.out.perm (List.Perm.swap _ _ _)
     obtain ⟨p0,r0⟩:=hb.cel 0 _ rfl
     obtain ⟨p1,r1⟩:=hb.cel 1 _ rfl
     obtain ⟨p2,r2⟩:=hb.cel 2 _ rfl
     obtain ⟨p3,r3⟩:=hb.cel 3 _ rfl
     have hc:=(((hb.setBox 0 (.int .i64 k0)).setBox 1 (.int .i64 M0)).setBox 2 (.int .i64 G0)).setBox 3 (.slice ra N rc)
     have EG:=ev_get (hc.cel 0 _ rfl).1 (hc.cel 1 _ rfl).1 (hc.cel 2 _ rfl).1 (hc.cel 3 _ rfl).1
     have HC:=Lib.hid hc.less.less
     clear hb hc HA
     go_wp2
     exact bodyPost_ret (results_cell Tryz.results20 _ ⟨q,0,none⟩ rfl EG) rfl (HE2.out _ _ HFF.out.1 HFF.out.2.1 HFF.out.2.2.1 HFF.out.2.2.2 rfl HC.out)
    ·exact ⟨rfl,HD2.out ch m s1 s' kd n _ hm hdv hk hdp ho (SAt.less (h6.perm List.perm_middle))⟩
   ·skip
    have h5:=(h4.perm List.perm_middle).box evz 64
    unfold evz at h5
    have e5:=HSB.out _ _ _ h5 HKX.out
    have HKK:=Lib.hid hK
    clear hK
    simp only [List.drop_succ_cons,List.drop_zero]
    refine headH_mk (by rfl) ?_
    go_simp
    refine HKK.out _ _ (e5) ?_
    clear HKK K
    generalize w4.alloc (.cells [.int .i64 0,.int .i64 0,.int .i64 0,.slice none 0 0].toArray 64) = w5 at *
    generalize w4.heap.size = q3 at *
    refine wpAnyH_one 12 _ #[true,true,true,true,true,true,true,true,true,true,true,true,true,true,false] 1 (by kernel_rfl) (fun K hK=>?_)
    have HKK:=Lib.hid hK
    clear hK
    simp only [List.drop_succ_cons,List.drop_zero]
    refine headH_mk (by rfl) ?_
    go_simp
    refine (HPK.out _ _ _ _ ho1 hm (h5.perm perm_two)).mono ?_
    intro r w7 hp
    rcases hp with ⟨v,s',ra,rc,hf,ho,rfl,h6⟩ | ⟨ch,s',kd,n,rfl,hk,hdp,ho,h6⟩
    ·skip
     have HFF:=Lib.hid (And.intro hm (And.intro hdv (And.intro hf ho)))
     have HE2:=Lib.hid (fun wx rr=>HEND.out m v s1 s' ra rc wx rr)
     have hst:=HST.out m v
     have hlm:=HLM.out m v hm
     generalize pickedM X m v = pk at *
     obtain ⟨Y,k0,M0,G0,rd⟩:=pk
     unfold evV at HE2 ⊢
     simp only at h6 HE2 hst hlm ⊢
     generalize rd.length = N at *
     have e6:=HSB.out _ _ _ h6 hlm
     refine HKK.out _ _ (e6) ?_
     clear HKK K
     have h7:=h6.perm perm_five
     obtain ⟨x0,y0⟩:=h7.cel 0 _ rfl
     obtain ⟨x1,y1⟩:=h7.cel 1 _ rfl
     obtain ⟨x2,y2⟩:=h7.cel 2 _ rfl
     obtain ⟨x3,y3⟩:=h7.cel 3 _ rfl
     have h9:=(((h7.setBox 0 (.int .i64 k0)).setBox 1 (.int .i64 M0)).setBox 2 (.int .i64 G0)).setBox 3 (.slice ra N rc)
     have e9:=HSB.out _ _ _ h9 hlm
     refine wpAnyH_one 14 _ #[true,true,true,true,true,true,true,true,true,true,true,true,true,true,true] 0 (by kernel_rfl) (fun K hK=>?_)
     have HKK:=Lib.hid hK
     clear hK
     simp only [List.drop_succ_cons,List.drop_zero]
     refine headH_mk (by rfl) ?_
     go_simp
     refine HKK.out _ _ (e9) ?_
     clear HKK K
     refine wpAnyH_done (by kernel_rfl) (?_) _
     clear HEND HST HLM HD1 HD2 HPK HDR hm hdv hf ho
     have HQ:=Lib.hid h9
     generalize (((w7.setCell ⟨q3,0,none⟩ (.int .i64 k0)).setCell ⟨q3,1,none⟩ (.int .i64 M0)).setCell ⟨q3,2,none⟩ (.int .i64 G0)).setCell ⟨q3,3,none⟩ (.slice ra N rc) = w8 at *
     clear h3 h4 h5 h6 h7 h9 H2
     obtain ⟨c16,f16⟩:=HQ.out.c16
     have hwr2:IntKind.i64.wrap ((Y.st:Int) + 1) = (Y.st:Int) + 1:=by rw [IntKind.wrap_i64];omega
     have ha:=HQ.out.setSt (Y.st + 1)
     rw [show ((Y.st + 1:Nat):Int) = (Y.st:Int) + 1 by omega] at ha
     have HA:=Lib.hid ha
     clear ha HQ HSB
     go_upto_region 5 with fail
     clear c16 f16
     generalize w8.setCell ⟨b,16,none⟩ (.int .i64 ((Y.st:Int) + 1)) = w9 at *
     obtain ⟨u0,-⟩:=HA.out.cel 0 _ rfl
     obtain ⟨u1,-⟩:=HA.out.cel 1 _ rfl
     obtain ⟨u2,-⟩:=HA.out.cel 2 _ rfl
     obtain ⟨u3,-⟩:=HA.out.cel 3 _ rfl
     have hb:=HA.out.perm (List.Perm.swap _ _ _)
     obtain ⟨p0,r0⟩:=hb.cel 0 _ rfl
     obtain ⟨p1,r1⟩:=hb.cel 1 _ rfl
     obtain ⟨p2,r2⟩:=hb.cel 2 _ rfl
     obtain ⟨p3,r3⟩:=hb.cel 3 _ rfl
     have hc:=(((hb.setBox 0 (.int .i64 k0)).setBox 1 (.int .i64 M0)).setBox 2 (.int .i64 G0)).setBox 3 (.slice ra N rc)
     have EG:=ev_get (hc.cel 0 _ rfl).1 (hc.cel 1 _ rfl).1 (hc.cel 2 _ rfl).1 (hc.cel 3 _ rfl).1
     have HC:=Lib.hid hc.less.less
     clear hb hc HA
     go_wp2
     exact bodyPost_ret (results_cell Tryz.results20 _ ⟨q,0,none⟩ rfl EG) rfl (HE2.out _ _ HFF.out.1 HFF.out.2.1 HFF.out.2.2.1 HFF.out.2.2.2 rfl HC.out)
    ·exact ⟨rfl,HD2.out ch m s1 s' kd n _ hm hdv hk hdp ho (SAt.less (SAt.less (h6.perm perm_two.symm)))⟩
  ·exact ⟨rfl,HD1.out ch s' _ hdp ho1 (SAt.less (h4.perm List.perm_middle))⟩
 ·skip
  have h4:=(h3.perm List.perm_middle).box evz 64
  unfold evz at h4
  have e4:=HSB.out _ _ _ h4 HKX.out
  have HKK:=Lib.hid hK
  clear hK
  simp only [List.drop_succ_cons,List.drop_zero]
  refine headH_mk (by rfl) ?_
  go_simp
  refine HKK.out _ _ (e4) ?_
  clear HKK K
  generalize w3.alloc (.cells [.int .i64 0,.int .i64 0,.int .i64 0,.slice none 0 0].toArray 64) = w4 at *
  generalize w3.heap.size = q3 at *
  refine wpAnyH_one 11 _ #[true,true,true,true,true,true,true,true,true,true,true,true,false,true,false] 2 (by kernel_rfl) (fun K hK=>?_)
  have HKK:=Lib.hid hK
  clear hK
  simp only [List.drop_succ_cons,List.drop_zero]
  refine headH_mk (by rfl) ?_
  go_simp
  refine (HDR.out _ _ _ rfl (h4.perm perm_two)).mono ?_
  intro r w5 hp
  rcases hp with ⟨m,s1,rfl,hm,hdv,ho1,h5⟩ | ⟨ch,s',rfl,hdp,ho1,h5⟩
  ·have e5:=HSB.out _ _ _ h5 HKX.out
   refine HKK.out _ _ (e5) ?_
   clear HKK K
   refine wpAnyH_one 12 _ #[true,true,true,true,true,true,true,true,true,true,true,true,true,true,false] 1 (by kernel_rfl) (fun K hK=>?_)
   have HKK:=Lib.hid hK
   clear hK
   simp only [List.drop_succ_cons,List.drop_zero]
   refine headH_mk (by rfl) ?_
   go_simp
   refine (HPK.out _ _ _ _ ho1 hm h5).mono ?_
   intro r w7 hp
   rcases hp with ⟨v,s',ra,rc,hf,ho,rfl,h6⟩ | ⟨ch,s',kd,n,rfl,hk,hdp,ho,h6⟩
   ·skip
    have HFF:=Lib.hid (And.intro hm (And.intro hdv (And.intro hf ho)))
    have HE2:=Lib.hid (fun wx rr=>HEND.out m v s1 s' ra rc wx rr)
    have hst:=HST.out m v
    have hlm:=HLM.out m v hm
    generalize pickedM X m v = pk at *
    obtain ⟨Y,k0,M0,G0,rd⟩:=pk
    unfold evV at HE2 ⊢
    simp only at h6 HE2 hst hlm ⊢
    generalize rd.length = N at *
    have e6:=HSB.out _ _ _ h6 hlm
    refine HKK.out _ _ (e6) ?_
    clear HKK K
    have h7:=h6.perm perm_five
    obtain ⟨x0,y0⟩:=h7.cel 0 _ rfl
    obtain ⟨x1,y1⟩:=h7.cel 1 _ rfl
    obtain ⟨x2,y2⟩:=h7.cel 2 _ rfl
    obtain ⟨x3,y3⟩:=h7.cel 3 _ rfl
    have h9:=(((h7.setBox 0 (.int .i64 k0)).setBox 1 (.int .i64 M0)).setBox 2 (.int .i64 G0)).setBox 3 (.slice ra N rc)
    have e9:=HSB.out _ _ _ h9 hlm
    refine wpAnyH_one 14 _ #[true,true,true,true,true,true,true,true,true,true,true,true,true,true,true] 0 (by kernel_rfl) (fun K hK=>?_)
    have HKK:=Lib.hid hK
    clear hK
    simp only [List.drop_succ_cons,List.drop_zero]
    refine headH_mk (by rfl) ?_
    go_simp
    refine HKK.out _ _ (e9) ?_
    clear HKK K
    refine wpAnyH_done (by kernel_rfl) (?_) _
    clear HEND HST HLM HD1 HD2 HPK HDR hm hdv hf ho
    have HQ:=Lib.hid h9
    generalize (((w7.setCell ⟨q3,0,none⟩ (.int .i64 k0)).setCell ⟨q3,1,none⟩ (.int .i64 M0)).setCell ⟨q3,2,none⟩ (.int .i64 G0)).setCell ⟨q3,3,none⟩ (.slice ra N rc) = w8 at *
    clear h3 h4 h5 h6 h7 h9 H2
    obtain ⟨c16,f16⟩:=HQ.out.c16
    have hwr2:IntKind.i64.wrap ((Y.st:Int) + 1) = (Y.st:Int) + 1:=by rw [IntKind.wrap_i64];omega
    have ha:=HQ.out.setSt (Y.st + 1)
    rw [show ((Y.st + 1:Nat):Int) = (Y.st:Int) + 1 by omega] at ha
    have HA:=Lib.hid ha
    clear ha HQ HSB
    go_upto_region 5 with fail
    clear c16 f16
    generalize w8.setCell ⟨b,16,none⟩ (.int .i64 ((Y.st:Int) + 1)) = w9 at *
    obtain ⟨u0,-⟩:=HA.out.cel 0 _ rfl
    obtain ⟨u1,-⟩:=HA.out.cel 1 _ rfl
    obtain ⟨u2,-⟩:=HA.out.cel 2 _ rfl
    obtain ⟨u3,-⟩:=HA.out.cel 3 _ rfl
    have hb:=HA.out.perm (List.Perm.swap _ _ _)
    obtain ⟨p0,r0⟩:=hb.cel 0 _ rfl
    obtain ⟨p1,r1⟩:=hb.cel 1 _ rfl
    obtain ⟨p2,r2⟩:=hb.cel 2 _ rfl
    obtain ⟨p3,r3⟩:=hb.cel 3 _ rfl
    have hc:=(((hb.setBox 0 (.int .i64 k0)).setBox 1 (.int .i64 M0)).setBox 2 (.int .i64 G0)).setBox 3 (.slice ra N rc)
    have EG:=ev_get (hc.cel 0 _ rfl).1 (hc.cel 1 _ rfl).1 (hc.cel 2 _ rfl).1 (hc.cel 3 _ rfl).1
    have HC:=Lib.hid hc.less.less
    clear hb hc HA
    go_wp2
    exact bodyPost_ret (results_cell Tryz.results20 _ ⟨q,0,none⟩ rfl EG) rfl (HE2.out _ _ HFF.out.1 HFF.out.2.1 HFF.out.2.2.1 HFF.out.2.2.2 rfl HC.out)
   ·exact ⟨rfl,HD2.out ch m s1 s' kd n _ hm hdv hk hdp ho (SAt.less (SAt.less (h6.perm perm_two.symm)))⟩
  ·exact ⟨rfl,HD1.out ch s' _ hdp ho1 (SAt.less (SAt.less (h5.perm perm_two.symm)))⟩
theorem sworld_any {w0 w:World} {b sp:Nat} {L:Sl} {X:Sd} {R:List Asr} (h:SAt w0 w b sp L X R):Calls Tryz.prog 9 #[.pointer (some ⟨b,0,none⟩)] w fun r w'=>r = .returned (.pointer (some ⟨b,0,none⟩)) ∧ w' = w:=by
 have hc:=h.c11
 clear h
 go_enter Tryz.func9,Tryz.ntmps9
 go_wp2
 go_ret
 exact ⟨rfl,rfl⟩
theorem some1_any (w:World) (x:Int) (m n:Nat) (hm:0 < m) (hm2:m ≤ 1000) (hn:(bits BinOp.and IntKind.i64 x 255).tmod (m:Int) = (n:Int)) (hn2:n ≤ 255) :
  Calls Tryz.prog 21 #[.int .i64 x,.int .i64 (m:Int)] w fun r w'=>r = .returned (.int .i64 (n:Int)) ∧ w' = w:=by
 have hz:(m:Int) ≠ 0:=by omega
 have hw:IntKind.i64.wrap (n:Int) = n:=by rw [IntKind.wrap_i64];omega
 go_enter Tryz.func21,Tryz.ntmps21
 go_wp2
 go_ret
 exact ⟨rfl,rfl⟩
def SmC (x:Int) (m n:Nat):Prop:=0 < m ∧ m ≤ 1000 ∧ (bits BinOp.and IntKind.i64 x 255).tmod (m:Int) = (n:Int) ∧ n < m ∧ n ≤ 255
theorem smC_any {x:Int} {m n:Nat} (h:SmC x m n) (w:World):Calls Tryz.prog 21 #[.int .i64 x,.int .i64 (m:Int)] w fun r w'=>r = .returned (.int .i64 (n:Int)) ∧ w' = w :=
 some1_any w x m n h.1 h.2.1 h.2.2.1 h.2.2.2.2
theorem smC_of (x:Int) (m:Nat) (hm:0 < m) (hm2:m ≤ 1000):∃ n,SmC x m n:=by
 obtain ⟨n,h1,h2,h3⟩:=small_of x m hm
 exact ⟨n,hm,hm2,h1,h2,h3⟩
theorem cfg_get {w:World} {q:Nat} {a b c d:Int} (e0:w.cell? ⟨q,0,none⟩ = some (.int .i64 a)) (e1:w.cell? ⟨q,1,none⟩ = some (.int .i64 b)) (e2:w.cell? ⟨q,2,none⟩ = some (.int .i64 c)) (e3:w.cell? ⟨q,3,none⟩ = some (.int .i64 d)) :
  (loadVar 24 ⟨q,0,none⟩).run Tryz.prog w = .ok (.agg #[.int .i64 a,.int .i64 b,.int .i64 c,.int .i64 d]) w:=by
 simp [go_sem,e0,e1,e2,e3]
theorem some18_any (w:World) (p m r s:Int) (a b c d:Nat) (ha:SmC p 5 a) (hb:SmC m 5 b) (hc:SmC r 5 c) (hd:SmC s 12 d) :
  Calls Tryz.prog 8 #[.agg #[.int .i64 p,.int .i64 m,.int .i64 r,.int .i64 s]] w fun e w' =>
   e = .returned (.agg #[.int .i64 (1 + (a:Int)),.int .i64 (1 + (b:Int)),.int .i64 (2 + (c:Int)),.int .i64 (1 + (d:Int))]) ∧ Below w.heap.size w w':=by
 have a5:=ha.2.2.2.1
 have b5:=hb.2.2.2.1
 have c5:=hc.2.2.2.1
 have d5:=hd.2.2.2.1
 have ka:=Lib.hid (smC_any ha)
 have kb:=Lib.hid (smC_any hb)
 have kc:=Lib.hid (smC_any hc)
 have kd:=Lib.hid (smC_any hd)
 clear ha hb hc hd
 go_enter Tryz.func8,Tryz.ntmps8
 go_upto_region 2 with fail
 have o0:Own w ((w.alloc (.cells #[.int .i64 p,.int .i64 m,.int .i64 r,.int .i64 s] 24)).alloc (.cells #[.int .i64 0,.int .i64 0,.int .i64 0,.int .i64 0] 24))
   [CelA (w.heap.size + 1) [.int .i64 0,.int .i64 0,.int .i64 0,.int .i64 0],CelA w.heap.size [.int .i64 p,.int .i64 m,.int .i64 r,.int .i64 s]]:=by
  have h:=((Own.nil (Below.refl _ w)).alloc [.int .i64 p,.int .i64 m,.int .i64 r,.int .i64 s] 24 (b:=w.heap.size) rfl).alloc [.int .i64 0,.int .i64 0,.int .i64 0,.int .i64 0] 24 (b:=w.heap.size + 1) (by simp)
  exact h
 generalize ((w.alloc (.cells #[.int .i64 p,.int .i64 m,.int .i64 r,.int .i64 s] 24)).alloc (.cells #[.int .i64 0,.int .i64 0,.int .i64 0,.int .i64 0] 24)) = w1 at *
 generalize w.heap.size + 1 = q1 at *
 generalize hq:w.heap.size = q at *
 have HQ:=Lib.hid hq
 clear hq
 have o1:=o0.step (below_drew1 w1)
 clear o0
 have SB:Hid (∀ wx:World,Own w wx [CelA q1 [.int .i64 0,.int .i64 0,.int .i64 0,.int .i64 0],CelA q [.int .i64 p,.int .i64 m,.int .i64 r,.int .i64 s]] → wx.cell? ⟨q,0,none⟩ = some (.int .i64 p) ∧ wx.cell? ⟨q,1,none⟩ = some (.int .i64 m) ∧ wx.cell? ⟨q,2,none⟩ = some (.int .i64 r) ∧ wx.cell? ⟨q,3,none⟩ = some (.int .i64 s)) :=
  Lib.hid (fun wx h=>⟨(h.cel 1 rfl 0 _ rfl).1,(h.cel 1 rfl 1 _ rfl).1,(h.cel 1 rfl 2 _ rfl).1,(h.cel 1 rfl 3 _ rfl).1⟩)
 refine wp_region_lexZ (fun wx=>wx.cell? ⟨q,0,none⟩ = some (.int .i64 p) ∧ wx.cell? ⟨q,1,none⟩ = some (.int .i64 m) ∧ wx.cell? ⟨q,2,none⟩ = some (.int .i64 r) ∧ wx.cell? ⟨q,3,none⟩ = some (.int .i64 s)) 22 (Array.replicate 22 false) (by kernel_rfl) (by kernel_rfl) ?_
 generalize w1.drew = w2 at *
 refine wpAnyZ_seg 0 3 _ #[true,true,true,false,false,false,false,false,false,false,false,false,false,false,false,false,false,false,false,false,false,false] 19 (by kernel_rfl) noPanic_put (SB.out _ o1) (by kernel_rfl) ?_
 simp only [List.take_succ_cons,List.take_zero,List.drop_zero]
 repeat ((first | refine wpSegH_no (by rfl) ?_ | (refine wpSegH_yes (by rfl) ?_;apply Exists.intro;apply And.intro;(· (intro wx hS;(try dsimp only at hS);go_simp;first | done | with_reducible rfl))));simp only [Act.put,List.setIfInBounds_toArray,List.set_cons_zero,List.set_cons_succ])
 refine wpSegH_nil ?_
 refine wpAnyZ_seg 5 3 _ #[true,true,true,false,false,true,true,true,false,false,false,false,false,false,false,false,false,false,false,false,false,false] 16 (by kernel_rfl) noPanic_put (SB.out _ o1) (by kernel_rfl) ?_
 simp only [List.take_succ_cons,List.take_zero,List.drop_succ_cons,List.drop_zero]
 repeat ((first | refine wpSegH_no (by rfl) ?_ | (refine wpSegH_yes (by rfl) ?_;apply Exists.intro;apply And.intro;(· (intro wx hS;(try dsimp only at hS);go_simp;first | done | with_reducible rfl))));simp only [Act.put,List.setIfInBounds_toArray,List.set_cons_zero,List.set_cons_succ])
 refine wpSegH_nil ?_
 refine wpAnyZ_seg 10 3 _ #[true,true,true,false,false,true,true,true,false,false,true,true,true,false,false,false,false,false,false,false,false,false] 13 (by kernel_rfl) noPanic_put (SB.out _ o1) (by kernel_rfl) ?_
 simp only [List.take_succ_cons,List.take_zero,List.drop_succ_cons,List.drop_zero]
 repeat ((first | refine wpSegH_no (by rfl) ?_ | (refine wpSegH_yes (by rfl) ?_;apply Exists.intro;apply And.intro;(· (intro wx hS;(try dsimp only at hS);go_simp;first | done | with_reducible rfl))));simp only [Act.put,List.setIfInBounds_toArray,List.set_cons_zero,List.set_cons_succ])
 refine wpSegH_nil ?_
 refine wpAnyZ_seg 15 3 _ #[true,true,true,false,false,true,true,true,false,false,true,true,true,false,false,true,true,true,false,false,false,false] 10 (by kernel_rfl) noPanic_put (SB.out _ o1) (by kernel_rfl) ?_
 simp only [List.take_succ_cons,List.take_zero,List.drop_succ_cons,List.drop_zero]
 repeat ((first | refine wpSegH_no (by rfl) ?_ | (refine wpSegH_yes (by rfl) ?_;apply Exists.intro;apply And.intro;(· (intro wx hS;(try dsimp only at hS);go_simp;first | done | with_reducible rfl))));simp only [Act.put,List.setIfInBounds_toArray,List.set_cons_zero,List.set_cons_succ])
 refine wpSegH_nil ?_
 refine wpAnyZ_one 3 _ #[true,true,true,true,false,true,true,true,false,false,true,true,true,false,false,true,true,true,false,false,false,false] 9 (by kernel_rfl) (fun K hK=>?_)
 have HKK:=Lib.hid hK
 clear hK
 simp only [List.drop_succ_cons,List.drop_zero]
 refine headH_mk (by rfl) ?_
 go_simp
 refine (ka.out _).mono ?_
 rintro e w3 ⟨rfl,rfl⟩
 refine HKK.out _ _ (SB.out _ o1) ?_
 clear HKK K
 refine wpAnyZ_seg 4 1 _ #[true,true,true,true,true,true,true,true,false,false,true,true,true,false,false,true,true,true,false,false,false,false] 8 (by kernel_rfl) noPanic_put (SB.out _ o1) (by kernel_rfl) ?_
 simp only [List.take_succ_cons,List.take_zero,List.drop_succ_cons,List.drop_zero]
 repeat ((first | refine wpSegH_no (by rfl) ?_ | (refine wpSegH_yes (by rfl) ?_;apply Exists.intro;apply And.intro;(· (intro wx hS;(try dsimp only at hS);go_simp;first | done | with_reducible rfl))));simp only [Act.put,List.setIfInBounds_toArray,List.set_cons_zero,List.set_cons_succ])
 refine wpSegH_nil ?_
 refine wpAnyZ_one 8 _ #[true,true,true,true,true,true,true,true,true,false,true,true,true,false,false,true,true,true,false,false,false,false] 7 (by kernel_rfl) (fun K hK=>?_)
 have HKK:=Lib.hid hK
 clear hK
 simp only [List.drop_succ_cons,List.drop_zero]
 refine headH_mk (by rfl) ?_
 go_simp
 refine (kb.out _).mono ?_
 rintro e w3 ⟨rfl,rfl⟩
 refine HKK.out _ _ (SB.out _ o1) ?_
 clear HKK K
 refine wpAnyZ_seg 9 1 _ #[true,true,true,true,true,true,true,true,true,true,true,true,true,false,false,true,true,true,false,false,false,false] 6 (by kernel_rfl) noPanic_put (SB.out _ o1) (by kernel_rfl) ?_
 simp only [List.take_succ_cons,List.take_zero,List.drop_succ_cons,List.drop_zero]
 repeat ((first | refine wpSegH_no (by rfl) ?_ | (refine wpSegH_yes (by rfl) ?_;apply Exists.intro;apply And.intro;(· (intro wx hS;(try dsimp only at hS);go_simp;first | done | with_reducible rfl))));simp only [Act.put,List.setIfInBounds_toArray,List.set_cons_zero,List.set_cons_succ])
 refine wpSegH_nil ?_
 refine wpAnyZ_one 13 _ #[true,true,true,true,true,true,true,true,true,true,true,true,true,true,false,true,true,true,false,false,false,false] 5 (by kernel_rfl) (fun K hK=>?_)
 have HKK:=Lib.hid hK
 clear hK
 simp only [List.drop_succ_cons,List.drop_zero]
 refine headH_mk (by rfl) ?_
 go_simp
 refine (kc.out _).mono ?_
 rintro e w3 ⟨rfl,rfl⟩
 refine HKK.out _ _ (SB.out _ o1) ?_
 clear HKK K
 refine wpAnyZ_seg 14 1 _ #[true,true,true,true,true,true,true,true,true,true,true,true,true,true,true,true,true,true,false,false,false,false] 4 (by kernel_rfl) noPanic_put (SB.out _ o1) (by kernel_rfl) ?_
 simp only [List.take_succ_cons,List.take_zero,List.drop_succ_cons,List.drop_zero]
 repeat ((first | refine wpSegH_no (by rfl) ?_ | (refine wpSegH_yes (by rfl) ?_;apply Exists.intro;apply And.intro;(· (intro wx hS;(try dsimp only at hS);go_simp;first | done | with_reducible rfl))));simp only [Act.put,List.setIfInBounds_toArray,List.set_cons_zero,List.set_cons_succ])
 refine wpSegH_nil ?_
 refine wpAnyZ_one 18 _ #[true,true,true,true,true,true,true,true,true,true,true,true,true,true,true,true,true,true,true,false,false,false] 3 (by kernel_rfl) (fun K hK=>?_)
 have HKK:=Lib.hid hK
 clear hK
 simp only [List.drop_succ_cons,List.drop_zero]
 refine headH_mk (by rfl) ?_
 go_simp
 refine (kd.out _).mono ?_
 rintro e w3 ⟨rfl,rfl⟩
 refine HKK.out _ _ (SB.out _ o1) ?_
 clear HKK K
 refine wpAnyZ_seg 19 2 _ #[true,true,true,true,true,true,true,true,true,true,true,true,true,true,true,true,true,true,true,true,true,false] 1 (by kernel_rfl) noPanic_put (SB.out _ o1) (by kernel_rfl) ?_
 simp only [List.take_succ_cons,List.take_zero,List.drop_succ_cons,List.drop_zero]
 repeat ((first | refine wpSegH_no (by rfl) ?_ | (refine wpSegH_yes (by rfl) ?_;apply Exists.intro;apply And.intro;(· (intro wx hS;(try dsimp only at hS);go_simp;first | done | with_reducible rfl))));simp only [Act.put,List.setIfInBounds_toArray,List.set_cons_zero,List.set_cons_succ])
 refine wpSegH_nil ?_
 obtain ⟨x0,y0⟩:=o1.cel 0 rfl 0 _ rfl
 obtain ⟨x1,y1⟩:=o1.cel 0 rfl 1 _ rfl
 obtain ⟨x2,y2⟩:=o1.cel 0 rfl 2 _ rfl
 obtain ⟨x3,y3⟩:=o1.cel 0 rfl 3 _ rfl
 have o2:=(((o1.set 0 (.int .i64 (1 + (a:Int)))).set 1 (.int .i64 (1 + (b:Int)))).set 2 (.int .i64 (2 + (c:Int)))).set 3 (.int .i64 (1 + (d:Int)))
 have z0:=(o2.cel 0 rfl 0 _ rfl).1
 have z1:=(o2.cel 0 rfl 1 _ rfl).1
 have z2:=(o2.cel 0 rfl 2 _ rfl).1
 have z3:=(o2.cel 0 rfl 3 _ rfl).1
 have O2:=Lib.hid o2.bel
 clear o1 o2 SB ka kb kc kd
 refine wpAnyZ_end 21 _ #[true,true,true,true,true,true,true,true,true,true,true,true,true,true,true,true,true,true,true,true,true,true] (by kernel_rfl) (fun K hK=>?_)
 have HKK:=Lib.hid hK
 clear hK
 simp only [List.drop_succ_cons,List.drop_zero]
 refine headH_mk (by rfl) ?_
 go_simp
 refine HKK.out _ _ (NoPanic.normal ?_)
 clear HKK K
 have EG:=cfg_get z0 z1 z2 z3
 clear z0 z1 z2 z3
 have E1:Hid (∀ k:Nat,k < 12 → IntKind.i64.wrap (1 + (k:Int)) = 1 + k):=Lib.hid (fun k hk=>by rw [IntKind.wrap_i64];omega)
 have E2:Hid (∀ k:Nat,k < 12 → IntKind.i64.wrap (2 + (k:Int)) = 2 + k):=Lib.hid (fun k hk=>by rw [IntKind.wrap_i64];omega)
 go_wp2
 rw [E1.out a (by omega),E1.out b (by omega),E1.out d (by omega),E2.out c (by omega)]
 exact bodyPost_ret (results_cell Tryz.results8 _ ⟨q1,0,none⟩ rfl EG) rfl ⟨rfl,by rw [← HQ.out] at *;exact O2.out⟩
theorem lit16 (a b V:Value):(#[a,b] ++ (Array.replicate 14 undef).setIfInBounds 4 V) = #[a,b,undef,undef,undef,undef,V,undef,undef,undef,undef,undef,undef,undef,undef,undef]:=rfl
theorem catch_idle (p q:Addr) (w:World) :
  CallsD Tryz.prog 33 #[.pointer (some p),.pointer (some q)] .returning w fun e u' w'=>e = .returned (.tuple #[]) ∧ u' = .returning ∧ w' = w:=by
 refine callsD_of_wpS Tryz.func33 rfl fun c₀ cs hu=>?_
 apply wpS_seq
 apply wpS_region
 simp [wpOpsS,go_sem,recoverD,hu,Tryz.ntmps33,Exit.thenS]
 rw [lit16]
 refine wpS_of_wp ?_
 go_wp2
 cases c₀
 simp_all [bodyPostS,results,Tryz.results33]
theorem as_dry (w:World):(Instr.typeAssert (.iface 107 (.agg #[])) 20 107 true).run Tryz.prog w = .ok (.tuple #[.agg #[],.bool true]) w:=by kernel_rfl
theorem as_no (v:Value) (w:World):(Instr.typeAssert (.iface 60 v) 20 107 true).run Tryz.prog w = .ok (.tuple #[.agg #[],.bool false]) w:=by kernel_rfl
theorem as_unlike (v:Value) (w:World):(Instr.typeAssert (.iface 60 v) 20 60 true).run Tryz.prog w = .ok (.tuple #[v,.bool true]) w:=by kernel_rfl
def uz:List Value:=[.int .i64 0,.int .i64 0,.int .i64 0,.int .i64 0,.int .u64 0]
def uv (a0 a1 a2 a3 a4:Int):List Value:=[.int .i64 a0,.int .i64 a1,.int .i64 a2,.int .i64 a3,.int .u64 a4]
theorem catch_dry {w0 w:World} {R:List Asr} {p q:Nat} {x:Value} (h:Own w0 w (CelA p [x] :: CelA q uz :: R)) (older:List PanicEntry) :
  CallsD Tryz.prog 33 #[.pointer (some ⟨p,0,none⟩),.pointer (some ⟨q,0,none⟩)] (.panicking ({ v:=.iface 107 (.agg #[]),recovered:=false } :: older)) w fun e u' w' =>
   e = .returned (.tuple #[]) ∧ u' = .panicking ({ v:=.iface 107 (.agg #[]),recovered:=true } :: older) ∧ Own w0 w' (CelA p [.int .i64 1] :: CelA q uz :: R):=by
 have h1:=as_dry
 obtain ⟨g0,f0⟩:=h.cel 0 rfl 0 _ rfl
 have hpl:=World.block_lt_of_cell? w _ g0
 have H:=Lib.hid ((h.set 0 (.int .i64 1)).step (below_alloc1 _ (.cells #[] 107)))
 clear h
 refine callsD_of_wpS Tryz.func33 rfl fun c₀ cs hu=>?_
 apply wpS_seq
 apply wpS_region
 simp [wpOpsS,go_sem,recoverD,hu,Tryz.ntmps33,Exit.thenS]
 rw [lit16]
 refine wpS_of_wp ?_
 go_wp2
 refine ⟨rfl,_,rfl,.tuple #[],by simp [results,Tryz.results33],rfl,rfl,H.out⟩
theorem catch_unlike {w0 w:World} {R:List Asr} {p q:Nat} {x:Value} (a0 a1 a2 a3 a4:Int) (h:Own w0 w (CelA p [x] :: CelA q uz :: R)) (older:List PanicEntry) :
  CallsD Tryz.prog 33 #[.pointer (some ⟨p,0,none⟩),.pointer (some ⟨q,0,none⟩)] (.panicking ({ v:=.iface 60 (.agg (uv a0 a1 a2 a3 a4).toArray),recovered:=false } :: older)) w fun e u' w' =>
   e = .returned (.tuple #[]) ∧ u' = .panicking ({ v:=.iface 60 (.agg (uv a0 a1 a2 a3 a4).toArray),recovered:=true } :: older) ∧ Own w0 w' (CelA p [.int .i64 2] :: CelA q (uv a0 a1 a2 a3 a4) :: R):=by
 have h1:=fun w=>as_no (.agg (uv a0 a1 a2 a3 a4).toArray) w
 have h2:=fun w=>as_unlike (.agg (uv a0 a1 a2 a3 a4).toArray) w
 have h3:∀ w:World,(binOp .eql 20 (.iface 60 (.agg (uv a0 a1 a2 a3 a4).toArray)) .nilIface).run Tryz.prog w = .ok (.bool false) w:=fun w=>rfl
 have h4:∀ w:World,(eqGuard .eql 20 (.tmp 6) (.const .nilIface) (.iface 60 (.agg (uv a0 a1 a2 a3 a4).toArray)) .nilIface).run Tryz.prog w = .ok () w:=fun w=>rfl
 generalize Value.iface 60 (.agg (uv a0 a1 a2 a3 a4).toArray) = V at *
 unfold uv at h2
 unfold uz at h
 unfold uv
 obtain ⟨g0,f0⟩:=h.cel 0 rfl 0 _ rfl
 have hpl:=World.block_lt_of_cell? w _ g0
 have H:=Lib.hid h
 clear h
 refine callsD_of_wpS Tryz.func33 rfl fun c₀ cs hu=>?_
 apply wpS_seq
 apply wpS_region
 simp [wpOpsS,go_sem,recoverD,hu,Tryz.ntmps33,Exit.thenS]
 rw [lit16]
 refine wpS_of_wp ?_
 go_upto_region 10 with fail
 obtain ⟨q0,e0⟩:=H.out.cel 1 rfl 0 _ rfl
 obtain ⟨q1,e1⟩:=H.out.cel 1 rfl 1 _ rfl
 obtain ⟨q2,e2⟩:=H.out.cel 1 rfl 2 _ rfl
 obtain ⟨q3,e3⟩:=H.out.cel 1 rfl 3 _ rfl
 obtain ⟨q4,e4⟩:=H.out.cel 1 rfl 4 _ rfl
 have hql:=World.block_lt_of_cell? w _ q0
 have hpq:p ≠ q:=by
  obtain ⟨_,F,⟨F1,F2,rfl,⟨rfl,_,_⟩,hd,⟨F3,F4,rfl,⟨rfl,_,_⟩,_,_⟩⟩,_⟩:=H.out
  intro he;subst he;exact hd p (by simp) (by simp)
 go_region
 have h5:=((H.out.set 0 (.int .i64 2)).pick 1 rfl)
 have h6:=((((((h5.set 0 (.int .i64 a0)).set 1 (.int .i64 a1)).set 2 (.int .i64 a2)).set 3 (.int .i64 a3)).set 4 (.int .u64 a4)).pick 1 rfl).step (below_alloc1 _ (.cells #[.int .i64 a0,.int .i64 a1,.int .i64 a2,.int .i64 a3,.int .u64 a4] 60))
 exact ⟨rfl,_,rfl,.tuple #[],by simp [results,Tryz.results33],rfl,rfl,h6.step (below_drew1 _)⟩
def Ended (r:Ending) (k:Int) (u:List Value):Prop :=
 (r = .returned (.tuple #[]) ∧ k = 0 ∧ u = uz) ∨ (r = dry ∧ k = 1 ∧ u = uz) ∨ ∃ i kd n x,r = strayed i kd n x ∧ k = 2 ∧ u = uv (i:Int) kd (n:Int) x.1 (x.2:Int)
theorem len5 {u:List Value} {r:Ending} {k:Int} (h:Ended r k u):∃ a0 a1 a2 a3 a4,u = uv a0 a1 a2 a3 a4:=by
 rcases h with ⟨_,_,rfl⟩ | ⟨_,_,rfl⟩ | ⟨i,kd,n,x,_,_,rfl⟩
 ·exact ⟨_,_,_,_,_,rfl⟩
 ·exact ⟨_,_,_,_,_,rfl⟩
 ·exact ⟨_,_,_,_,_,rfl⟩
theorem sep_ne {w0 w:World} {R:List Asr} {p q:Nat} {x y:List Value} (h:Own w0 w (CelA p x :: CelA q y :: R)):p ≠ q:=by
 obtain ⟨_,F,⟨F1,F2,rfl,⟨rfl,_,_⟩,hd,⟨F3,F4,rfl,⟨rfl,_,_⟩,_,_⟩⟩,_⟩:=h
 intro he;subst he;exact hd p (by simp) (by simp)
theorem guard_results {w0 w:World} {R:List Asr} {g g':Nat} {k a0 a1 a2 a3 a4:Int} (h:Own w0 w (CelA g [.int .i64 k] :: CelA g' (uv a0 a1 a2 a3 a4) :: R)) (tmps:Array Value) (h2:tmps.getD 2 undef = .pointer (some ⟨g,0,none⟩)) (h3:tmps.getD 3 undef = .pointer (some ⟨g',0,none⟩)) :
  (results Tryz.f18 tmps).run Tryz.prog w = .ok (.tuple #[.int .i64 k,.agg (uv a0 a1 a2 a3 a4).toArray]) w:=by
 unfold uv at *
 obtain ⟨g0,-⟩:=h.cel 0 rfl 0 _ rfl
 obtain ⟨q0,-⟩:=h.cel 1 rfl 0 _ rfl
 obtain ⟨q1,-⟩:=h.cel 1 rfl 1 _ rfl
 obtain ⟨q2,-⟩:=h.cel 1 rfl 2 _ rfl
 obtain ⟨q3,-⟩:=h.cel 1 rfl 3 _ rfl
 obtain ⟨q4,-⟩:=h.cel 1 rfl 4 _ rfl
 have h2':tmps[2]?.getD undef = .pointer (some ⟨g,0,none⟩):=by simpa using h2
 have h3':tmps[3]?.getD undef = .pointer (some ⟨g',0,none⟩):=by simpa using h3
 simp [results,Tryz.results18,go_sem,h2',h3',asAddr,g0,q0,q1,q2,q3,q4]
theorem guard_any {w0 w:World} {R:List Asr} (h:Own w0 w R) (F:Nat) (cap:Array Value) (en:∀ (args:Array Value) (w:World),(callFunc F args).run Tryz.prog w = .ok (.enter F args) w) (Qr:Ending → List Asr → Prop)
  (hrun:∀ w1 g,Own w0 w1 (CelA g [.int .i64 0] :: CelA (g + 1) uz :: R) → Calls Tryz.prog F cap w1 fun r w2=>∃ R' k u,Own w0 w2 (CelA g [.int .i64 0] :: CelA (g + 1) uz :: R') ∧ Qr r R' ∧ Ended r k u) :
  Calls Tryz.prog 18 #[.func (.func F) #[] cap] w fun e w'=>∃ r R' k u,Own w0 w' R' ∧ Qr r R' ∧ Ended r k u ∧ e = .returned (.tuple #[.int .i64 k,.agg u.toArray]):=by
 have hmf:∀ (fn:Fn) (first cap:Array Value) (w:World),(Instr.makeFunc fn first cap).run Tryz.prog w = .ok (.func fn first cap) w:=fun _ _ _ _=>rfl
 have hA:=((h.alloc [.int .i64 0] 3 (b:=w.heap.size) rfl).alloc uz 60 (b:=w.heap.size + 1) (by simp)).pick 1 rfl
 have hC:=hrun _ _ hA
 have HC:=Lib.hid hC
 clear hrun hA hC h
 unfold uz at HC
 go_enter_defers Tryz.func18,Tryz.ntmps18
 go_wp2_with fail
 refine HC.out.mono ?_
 rintro r w2 ⟨R',k,u,ho,hq,he⟩
 clear HC
 generalize w.heap.size = g at *
 rcases he with ⟨rfl,rfl,rfl⟩ | ⟨rfl,rfl,rfl⟩ | ⟨i,kd,n,x,rfl,rfl,rfl⟩
 ·have HO:=Lib.hid ho
  have hpq:=sep_ne ho
  have h5:=((ho.set 0 (.int .i64 0)).pick 1 rfl)
  have h6:=(((((h5.set 0 (.int .i64 0)).set 1 (.int .i64 0)).set 2 (.int .i64 0)).set 3 (.int .i64 0)).set 4 (.int .u64 0)).pick 1 rfl
  have H6:=Lib.hid h6
  have HQ:=Lib.hid hq
  obtain ⟨g0,f0⟩:=ho.cel 0 rfl 0 _ rfl
  obtain ⟨q0,e0⟩:=ho.cel 1 rfl 0 _ rfl
  obtain ⟨q1,e1⟩:=ho.cel 1 rfl 1 _ rfl
  obtain ⟨q2,e2⟩:=ho.cel 1 rfl 2 _ rfl
  obtain ⟨q3,e3⟩:=ho.cel 1 rfl 3 _ rfl
  obtain ⟨q4,e4⟩:=ho.cel 1 rfl 4 _ rfl
  clear ho h5 h6 hq
  go_wp2
  refine leaves_cons (f:=33) (args:=#[.pointer (some ⟨g,0,none⟩),.pointer (some ⟨g + 1,0,none⟩)]) (by simp) (by simp [go_sem]) ?_
  refine (catch_idle _ _ _).mono ?_
  rintro e u' w'' ⟨rfl,rfl,rfl⟩
  exact ⟨_,guard_results (H6.out) _ rfl rfl,.returned (.tuple #[]),R',0,uz,(H6.out).drop.drop,HQ.out,.inl ⟨rfl,rfl,rfl⟩,rfl⟩
 ·refine leaves_cons (f:=33) (args:=#[.pointer (some ⟨g,0,none⟩),.pointer (some ⟨g + 1,0,none⟩)]) (by simp) (by simp [go_sem]) ?_
  refine (catch_dry ho _).mono ?_
  rintro e u' w'' ⟨rfl,rfl,ho2⟩
  refine ⟨_,guard_results (ho2) _ rfl rfl,dry,R',1,uz,ho2.drop.drop,hq,.inr (.inl ⟨rfl,rfl,rfl⟩),rfl⟩
 ·refine leaves_cons (f:=33) (args:=#[.pointer (some ⟨g,0,none⟩),.pointer (some ⟨g + 1,0,none⟩)]) (by simp) (by simp [go_sem]) ?_
  refine (catch_unlike _ _ _ _ _ ho _).mono ?_
  rintro e u' w'' ⟨rfl,rfl,ho2⟩
  refine ⟨_,guard_results (ho2) _ rfl rfl,_,R',2,_,ho2.drop.drop,hq,.inr (.inr ⟨i,kd,n,x,rfl,rfl,rfl⟩),rfl⟩
theorem fit_pick {sp:Nat} {D:Drw sp} {s s':D.T} {Y:Sd} {m:Nat} {v:Int} (hov:overM Y = 0) (hm:m ≤ Y.ms.length) (h:Fit D s (asks2 Y m) v s'):Pick1 Y m v:=by
 refine ⟨hov,hm,fun kd n e=>?_⟩
 rcases h with ⟨h1,-,-⟩ | ⟨k,n',h1,h2,-⟩
 ·rw [e] at h1;cases h1
 ·rw [e] at h1;cases h1;exact h2
def TRunP (w0:World) (b sp bm bx most:Nat) (X0:Sd) (Z:List Asr) (D:Drw sp) (r:Ending) (w':World):Prop:=∃ (k:Nat) (Y:Sd) (s:D.T) (kk:Int) (u:List Value),Rch X0 k Y ∧ k ≤ most ∧ Ended r kk u ∧
   Own w0 w' (SchA b sp Y :: (D.A s ++ (CelA bx [.pointer (some ⟨b,0,none⟩)] :: CelA bm [.int .i64 (most:Int)] :: Z)))
theorem TRunP.mk {w0:World} {b sp bm bx most:Nat} {X0:Sd} {Z:List Asr} {D:Drw sp} {r:Ending} {w':World} (k:Nat) (Y:Sd) (s:D.T) (kk:Int) (u:List Value) (h1:Rch X0 k Y) (h2:k ≤ most) (h3:Ended r kk u)
  (h4:Own w0 w' (SchA b sp Y :: (D.A s ++ (CelA bx [.pointer (some ⟨b,0,none⟩)] :: CelA bm [.int .i64 (most:Int)] :: Z)))):TRunP w0 b sp bm bx most X0 Z D r w':=⟨k,Y,s,kk,u,h1,h2,h3,h4⟩
theorem run1_any {w0 w:World} {b sp bm bx most:Nat} {X0:Sd} {Z:List Asr} {D:Drw sp} {s0:D.T} (h:Own w0 w (SchA b sp X0 :: (D.A s0 ++ (CelA bx [.pointer (some ⟨b,0,none⟩)] :: CelA bm [.int .i64 (most:Int)] :: Z)))) (hok:D.ok (2 * most) s0) (hmo:most ≤ 20000)
  (hR:∀ k Y,Rch X0 k Y → k ≤ most → SdWF k Y ∧ (Y.W.en = 0 ∨ Y.W.en = 1 ∨ Y.W.en = 2))
  (hpan:∀ s kd n r s',D.Dp s kd n r s' → ∃ k u,Ended r k u ∧ (k = 1 ∨ k = 2)) :
  Calls Tryz.prog 19 #[.pointer (some ⟨bm,0,none⟩),.pointer (some ⟨bx,0,none⟩)] w (TRunP w0 b sp bm bx most X0 Z D):=by
 have HX:Hid (∀ wx Y (s:D.T),Own w0 wx (SchA b sp Y :: (D.A s ++ (CelA bx [.pointer (some ⟨b,0,none⟩)] :: CelA bm [.int .i64 (most:Int)] :: Z))) → wx.cell? ⟨bx,0,none⟩ = some (.pointer (some ⟨b,0,none⟩)) ∧ wx.cell? ⟨bm,0,none⟩ = some (.int .i64 (most:Int))):=Lib.hid (fun wx Y s hx=>by
  have h1:=hx.perm (List.perm_middle (l₁:=SchA b sp Y :: D.A s))
  have h2:=h1.perm (List.Perm.cons _ (List.perm_middle (l₁:=SchA b sp Y :: D.A s)))
  exact ⟨(h2.cel 0 rfl 0 _ rfl).1,(h2.cel 1 rfl 0 _ rfl).1⟩)
 have HR:=Lib.hid hR
 have HP:=Lib.hid hpan
 have HO:=Lib.hid h
 have HK:=Lib.hid hok
 clear h hok hR hpan
 go_enter Tryz.func19,Tryz.ntmps19
 go_wp2_with fail
 go_loopw [2] (fun iv wr=>∃ (k:Nat) (Y:Sd) (s:D.T),iv = .int .i64 (k:Int) ∧ k ≤ most ∧ Hid (Rch X0 k Y ∧ D.ok (2 * (most - k)) s) ∧ Hid (Own w0 wr (SchA b sp Y :: (D.A s ++ (CelA bx [.pointer (some ⟨b,0,none⟩)] :: CelA bm [.int .i64 (most:Int)] :: Z))))) (fun iv _=>most - (intOf iv).toNat)
 case atStart=>exact ⟨0,X0,s0,rfl,by omega,Lib.hid ⟨.here,HK.out⟩,HO⟩
 case round =>
  obtain ⟨k,Y,s,rfl,hk,hq,hr⟩:=hrel
  clear HO HK
  obtain ⟨x0,x1⟩:=HX.out _ _ _ hr.out
  by_cases hlt:k < most
  ·have hlt2:(k:Int) < (most:Int):=by omega
   obtain ⟨hwf,hen⟩:=HR.out k Y hq.out.1 hk
   obtain ⟨L,hs⟩:=hr.out.sat
   have hst:=stat_any hs (by have:=hwf.wf.g1.2;omega)
   have HFIN:Hid (∀ wx,Own w0 wx (SchA b sp Y :: (D.A s ++ (CelA bx [.pointer (some ⟨b,0,none⟩)] :: CelA bm [.int .i64 (most:Int)] :: Z))) → TRunP w0 b sp bm bx most X0 Z D (.returned (.tuple #[])) wx):=Lib.hid (fun wx ho=>.mk k Y s 0 uz hq.out.1 hk (.inl ⟨rfl,rfl,rfl⟩) ho)
   by_cases hov:overM Y = 0
   ·rw [hov] at hst
    have HST:=Lib.hid hst
    have hen0:=over_en hov hen
    have e2:2 * (most - k) = 2 * (most - (k + 1)) + 2:=by omega
    have hok:=hq.out.2
    rw [e2] at hok
    have HSTEP:Hid (∀ wx,Below wr.heap.size wr wx → Calls Tryz.prog 20 #[.pointer (some ⟨b,0,none⟩)] wx (StepP w0 b sp L D s Y (CelA bx [.pointer (some ⟨b,0,none⟩)] :: CelA bm [.int .i64 (most:Int)] :: Z) (2 * (most - (k + 1))))) :=
     Lib.hid (fun wx hb=>step_any (hs.step hb) hok hwf (by omega) hov hen0)
    have HOV:=Lib.hid hov
    clear hst hs hwf hen hen0 e2 hok hov HFIN
    go_upto_region 1 with fail
    go_wp2_with fail
    refine HST.out.mono ?_
    rintro r w2 ⟨rfl,hb⟩
    obtain ⟨x2,x3⟩:=HX.out _ _ _ (hr.out.step hb)
    have HS2:=Lib.hid (HSTEP.out _ hb)
    clear hb HSTEP HST
    go_wp2_with fail
    refine HS2.out.mono ?_
    rintro r w3 hp
    clear x0 x1 x2 x3 hr
    rcases hp with ⟨m,v,s1,s',ra,rc,hm,hdv,hf,ho,rfl,h1⟩ | ⟨ch,s',rfl,hd,ho,h1⟩
    ·have hpk:=fit_pick HOV.out hm hf
     have HQ2:Hid (Rch X0 (k + 1) (stepM Y m v).1 ∧ D.ok (2 * (most - (k + 1))) s'):=Lib.hid ⟨hq.out.1.step hpk,ho⟩
     have HO2:Hid (Own w0 w3 (SchA b sp (stepM Y m v).1 :: (D.A s' ++ (CelA bx [.pointer (some ⟨b,0,none⟩)] :: CelA bm [.int .i64 (most:Int)] :: Z)))):=Lib.hid h1.less.to
     clear h1 hpk hf hdv ho hm HS2 hq HOV
     generalize stepM Y m v = st at *
     unfold evV
     generalize st.2.rd.length = N at *
     go_wp2
     exact ⟨⟨k + 1,st.1,s',by go_num,by omega,HQ2,HO2⟩,by simp [intOf];omega⟩
    ·obtain ⟨kk,u,he,-⟩:∃ kk u,Ended (.panicked ch) kk u ∧ (kk = 1 ∨ kk = 2):=by
      rcases hd with hd | ⟨m,s1,kd,n,-,-,-,hd⟩
      ·exact HP.out _ _ _ _ _ hd
      ·exact HP.out _ _ _ _ _ hd
     exact ⟨rfl,.mk k Y s' kk u hq.out.1 hk he h1.to⟩
   ·have HST:=Lib.hid hst
    have hov2:(overM Y == 0) = false:=by rw [beq_eq_false_iff_ne];exact hov
    generalize overM Y = ov at *
    clear hst hs hwf hen
    go_upto_region 1 with fail
    go_wp2_with fail
    refine HST.out.mono ?_
    rintro r w2 ⟨rfl,hb⟩
    have HE:=Lib.hid (HFIN.out _ (hr.out.step hb))
    clear hb HST HFIN x0 x1 hr hq
    go_wp2
    go_end0
    exact HE.out
  ·obtain rfl:k = most:=by omega
   have HE:Hid (TRunP w0 b sp bm bx k X0 Z D (.returned (.tuple #[])) wr):=Lib.hid (.mk k Y s 0 uz hq.out.1 hk (.inl ⟨rfl,rfl,rfl⟩) hr.out)
   have hge:¬ ((k:Int) < (k:Int)):=by omega
   clear hq hr hlt hk
   go_wp2
   go_end0
   exact HE.out
theorem ProgIn.below {w w':World} {fa:Option Addr} {fr:List (Option Addr × Nat)} {fs:List (List In4)} {ra:Option Addr} {rooms:List Int} {ca:Option Addr} {cc:Nat} {ks:List Cs3} (h:ProgIn w fa fr fs ra rooms ca cc ks) (hb:Below w.heap.size w w'):ProgIn w' fa fr fs ra rooms ca cc ks :=
 ⟨h.f.below hb,h.fl,fun i r l hr hl=>by obtain ⟨a,b⟩:=h.each i r l hr hl;exact ⟨a.below hb,b⟩,h.c.below hb,h.k.below hb,h.kn,h.kl,h.nf,h.nc⟩
theorem info_proc:(Tryz.prog.info? 95).map (fun i=>(i.zero,i.size,i.bytes)) = some (some (.agg #[.pointer none,.int .i64 0,.int .i64 0]),3,24):=by kernel_rfl
theorem info_mach:(Tryz.prog.info? 97).map (fun i=>(i.zero,i.size,i.bytes)) = some (some (.agg #[.int .i64 0,.int .i64 0,.int .i64 0]),3,24):=by kernel_rfl
def midSd (W:Wd) (i j:Nat) (ring sl:Int) (gl:List Int):Sd :=
 { W:=W,ps:=List.replicate i ⟨roomOf ring,⟨none,[]⟩,0,-1⟩,ms:=List.replicate j ⟨-1,-1,0⟩,gl:=gl,sl:=sl,st:=0 }
theorem pcs_app {ld:List (Nat × Nat)} {ps:List Pm} (h:ld.length = ps.length) (l:Nat × Nat) (P:Pm):pcs (ld ++ [l]) (ps ++ [P]) = pcs ld ps ++ pc1 (l,P):=by
 unfold pcs;rw [List.zip_append h,List.flatMap_append];simp
theorem qds_app {ld:List (Nat × Nat)} {ps:List Pm} (h:ld.length = ps.length) (l:Nat × Nat) (P:Pm):qds (ld ++ [l]) (ps ++ [P]) = qds ld ps ++ [qd1 l P]:=by
 unfold qds;rw [List.zipWith_append h];rfl
theorem mcs_app (ms:List Mm) (M:Mm):mcs (ms ++ [M]) = mcs ms ++ mc1 M:=by unfold mcs;rw [List.flatMap_append];simp
theorem snew_any {w0 w:World} {R:List Asr} (h:Own w0 w R) (fa:Option Addr) (fc:Nat) (fr:List (Option Addr × Nat)) (fs:List (List In4)) (ra:Option Addr) (rc:Nat) (rooms:List Int) (locks:Nat) (ca:Option Addr) (cc:Nat) (ks:List Cs3) (hp:ProgIn w fa fr fs ra rooms ca cc ks) (hlk:locks ≤ 1000) (np nm:Nat) (ring sl:Int) (hnp:np ≤ 1000) (hnm:nm ≤ 1000) (sp:Nat) :
  Calls Tryz.prog 16 #[.agg #[.slice fa fs.length fc,.slice ra rooms.length rc,.int .i64 (locks:Int),.slice ca ks.length cc],.agg #[.int .i64 (np:Int),.int .i64 (nm:Int),.int .i64 ring,.int .i64 sl],.pointer (some ⟨sp,0,none⟩)] w fun r w'=>∃ b,r = .returned (.pointer (some ⟨b,0,none⟩)) ∧ Own w0 w' (SchA b sp (newSd (newM fs ks rooms locks) np nm ring sl) :: R):=by
 have h1:=h.alloc [.slice fa fs.length fc,.slice ra rooms.length rc,.int .i64 (locks:Int),.slice ca ks.length cc] 34 (b:=w.heap.size) rfl
 have b1:=below_alloc1 w (.cells [.slice fa fs.length fc,.slice ra rooms.length rc,.int .i64 (locks:Int),.slice ca ks.length cc].toArray 34)
 have h2:=h1.alloc [.int .i64 (np:Int),.int .i64 (nm:Int),.int .i64 ring,.int .i64 sl] 37 (b:=w.heap.size + 1) (by simp)
 have b2:=below_on b1 (below_alloc1 _ (.cells [.int .i64 (np:Int),.int .i64 (nm:Int),.int .i64 ring,.int .i64 sl].toArray 37))
 have H2:=Lib.hid h2
 have HNW:=Lib.hid (fun (wx:World) (hb:Below w.heap.size w wx)=>new_w wx fa fc fr fs ra rc rooms locks ca cc ks (hp.below hb) hlk)
 have B2:=Lib.hid b2
 generalize hW:newM fs ks rooms locks = W0 at *
 have HWhp:Hid (W0.hp = []):=Lib.hid (by rw [← hW];rfl)
 clear h h1 h2 b1 b2 hp hlk hW
 go_enter Tryz.func16,Tryz.ntmps16
 go_upto_region 1 with fail
 generalize ((w.alloc (.cells [.slice fa fs.length fc,.slice ra rooms.length rc,.int .i64 (locks:Int),.slice ca ks.length cc].toArray 34)).alloc (.cells [.int .i64 (np:Int),.int .i64 (nm:Int),.int .i64 ring,.int .i64 sl].toArray 37)) = w2 at *
 have hB2:=B2.out
 have hB3:=below_on hB2 (below_drew1 w2)
 generalize hqb:w.heap.size + 1 = qb at *
 generalize hpb:w.heap.size = pb at *
 have h3:=H2.out.step (below_drew1 w2)
 have HSB:Hid (∀ (wx:World) (As:List Asr),Own w0 wx (As ++ (CelA qb [.int .i64 (np:Int),.int .i64 (nm:Int),.int .i64 ring,.int .i64 sl] :: CelA pb [.slice fa fs.length fc,.slice ra rooms.length rc,.int .i64 (locks:Int),.slice ca ks.length cc] :: R)) → wx.cell? ⟨qb,3,none⟩ = some (.int .i64 sl) ∧ wx.cell? ⟨pb,0,none⟩ = some (.slice fa fs.length fc) ∧ wx.cell? ⟨pb,1,none⟩ = some (.slice ra rooms.length rc) ∧ wx.cell? ⟨pb,2,none⟩ = some (.int .i64 (locks:Int)) ∧ wx.cell? ⟨pb,3,none⟩ = some (.slice ca ks.length cc)):=Lib.hid (fun wx As hx=>by
  have h:=Own.dropL hx
  exact ⟨(h.cel 0 rfl 3 _ rfl).1,(h.cel 1 rfl 0 _ rfl).1,(h.cel 1 rfl 1 _ rfl).1,(h.cel 1 rfl 2 _ rfl).1,(h.cel 1 rfl 3 _ rfl).1⟩)
 clear hB2 B2
 refine wp_region_lexH (fun wx=>wx.cell? ⟨qb,3,none⟩ = some (.int .i64 sl) ∧ wx.cell? ⟨pb,0,none⟩ = some (.slice fa fs.length fc) ∧ wx.cell? ⟨pb,1,none⟩ = some (.slice ra rooms.length rc) ∧ wx.cell? ⟨pb,2,none⟩ = some (.int .i64 (locks:Int)) ∧ wx.cell? ⟨pb,3,none⟩ = some (.slice ca ks.length cc)) 10 (Array.replicate 10 false) (by kernel_rfl) (by kernel_rfl) ?_
 generalize w2.drew = w3 at *
 refine wpAnyH_seg 0 1 _ #[true,false,false,false,false,false,false,false,false,false] 9 (by kernel_rfl) noPanic_put (HSB.out _ [] h3) (by kernel_rfl) ?_
 simp only [List.take_succ_cons,List.take_zero,List.drop_zero]
 repeat ((first | refine wpSegH_no (by rfl) ?_ | (refine wpSegH_yes (by rfl) ?_;apply Exists.intro;apply And.intro;(· (intro wx hS;(try dsimp only at hS);go_simp;first | done | with_reducible rfl))));simp only [Act.put,List.setIfInBounds_toArray,List.set_cons_zero,List.set_cons_succ])
 refine wpSegH_nil ?_
 refine wpAnyH_seg 4 3 _ #[true,false,false,false,true,true,true,false,false,false] 6 (by kernel_rfl) noPanic_put (HSB.out _ [] h3) (by kernel_rfl) ?_
 simp only [List.take_succ_cons,List.take_zero,List.drop_succ_cons,List.drop_zero]
 repeat ((first | refine wpSegH_no (by rfl) ?_ | (refine wpSegH_yes (by rfl) ?_;apply Exists.intro;apply And.intro;(· (intro wx hS;(try dsimp only at hS);go_simp;first | done | with_reducible rfl))));simp only [Act.put,List.setIfInBounds_toArray,List.set_cons_zero,List.set_cons_succ])
 refine wpSegH_nil ?_
 refine wpAnyH_one 1 _ #[true,true,false,false,true,true,true,false,false,false] 5 (by kernel_rfl) (fun K hK=>?_)
 have HKK:=Lib.hid hK
 clear hK
 simp only [List.drop_succ_cons,List.drop_zero]
 refine headH_mk (by rfl) ?_
 go_simp
 refine (HNW.out _ hB3).mono ?_
 rintro r w4 ⟨b0,rfl,hk⟩
 have h4:=h3.join hk
 obtain ⟨D,hD,h5⟩:=h4.wld
 have e5:=HSB.out _ _ h5
 refine HKK.out _ _ (e5) ?_
 clear HKK K
 obtain ⟨Fi,⟨-,hit⟩,-⟩:=h5.fact 8 (A:=ItemsA D.sv W0.hp) rfl
 obtain ⟨a5,c5,hv5,hc5⟩:=hit.slice
 rw [HWhp.out] at hv5
 simp only [List.length_nil] at hv5
 have y0:=(h5.cel 0 rfl 0 _ rfl).1
 have y1:=(h5.cel 0 rfl 1 _ rfl).1
 have y2:=(h5.cel 0 rfl 2 _ rfl).1
 have y3:=(h5.cel 0 rfl 3 _ rfl).1
 have y4:=(h5.cel 0 rfl 4 _ rfl).1
 have y5:=(h5.cel 0 rfl 5 _ rfl).1
 have y6:=(h5.cel 0 rfl 6 _ rfl).1
 have y7:=(h5.cel 0 rfl 7 _ rfl).1
 have y8:=(h5.cel 0 rfl 8 _ rfl).1
 have y9:=(h5.cel 0 rfl 9 _ rfl).1
 have y10:=(h5.cel 0 rfl 10 _ rfl).1
 rw [hv5] at y5
 refine wpAnyH_one 2 _ #[true,true,true,false,true,true,true,false,false,false] 4 (by kernel_rfl) (fun K hK=>?_)
 have HKK:=Lib.hid hK
 clear hK
 simp only [List.drop_succ_cons,List.drop_zero]
 refine headH_mk (by rfl) ?_
 go_simp
 refine HKK.out _ _ (e5) ?_
 clear HKK K
 refine wpAnyH_one 3 _ #[true,true,true,true,true,true,true,false,false,false] 3 (by kernel_rfl) (fun K hK=>?_)
 have HKK:=Lib.hid hK
 clear hK
 simp only [List.drop_succ_cons,List.drop_zero]
 refine headH_mk (by rfl) ?_
 go_simp
 refine HKK.out _ _ (e5) ?_
 clear HKK K
 refine wpAnyH_one 7 _ #[true,true,true,true,true,true,true,true,false,false] 2 (by kernel_rfl) (fun K hK=>?_)
 have HKK:=Lib.hid hK
 clear hK
 simp only [List.drop_succ_cons,List.drop_zero]
 refine headH_mk (by rfl) ?_
 go_simp
 refine HKK.out _ _ (e5) ?_
 clear HKK K
 refine wpAnyH_one 8 _ #[true,true,true,true,true,true,true,true,true,false] 1 (by kernel_rfl) (fun K hK=>?_)
 have HKK:=Lib.hid hK
 clear hK
 simp only [List.drop_succ_cons,List.drop_zero]
 refine headH_mk (by rfl) ?_
 go_simp
 have h6:=h5.drop
 have h7:Own w0 w4 (LstA (swr W0 D) :: CelA qb [.int .i64 (np:Int),.int .i64 (nm:Int),.int .i64 ring,.int .i64 sl] :: CelA pb [.slice fa fs.length fc,.slice ra rooms.length rc,.int .i64 (locks:Int),.slice ca ks.length cc] :: R):=Own.lst h6
 have h8:=((((((h7.pick 2 rfl).drop).rowNil 1).rowNil 3).lst (l:=[])).rowNil 3).alloc [.slice D.fa W0.fs.length D.fc,.slice D.ca W0.ks.length D.cc,.slice D.aa W0.gs.length D.ac,.slice D.ha W0.Cs.length D.hc,.slice D.la W0.Ls.length D.lc,.slice a5 0 c5,.int .u64 (W0.nx:Int),.int .u64 (W0.clock:Int),.slice D.oa W0.out.length D.oc,.int .i64 W0.en,.int .i64 W0.why,.pointer (some ⟨sp,0,none⟩),.slice none 0 0,.slice none 0 0,.slice none 0 0,.int .i64 sl,.int .i64 0] 80 (b:=w4.heap.size) rfl
 have hbx:=below_alloc1 w4 (.cells [.slice D.fa W0.fs.length D.fc,.slice D.ca W0.ks.length D.cc,.slice D.aa W0.gs.length D.ac,.slice D.ha W0.Cs.length D.hc,.slice D.la W0.Ls.length D.lc,.slice a5 0 c5,.int .u64 (W0.nx:Int),.int .u64 (W0.clock:Int),.slice D.oa W0.out.length D.oc,.int .i64 W0.en,.int .i64 W0.why,.pointer (some ⟨sp,0,none⟩),.slice none 0 0,.slice none 0 0,.slice none 0 0,.int .i64 sl,.int .i64 0].toArray 80)
 have e6:=HSB.out _ _ (h5.step hbx)
 refine HKK.out _ _ (e6) ?_
 clear HKK K
 refine wpAnyH_seg 9 1 _ #[true,true,true,true,true,true,true,true,true,true] 0 (by kernel_rfl) noPanic_put (e6) (by kernel_rfl) ?_
 simp only [List.take_succ_cons,List.take_zero,List.drop_succ_cons,List.drop_zero]
 repeat ((first | refine wpSegH_no (by rfl) ?_ | (refine wpSegH_yes (by rfl) ?_;apply Exists.intro;apply And.intro;(· (intro wx hS;(try dsimp only at hS);go_simp;first | done | with_reducible rfl))));simp only [Act.put,List.setIfInBounds_toArray,List.set_cons_zero,List.set_cons_succ])
 refine wpSegH_nil ?_
 refine wpAnyH_done (by kernel_rfl) (NoPanic.normal ?_) _
 obtain ⟨S0,hS0⟩:∃ S0:Sa,S0 = ⟨D,none,0,[],none,0,none,0⟩:=⟨_,rfl⟩
 have HS:Hid (S0.fits (midSd W0 0 0 ring sl []) ∧ Own w0 (w4.alloc (.cells [.slice D.fa W0.fs.length D.fc,.slice D.ca W0.ks.length D.cc,.slice D.aa W0.gs.length D.ac,.slice D.ha W0.Cs.length D.hc,.slice D.la W0.Ls.length D.lc,.slice a5 0 c5,.int .u64 (W0.nx:Int),.int .u64 (W0.clock:Int),.slice D.oa W0.out.length D.oc,.int .i64 W0.en,.int .i64 W0.why,.pointer (some ⟨sp,0,none⟩),.slice none 0 0,.slice none 0 0,.slice none 0 0,.int .i64 sl,.int .i64 0].toArray 80)) (schP w4.heap.size sp (midSd W0 0 0 ring sl []) S0 ++ (CelA qb [.int .i64 (np:Int),.int .i64 (nm:Int),.int .i64 ring,.int .i64 sl] :: R))):=Lib.hid (by
  subst hS0
  refine ⟨⟨hD,rfl⟩,?_⟩
  have e:[Value.slice D.fa W0.fs.length D.fc,.slice D.ca W0.ks.length D.cc,.slice D.aa W0.gs.length D.ac,.slice D.ha W0.Cs.length D.hc,.slice D.la W0.Ls.length D.lc,.slice a5 0 c5,.int .u64 (W0.nx:Int),.int .u64 (W0.clock:Int),.slice D.oa W0.out.length D.oc,.int .i64 W0.en,.int .i64 W0.why,.pointer (some ⟨sp,0,none⟩),.slice none 0 0,.slice none 0 0,.slice none 0 0,.int .i64 sl,.int .i64 0] = wcells W0 D ++ stl sp (midSd W0 0 0 ring sl []) ⟨D,none,0,[],none,0,none,0⟩:=by
   unfold wcells;rw [hv5];rfl
  have h9:=h8
  rw [e] at h9
  rw [e]
  exact h9)
 generalize w4.alloc (.cells [.slice D.fa W0.fs.length D.fc,.slice D.ca W0.ks.length D.cc,.slice D.aa W0.gs.length D.ac,.slice D.ha W0.Cs.length D.hc,.slice D.la W0.Ls.length D.lc,.slice a5 0 c5,.int .u64 (W0.nx:Int),.int .u64 (W0.clock:Int),.slice D.oa W0.out.length D.oc,.int .i64 W0.en,.int .i64 W0.why,.pointer (some ⟨sp,0,none⟩),.slice none 0 0,.slice none 0 0,.slice none 0 0,.int .i64 sl,.int .i64 0].toArray 80) = w5 at *
 generalize w4.heap.size = b at *
 clear hk h4 h5 h6 h7 h8 hbx e5 e6 hit hv5 hc5 y0 y1 y2 y3 y4 y5 y6 y7 y8 y9 y10 h3 hB3 HNW H2 HSB HWhp hqb hpb hS0 hD
 have g0:=(HS.out.2.cel 6 rfl 0 _ rfl).1
 go_wp2_with fail
 go_loopw [19] (fun iv wr=>∃ i:Nat,∃ S:Sa,i ≤ np ∧ iv = .int .i64 i ∧ Hid (S.fits (midSd W0 i 0 ring sl []) ∧ Own w0 wr (schP b sp (midSd W0 i 0 ring sl []) S ++ (CelA qb [.int .i64 (np:Int),.int .i64 (nm:Int),.int .i64 ring,.int .i64 sl] :: R)))) (fun iv _=>np - (intOf iv).toNat)
 case atStart=>exact ⟨0,S0,by omega,rfl,HS⟩
 case round =>
  obtain ⟨i,S,hi,rfl,hr⟩:=hrel
  clear HS g0
  by_cases hlt:i < np
  ·have hlt2:(i:Int) < (np:Int):=by omega
   have hi0:(0:Int) ≤ (i:Int):=by omega
   have HSB:Hid (∀ (wx:World) (As:List Asr) (k k2:Nat),Own w0 wx As → As[k]? = some (CelA b (wcells W0 S.D ++ stl sp (midSd W0 i 0 ring sl []) S)) → As[k2]? = some (CelA qb [.int .i64 (np:Int),.int .i64 (nm:Int),.int .i64 ring,.int .i64 sl]) → wx.cell? ⟨b,12,none⟩ = some (.slice S.pa i S.pc) ∧ wx.cell? ⟨qb,2,none⟩ = some (.int .i64 ring)):=Lib.hid (fun wx As k k2 hx h1 h2=>by
    have h3:=(hx.cel k h1 12 _ rfl).1
    have e:(midSd W0 i 0 ring sl []).ps.length = i:=by simp [midSd]
    rw [e] at h3
    exact ⟨h3,(hx.cel k2 h2 2 _ rfl).1⟩)
   have HFI:=Lib.hid hr.out.1
   have o1:=hr.out.2.step (below_drew1 wr)
   have HLN:=Lib.hid (fun wx=>lnew_any ring wx)
   have hpl:(pcs S.ld (midSd W0 i 0 ring sl []).ps).length = i * 3:=by rw [pcs_len _ _ hr.out.1.l];simp [midSd]
   obtain ⟨i0,hi1,hz0,hz1,hz2⟩:=info_parts info_proc
   have Hi:=Lib.hid hi1;clear hi1
   have Hz0:=Lib.hid hz0;clear hz0
   have Hz1:=Lib.hid hz1;clear hz1
   have Hz2:=Lib.hid hz2;clear hz2
   clear hr
   go_upto_region 4 with fail
   refine wp_region_lexY (fun wx=>wx.cell? ⟨b,12,none⟩ = some (.slice S.pa i S.pc) ∧ wx.cell? ⟨qb,2,none⟩ = some (.int .i64 ring)) 13 14 (Array.replicate 14 false) (by kernel_rfl) (by kernel_rfl) ?_
   generalize wr.drew = w6 at *
   refine wpAnyY_seg 0 7 _ #[true,true,true,true,true,true,true,false,false,false,false,false,false,false] 7 (by kernel_rfl) noPanic_put (HSB.out _ _ 0 6 o1 rfl rfl) (by kernel_rfl) ?_
   simp only [List.take_succ_cons,List.take_zero,List.drop_zero]
   repeat ((first | refine wpSegH_no (by rfl) ?_ | (refine wpSegH_yes (by rfl) ?_;apply Exists.intro;apply And.intro;(· (intro wx hS;(try dsimp only at hS);go_simp;first | done | with_reducible rfl))));simp only [Act.put,List.setIfInBounds_toArray,List.set_cons_zero,List.set_cons_succ])
   refine wpSegH_nil ?_
   refine wpAnyY_one 7 _ #[true,true,true,true,true,true,true,true,false,false,false,false,false,false] 6 (by kernel_rfl) (fun K hK=>?_)
   have HKK:=Lib.hid hK
   clear hK
   simp only [List.drop_succ_cons,List.drop_zero]
   refine headH_mk (by rfl) ?_
   go_simp
   refine (HLN.out _).mono ?_
   rintro r w7 ⟨p,g,rfl,hloc,hpp,hgg,hb7⟩
   have o2:=o1.add hb7 (A:=locA ⟨p,g,roomOf ring,⟨none,[]⟩,none,0⟩) (F:=[p,g]) ⟨rfl,hloc⟩ (by intro x hx;simp at hx;rcases hx with rfl | rfl <;> assumption)
   refine HKK.out _ _ (HSB.out _ _ 1 7 o2 rfl rfl) ?_
   clear HKK K
   refine wpAnyY_seg 8 1 _ #[true,true,true,true,true,true,true,true,true,false,false,false,false,false] 5 (by kernel_rfl) noPanic_put (HSB.out _ _ 1 7 o2 rfl rfl) (by kernel_rfl) ?_
   simp only [List.take_succ_cons,List.take_zero,List.drop_succ_cons,List.drop_zero]
   repeat ((first | refine wpSegH_no (by rfl) ?_ | (refine wpSegH_yes (by rfl) ?_;apply Exists.intro;apply And.intro;(· (intro wx hS;(try dsimp only at hS);go_simp;first | done | with_reducible rfl))));simp only [Act.put,List.setIfInBounds_toArray,List.set_cons_zero,List.set_cons_succ])
   refine wpSegH_nil ?_
   have o3:=o2.step (below_alloc1 w7 (.cells #[.pointer (some ⟨p,0,none⟩),.int .i64 0,.int .i64 (-1)] 95))
   refine wpAnyY_one 9 _ #[true,true,true,true,true,true,true,true,true,true,false,false,false,false] 4 (by kernel_rfl) (fun K hK=>?_)
   have HKK:=Lib.hid hK
   clear hK
   simp only [List.drop_succ_cons,List.drop_zero]
   refine headH_mk (by rfl) ?_
   go_simp
   refine HKK.out _ _ (HSB.out _ _ 1 7 o3 rfl rfl) ?_
   clear HKK K
   refine wpAnyY_one 10 _ #[true,true,true,true,true,true,true,true,true,true,true,false,false,false] 3 (by kernel_rfl) (fun K hK=>?_)
   have HKK:=Lib.hid hK
   clear hK
   simp only [List.drop_succ_cons,List.drop_zero]
   refine headH_mk (by rfl) ?_
   have hrow3:=o3.rowG 2 rfl
   rw [show (midSd W0 i 0 ring sl []).ps.length = i by simp [midSd]] at hrow3
   refine wp_append_rowG (n:=i) (m:=1) (cs:=pcs S.ld (midSd W0 i 0 ring sl []).ps) (ds:=[.pointer (some ⟨p,0,none⟩),.int .i64 0,.int .i64 (-1)]) _ _ 75 (by rfl) 95 i0 _ Tryz.underlying75 Hi.out Hz0.out Hz1.out Hz2.out rfl (by omega) (by omega) (by rfl) (by rfl) hrow3 (CellsAt.new _ [.pointer (some ⟨p,0,none⟩),.int .i64 0,.int .i64 (-1)] _ rfl) rfl (by simp [Value.oneCell']) (by omega) ?_
   intro a9 c9 w9 k9 ch9 f9
   have o4:=Own.rowTurn (o3.pick 2 rfl) k9 ch9 f9
   refine HKK.out _ _ (HSB.out _ _ 2 7 o4 rfl rfl) ?_
   clear HKK K
   refine wpAnyY_segT 11 1 _ #[true,true,true,true,true,true,true,true,true,true,true,true,false,false] 2 (by kernel_rfl) noPanic_put (by kernel_rfl) ?_
   simp only [List.take_succ_cons,List.take_zero,List.drop_succ_cons,List.drop_zero]
   repeat ((first | refine wpSegH_no (by rfl) ?_ | (refine wpSegH_yes (by rfl) ?_;apply Exists.intro;apply And.intro;(· (intro wx hS;(try dsimp only at hS);go_simp;first | done | with_reducible rfl))));simp only [Act.put,List.setIfInBounds_toArray,List.set_cons_zero,List.set_cons_succ])
   refine wpSegH_nil ?_
   refine wpAnyY_seg 12 1 _ #[true,true,true,true,true,true,true,true,true,true,true,true,true,false] 1 (by kernel_rfl) noPanic_put (HSB.out _ _ 2 7 o4 rfl rfl) (by kernel_rfl) ?_
   simp only [List.take_succ_cons,List.take_zero,List.drop_succ_cons,List.drop_zero]
   repeat ((first | refine wpSegH_no (by rfl) ?_ | (refine wpSegH_yes (by rfl) ?_;apply Exists.intro;apply And.intro;(· (intro wx hS;(try dsimp only at hS);go_simp;first | done | with_reducible rfl))));simp only [Act.put,List.setIfInBounds_toArray,List.set_cons_zero,List.set_cons_succ])
   refine wpSegH_nil ?_
   obtain ⟨z8,f8⟩:=o4.cel 2 rfl 12 _ rfl
   have o5:=((((((o4.setAt 2 rfl 12 (.slice a9 (i + 1) c9)).pick 1 rfl).pick 3 rfl).pick 1 rfl).lstAdd).pick 1 rfl).pick 2 rfl
   have H5:=Lib.hid o5
   clear o1 o2 o3 o4 o5 k9 ch9 f9 hrow3 hloc hpp hgg hb7 HSB HLN
   refine wpAnyY_late 13 _ #[true,true,true,true,true,true,true,true,true,true,true,true,true,true] 0 (by kernel_rfl) (fun K hK=>?_)
   have HKK:=Lib.hid hK
   clear hK
   simp only [List.drop_succ_cons,List.drop_zero]
   refine headH_mk (by rfl) ?_
   go_simp
   refine HKK.out _ _ ?_
   clear HKK K
   refine wpAnyY_done (by kernel_rfl) (NoPanic.normal ?_) _
   have HFIN:Hid (Sa.fits { S with pa:=a9,pc:=c9,ld:=S.ld ++ [(p,g)] } (midSd W0 (i + 1) 0 ring sl []) ∧ Own w0 (w9.setCell ⟨b,12,none⟩ (.slice a9 (i + 1) c9)) (schP b sp (midSd W0 (i + 1) 0 ring sl []) { S with pa:=a9,pc:=c9,ld:=S.ld ++ [(p,g)] } ++ (CelA qb [.int .i64 (np:Int),.int .i64 (nm:Int),.int .i64 ring,.int .i64 sl] :: R))):=Lib.hid (by
    have hl:=HFI.out.l
    have e1:(midSd W0 (i + 1) 0 ring sl []).ps = (midSd W0 i 0 ring sl []).ps ++ [⟨roomOf ring,⟨none,[]⟩,0,-1⟩]:=by unfold midSd;exact List.replicate_succ'
    have e2:(midSd W0 (i + 1) 0 ring sl []).ps.length = i + 1:=by simp [midSd]
    refine ⟨⟨HFI.out.w,by simp only [List.length_append,List.length_singleton];rw [hl,e2];simp [midSd]⟩,?_⟩
    unfold schP stl
    simp only
    rw [e2,e1,pcs_app hl,qds_app hl,locs,List.map_append]
    exact H5.out)
   clear H5 HFI hpl
   generalize w9.setCell ⟨b,12,none⟩ (.slice a9 (i + 1) c9) = w10 at *
   go_wp2
   exact ⟨⟨i + 1,_,by omega,by go_num,HFIN⟩,by simp [intOf];omega⟩
  ·have hge:¬ (i:Int) < (np:Int):=by omega
   obtain rfl:i = np:=by omega
   have g1:=(hr.out.2.cel 6 rfl 1 _ rfl).1
   go_wp2_with fail
   go_loopw [37] (fun iv wr=>∃ j:Nat,∃ S:Sa,j ≤ nm ∧ iv = .int .i64 j ∧ Hid (S.fits (midSd W0 i j ring sl []) ∧ Own w0 wr (schP b sp (midSd W0 i j ring sl []) S ++ (CelA qb [.int .i64 (i:Int),.int .i64 (nm:Int),.int .i64 ring,.int .i64 sl] :: R)))) (fun iv _=>nm - (intOf iv).toNat)
   case atStart=>exact ⟨0,S,by omega,rfl,hr⟩
   case round =>
    obtain ⟨j,S1,hj,rfl,hq⟩:=hrel
    clear hr g1
    by_cases hlt2:j < nm
    ·have hlt3:(j:Int) < (nm:Int):=by omega
     have hj0:(0:Int) ≤ (j:Int):=by omega
     have em:(midSd W0 i j ring sl []).ms.length = j:=by simp [midSd]
     have z13:=(hq.out.2.cel 0 rfl 13 _ rfl).1
     rw [em] at z13
     have o3:=hq.out.2.step (below_alloc1 wr (.cells #[.int .i64 (-1),.int .i64 (-1),.int .i64 0] 97))
     have z14:=(o3.cel 0 rfl 13 _ rfl)
     rw [em] at z14
     have hrow3:=o3.rowG 3 rfl
     rw [em] at hrow3
     have hpl:(mcs (midSd W0 i j ring sl []).ms).length = j * 3:=by rw [mcs_len];simp [midSd]
     have O3:=Lib.hid (And.intro o3 hrow3)
     have HFI:=Lib.hid hq.out.1
     obtain ⟨i0,hi1,hz0,hz1,hz2⟩:=info_parts info_mach
     have Hi:=Lib.hid hi1;clear hi1
     have Hz0:=Lib.hid hz0;clear hz0
     have Hz1:=Lib.hid hz1;clear hz1
     have Hz2:=Lib.hid hz2;clear hz2
     clear o3 hrow3 hq
     go_wp2_with (at_builtin;go_loud (refine wpList_append_rowG rfl _ _ 76 rfl 97 i0 _ Tryz.underlying76 Hi.out Hz0.out Hz1.out Hz2.out rfl (by decide) (by decide) (n:=j) (m:=1) (cs:=mcs (midSd W0 i j ring sl []).ms) (ds:=[.int .i64 (-1),.int .i64 (-1),.int .i64 0]) (by rfl) (by rfl) O3.out.2 (CellsAt.new _ [.int .i64 (-1),.int .i64 (-1),.int .i64 0] _ rfl) rfl (by simp [Value.oneCell']) (by omega) ?_))
     intro a9 c9 w9 k9 ch9 f9
     have o4:=Own.rowTurn (O3.out.1.pick 3 rfl) k9 ch9 (fun x hx=>by simpa using f9 x hx)
     obtain ⟨z8,f8⟩:=o4.cel 1 rfl 13 _ rfl
     have o5:=(((o4.setAt 1 rfl 13 (.slice a9 (j + 1) c9)).pick 3 rfl).pick 3 rfl).pick 3 rfl
     have HFIN:Hid (Sa.fits { S1 with ma:=a9,mc:=c9 } (midSd W0 i (j + 1) ring sl []) ∧ Own w0 (w9.setCell ⟨b,13,none⟩ (.slice a9 (j + 1) c9)) (schP b sp (midSd W0 i (j + 1) ring sl []) { S1 with ma:=a9,mc:=c9 } ++ (CelA qb [.int .i64 (i:Int),.int .i64 (nm:Int),.int .i64 ring,.int .i64 sl] :: R))):=Lib.hid (by
      have e1:(midSd W0 i (j + 1) ring sl []).ms = (midSd W0 i j ring sl []).ms ++ [⟨-1,-1,0⟩]:=by unfold midSd;exact List.replicate_succ'
      have e2:(midSd W0 i (j + 1) ring sl []).ms.length = j + 1:=by simp [midSd]
      refine ⟨⟨HFI.out.w,HFI.out.l⟩,?_⟩
      unfold schP stl
      simp only
      rw [e2,e1,mcs_app]
      exact o5)
     clear o4 o5 k9 ch9 f9 O3 HFI hpl z13 z14 em
     go_wp2
     exact ⟨⟨j + 1,_,by omega,by go_num,HFIN⟩,by simp [intOf];omega⟩
    ·have hge3:¬ (j:Int) < (nm:Int):=by omega
     obtain rfl:j = nm:=by omega
     have HP:=Lib.hid (fun (wx:World) (hx:Own w0 wx (schP b sp (midSd W0 i j ring sl []) S1 ++ (CelA qb [.int .i64 (i:Int),.int .i64 (j:Int),.int .i64 ring,.int .i64 sl] :: R))) (a:Option Addr) (hm:IntsAt wx a [0])=>sd_gput (L:=⟨S1.pa,S1.ma,S1.ld,S1.mc⟩) ⟨S1,hq.out.1,⟨rfl,⟨rfl,rfl⟩,rfl⟩,hx⟩ a 1 1 [0] rfl hm (by simp [midSd]))
     have HO:=Lib.hid (hq.out.2.step (below_alloc1 wr (.cells #[.int .i64 0] 3)))
     clear hq
     go_wp2_with fail
     refine (HP.out _ HO.out _ (RowAt.one wr 0 3 rfl).ints).mono ?_
     rintro r w9 ⟨rfl,h9⟩
     have HF:Hid (Own w0 w9 (SchA b sp (newSd W0 i j ring sl) :: R)):=Lib.hid (h9.less.to)
     clear h9 HP HO
     go_wp2
     go_ret
     exact ⟨b,rfl,HF.out⟩
theorem srcD_pan (sp:Nat):∀ (s:(srcD sp 0).T) (kd n:Int) (r:Ending) (s':(srcD sp 0).T),(srcD sp 0).Dp s kd n r s' → ∃ k u,Ended r k u ∧ (k = 1 ∨ k = 2):=by
 rintro s kd n r s' ⟨-,h | h⟩
 ·exact ⟨1,uz,.inr (.inl ⟨h.2,rfl,rfl⟩),.inl rfl⟩
 ·exact ⟨2,_,.inr (.inr ⟨_,_,_,_,h.2.2,rfl,rfl⟩),.inr rfl⟩
theorem trun_any {w0 w:World} {R:List Asr} (h:Own w0 w R) (na:Option Addr) (nc most:Nat) (nums:List Nat) (fa:Option Addr) (fc:Nat) (fr:List (Option Addr × Nat)) (fs:List (List In4)) (ra:Option Addr) (rc:Nat) (rooms:List Int) (locks:Nat) (ca:Option Addr) (cc:Nat) (ks:List Cs3) (hpn:∀ (wx:World) (Q:List Asr),Own w0 wx (Q ++ R) → ProgIn wx fa fr fs ra rooms ca cc ks ∧ CellsAt wx na (numc nums)) (hlk:locks ≤ 1000) (np nm:Nat) (ring sl:Int) (hnp:np ≤ 1000) (hnm:nm ≤ 1000)
  (hn0:na = none → nums.length = 0 ∧ nc = 0) (hnl:nums.length ≤ 100000) (hn64:∀ n ∈ nums,n < 18446744073709551616) (hmo:most ≤ 20000)
  (hR:∀ k Y,Rch (newSd (newM fs ks rooms locks) np nm ring sl) k Y → k ≤ most → SdWF k Y ∧ (Y.W.en = 0 ∨ Y.W.en = 1 ∨ Y.W.en = 2)) :
  Calls Tryz.prog 7 #[.agg #[.slice fa fs.length fc,.slice ra rooms.length rc,.int .i64 (locks:Int),.slice ca ks.length cc],.agg #[.int .i64 (np:Int),.int .i64 (nm:Int),.int .i64 ring,.int .i64 sl],.slice na nums.length nc,.int .i64 (most:Int)] w
   fun r w'=>∃ (bs sp k:Nat) (Y:Sd),r = .returned (.pointer (some ⟨bs,0,none⟩)) ∧ Rch (newSd (newM fs ks rooms locks) np nm ring sl) k Y ∧ k ≤ most ∧ Own w0 w' (SchA bs sp Y :: R):=by
 have hmf:∀ (fn:Fn) (first cap:Array Value) (w:World),(Instr.makeFunc fn first cap).run Tryz.prog w = .ok (.func fn first cap) w:=fun _ _ _ _=>rfl
 have en:∀ (args:Array Value) (w:World),(callFunc 19 args).run Tryz.prog w = .ok (.enter 19 args) w:=fun _ _=>by kernel_rfl
 have h1:=h.alloc [.slice fa fs.length fc,.slice ra rooms.length rc,.int .i64 (locks:Int),.slice ca ks.length cc] 34 (b:=w.heap.size) rfl
 have h2:=h1.alloc [.int .i64 (np:Int),.int .i64 (nm:Int),.int .i64 ring,.int .i64 sl] 37 (b:=w.heap.size + 1) (by simp)
 have h3:=h2.alloc [.int .i64 (most:Int)] 3 (b:=w.heap.size + 1 + 1) (by simp)
 have HO:=Lib.hid h3
 have HPN:=Lib.hid hpn
 have HR:=Lib.hid hR
 have H64:=Lib.hid hn64
 have HB:=Lib.hid h
 clear h h1 h2 h3 hpn hR hn64
 go_enter Tryz.func7,Tryz.ntmps7
 go_upto_region 1 with fail
 generalize ((w.alloc (.cells [.slice fa fs.length fc,.slice ra rooms.length rc,.int .i64 (locks:Int),.slice ca ks.length cc].toArray 34)).alloc (.cells [.int .i64 (np:Int),.int .i64 (nm:Int),.int .i64 ring,.int .i64 sl].toArray 37)).alloc (.cells [.int .i64 (most:Int)].toArray 3) = wa at *
 generalize w.heap.size + 1 + 1 = bm at *
 generalize w.heap.size + 1 = bc at *
 generalize w.heap.size = bp at *
 have HSB:Hid (∀ (wx:World) (As:List Asr) (i j:Nat),Own w0 wx As → As[i]? = some (CelA bp [.slice fa fs.length fc,.slice ra rooms.length rc,.int .i64 (locks:Int),.slice ca ks.length cc]) → As[j]? = some (CelA bc [.int .i64 (np:Int),.int .i64 (nm:Int),.int .i64 ring,.int .i64 sl]) → wx.cell? ⟨bp,0,none⟩ = some (.slice fa fs.length fc) ∧ wx.cell? ⟨bp,1,none⟩ = some (.slice ra rooms.length rc) ∧ wx.cell? ⟨bp,2,none⟩ = some (.int .i64 (locks:Int)) ∧ wx.cell? ⟨bp,3,none⟩ = some (.slice ca ks.length cc) ∧ wx.cell? ⟨bc,0,none⟩ = some (.int .i64 (np:Int)) ∧ wx.cell? ⟨bc,1,none⟩ = some (.int .i64 (nm:Int)) ∧ wx.cell? ⟨bc,2,none⟩ = some (.int .i64 ring) ∧ wx.cell? ⟨bc,3,none⟩ = some (.int .i64 sl)) :=
  Lib.hid (fun wx As i j h hi hj=>⟨(h.cel i hi 0 _ rfl).1,(h.cel i hi 1 _ rfl).1,(h.cel i hi 2 _ rfl).1,(h.cel i hi 3 _ rfl).1,(h.cel j hj 0 _ rfl).1,(h.cel j hj 1 _ rfl).1,(h.cel j hj 2 _ rfl).1,(h.cel j hj 3 _ rfl).1⟩)
 go_cut [9] (fun sv wx=>∃ bs sp bx,sv = .pointer (some ⟨bx,0,none⟩) ∧ Hid (Own w0 wx (SchA bs sp (newSd (newM fs ks rooms locks) np nm ring sl) :: SrcA sp 0 ⟨[],nums,[]⟩ .nilFunc :: CelA bx [.pointer (some ⟨bs,0,none⟩)] :: CelA bm [.int .i64 (most:Int)] :: R)))
 case first =>
  have o0:Own w0 wa.drew (CelA bm [.int .i64 (most:Int)] :: CelA bc [.int .i64 (np:Int),.int .i64 (nm:Int),.int .i64 ring,.int .i64 sl] :: CelA bp [.slice fa fs.length fc,.slice ra rooms.length rc,.int .i64 (locks:Int),.slice ca ks.length cc] :: R):=HO.out.step (below_drew1 wa)
  refine wp_region_lexH (fun wx=>wx.cell? ⟨bp,0,none⟩ = some (.slice fa fs.length fc) ∧ wx.cell? ⟨bp,1,none⟩ = some (.slice ra rooms.length rc) ∧ wx.cell? ⟨bp,2,none⟩ = some (.int .i64 (locks:Int)) ∧ wx.cell? ⟨bp,3,none⟩ = some (.slice ca ks.length cc) ∧ wx.cell? ⟨bc,0,none⟩ = some (.int .i64 (np:Int)) ∧ wx.cell? ⟨bc,1,none⟩ = some (.int .i64 (nm:Int)) ∧ wx.cell? ⟨bc,2,none⟩ = some (.int .i64 ring) ∧ wx.cell? ⟨bc,3,none⟩ = some (.int .i64 sl)) 7 (Array.replicate 7 false) (by kernel_rfl) (by kernel_rfl) ?_
  generalize wa.drew = wd at *
  clear HO
  refine wpAnyH_seg 0 3 _ #[true,true,true,false,false,false,false] 4 (by kernel_rfl) noPanic_put (HSB.out _ _ 2 1 o0 rfl rfl) (by kernel_rfl) ?_
  simp only [List.take_succ_cons,List.take_zero,List.drop_zero]
  repeat ((first | refine wpSegH_no (by rfl) ?_ | (refine wpSegH_yes (by rfl) ?_;apply Exists.intro;apply And.intro;(· (intro wx hS;(try dsimp only at hS);go_simp;first | done | with_reducible rfl))));simp only [Act.put,List.setIfInBounds_toArray,List.set_cons_zero,List.set_cons_succ])
  refine wpSegH_nil ?_
  refine wpAnyH_two 3 5 _ #[true,true,true,true,false,false,false] #[true,true,true,false,false,true,false] 3 (by kernel_rfl) (fun K hK=>?_) (fun K hK=>?_)
  ·skip
   have hon:=onew_any o0 na nc nums (HPN.out _ [_,_,_] o0).2 hn0 (by omega)
   have HKK:=Lib.hid hK
   clear hK
   simp only [List.drop_succ_cons,List.drop_zero]
   refine headH_mk (by rfl) ?_
   go_simp
   refine hon.mono ?_
   rintro r w1 ⟨sp,rfl,o1,hbo⟩
   clear hon hbo
   refine HKK.out _ _ (HSB.out _ _ 3 2 o1 rfl rfl) ?_
   clear HKK K
   refine wpAnyH_two 4 5 _ #[true,true,true,true,true,false,false] #[true,true,true,true,false,true,false] 2 (by kernel_rfl) (fun K hK=>?_) (fun K hK=>?_)
   ·skip
    have hsn:=snew_any o1 fa fc fr fs ra rc rooms locks ca cc ks (HPN.out _ [_,_,_,_] o1).1 hlk np nm ring sl hnp hnm sp
    have HKK:=Lib.hid hK
    clear hK
    simp only [List.drop_succ_cons,List.drop_zero]
    refine headH_mk (by rfl) ?_
    go_simp
    refine hsn.mono ?_
    rintro r w2 ⟨bs,rfl,o2⟩
    clear hsn
    refine HKK.out _ _ (HSB.out _ _ 4 3 o2 rfl rfl) ?_
    clear HKK K
    have o3:=o2.alloc [.pointer none] 35 rfl
    refine wpAnyH_one 5 _ #[true,true,true,true,true,true,false] 1 (by kernel_rfl) (fun K hK=>?_)
    have HKK:=Lib.hid hK
    clear hK
    simp only [List.drop_succ_cons,List.drop_zero]
    refine headH_mk (by rfl) ?_
    go_simp
    refine HKK.out _ _ (HSB.out _ _ 5 4 o3 rfl rfl) ?_
    clear HKK K
    generalize w2.alloc (.cells [.pointer none].toArray 35) = wb3 at *
    generalize w2.heap.size = bx at *
    obtain ⟨f0,g0⟩:=o3.cel 0 rfl 0 _ rfl
    have oz:=o3.setAt 0 rfl 0 (.pointer (some ⟨bs,0,none⟩))
    refine wpAnyH_one 6 _ #[true,true,true,true,true,true,true] 0 (by kernel_rfl) (fun K hK=>?_)
    have HKK:=Lib.hid hK
    clear hK
    simp only [List.drop_succ_cons,List.drop_zero]
    refine headH_mk (by rfl) ?_
    go_simp
    refine HKK.out _ _ (HSB.out _ _ 5 4 oz rfl rfl) ?_
    clear HKK K
    refine wpAnyH_done (by kernel_rfl) (NoPanic.normal ?_) _
    have HZ:Hid (Own w0 _ (SchA bs sp (newSd (newM fs ks rooms locks) np nm ring sl) :: SrcA sp 0 ⟨[],nums,[]⟩ .nilFunc :: CelA bx [.pointer (some ⟨bs,0,none⟩)] :: CelA bm [.int .i64 (most:Int)] :: R)):=Lib.hid (((((((oz.pick 3 rfl).pick 1 rfl).pick 3 rfl).pick 3 rfl).pick 5 rfl).pick 5 rfl).drop.drop)
    clear oz f0 g0
    go_wp2_with fail
    go_meet
    exact ⟨bs,sp,bx,rfl,HZ⟩
   ·skip
    have o2:=o1.alloc [.pointer none] 35 rfl
    have HKK:=Lib.hid hK
    clear hK
    simp only [List.drop_succ_cons,List.drop_zero]
    refine headH_mk (by rfl) ?_
    go_simp
    refine HKK.out _ _ (HSB.out _ _ 4 3 o2 rfl rfl) ?_
    clear HKK K
    generalize w1.alloc (.cells [.pointer none].toArray 35) = wb2 at *
    generalize w1.heap.size = bx at *
    have hsn:=snew_any o2 fa fc fr fs ra rc rooms locks ca cc ks (HPN.out _ [_,_,_,_,_] o2).1 hlk np nm ring sl hnp hnm sp
    refine wpAnyH_one 4 _ #[true,true,true,true,true,true,false] 1 (by kernel_rfl) (fun K hK=>?_)
    have HKK:=Lib.hid hK
    clear hK
    simp only [List.drop_succ_cons,List.drop_zero]
    refine headH_mk (by rfl) ?_
    go_simp
    refine hsn.mono ?_
    rintro r w3 ⟨bs,rfl,o3⟩
    clear hsn
    refine HKK.out _ _ (HSB.out _ _ 5 4 o3 rfl rfl) ?_
    clear HKK K
    obtain ⟨f0,g0⟩:=o3.cel 1 rfl 0 _ rfl
    have oz:=o3.setAt 1 rfl 0 (.pointer (some ⟨bs,0,none⟩))
    refine wpAnyH_one 6 _ #[true,true,true,true,true,true,true] 0 (by kernel_rfl) (fun K hK=>?_)
    have HKK:=Lib.hid hK
    clear hK
    simp only [List.drop_succ_cons,List.drop_zero]
    refine headH_mk (by rfl) ?_
    go_simp
    refine HKK.out _ _ (HSB.out _ _ 5 4 oz rfl rfl) ?_
    clear HKK K
    refine wpAnyH_done (by kernel_rfl) (NoPanic.normal ?_) _
    have HZ:Hid (Own w0 _ (SchA bs sp (newSd (newM fs ks rooms locks) np nm ring sl) :: SrcA sp 0 ⟨[],nums,[]⟩ .nilFunc :: CelA bx [.pointer (some ⟨bs,0,none⟩)] :: CelA bm [.int .i64 (most:Int)] :: R)):=Lib.hid (((((((oz.pick 3 rfl).pick 2 rfl).pick 3 rfl).pick 3 rfl).pick 5 rfl).pick 5 rfl).drop.drop)
    clear oz f0 g0
    go_wp2_with fail
    go_meet
    exact ⟨bs,sp,bx,rfl,HZ⟩
  ·skip
   have o1:=o0.alloc [.pointer none] 35 rfl
   have HKK:=Lib.hid hK
   clear hK
   simp only [List.drop_succ_cons,List.drop_zero]
   refine headH_mk (by rfl) ?_
   go_simp
   refine HKK.out _ _ (HSB.out _ _ 3 2 o1 rfl rfl) ?_
   clear HKK K
   generalize wd.alloc (.cells [.pointer none].toArray 35) = wb1 at *
   generalize wd.heap.size = bx at *
   have hon:=onew_any o1 na nc nums (HPN.out _ [_,_,_,_] o1).2 hn0 (by omega)
   refine wpAnyH_one 3 _ #[true,true,true,true,false,true,false] 2 (by kernel_rfl) (fun K hK=>?_)
   have HKK:=Lib.hid hK
   clear hK
   simp only [List.drop_succ_cons,List.drop_zero]
   refine headH_mk (by rfl) ?_
   go_simp
   refine hon.mono ?_
   rintro r w2 ⟨sp,rfl,o2,hbo⟩
   clear hon hbo
   refine HKK.out _ _ (HSB.out _ _ 4 3 o2 rfl rfl) ?_
   clear HKK K
   have hsn:=snew_any o2 fa fc fr fs ra rc rooms locks ca cc ks (HPN.out _ [_,_,_,_,_] o2).1 hlk np nm ring sl hnp hnm sp
   refine wpAnyH_one 4 _ #[true,true,true,true,true,true,false] 1 (by kernel_rfl) (fun K hK=>?_)
   have HKK:=Lib.hid hK
   clear hK
   simp only [List.drop_succ_cons,List.drop_zero]
   refine headH_mk (by rfl) ?_
   go_simp
   refine hsn.mono ?_
   rintro r w3 ⟨bs,rfl,o3⟩
   clear hsn
   refine HKK.out _ _ (HSB.out _ _ 5 4 o3 rfl rfl) ?_
   clear HKK K
   obtain ⟨f0,g0⟩:=o3.cel 2 rfl 0 _ rfl
   have oz:=o3.setAt 2 rfl 0 (.pointer (some ⟨bs,0,none⟩))
   refine wpAnyH_one 6 _ #[true,true,true,true,true,true,true] 0 (by kernel_rfl) (fun K hK=>?_)
   have HKK:=Lib.hid hK
   clear hK
   simp only [List.drop_succ_cons,List.drop_zero]
   refine headH_mk (by rfl) ?_
   go_simp
   refine HKK.out _ _ (HSB.out _ _ 5 4 oz rfl rfl) ?_
   clear HKK K
   refine wpAnyH_done (by kernel_rfl) (NoPanic.normal ?_) _
   have HZ:Hid (Own w0 _ (SchA bs sp (newSd (newM fs ks rooms locks) np nm ring sl) :: SrcA sp 0 ⟨[],nums,[]⟩ .nilFunc :: CelA bx [.pointer (some ⟨bs,0,none⟩)] :: CelA bm [.int .i64 (most:Int)] :: R)):=Lib.hid (((((((oz.pick 3 rfl).pick 3 rfl).pick 3 rfl).pick 3 rfl).pick 5 rfl).pick 5 rfl).drop.drop)
   clear oz f0 g0
   go_wp2_with fail
   go_meet
   exact ⟨bs,sp,bx,rfl,HZ⟩
 case rest =>
  obtain ⟨bs,sp,bx,rfl,HZ⟩:=hcut
  clear HSB HO
  have hok:(srcD sp 0).ok (2 * most) (⟨[],nums,[]⟩:Src):=⟨⟨fun r hr=>by simp at hr,H64.out⟩,(by first | exact ⟨fun _=>rfl,(fun e=>by cases e),by omega⟩ | exact ⟨fun _=>rfl,fun e=>by cases e⟩),by simp [Src.many];omega,by simp,by simp;omega⟩
  have hg:=guard_any HZ.out 19 #[.pointer (some ⟨bm,0,none⟩),.pointer (some ⟨bx,0,none⟩)] en
   (fun r R'=>∃ (k:Nat) (Y:Sd) (s:Src),Rch (newSd (newM fs ks rooms locks) np nm ring sl) k Y ∧ k ≤ most ∧ R' = SchA bs sp Y :: SrcA sp 0 s .nilFunc :: CelA bx [.pointer (some ⟨bs,0,none⟩)] :: CelA bm [.int .i64 (most:Int)] :: R)
   (fun w1 g ho=>by
    have h2:Own w0 w1 (SchA bs sp (newSd (newM fs ks rooms locks) np nm ring sl) :: ((srcD sp 0).A ⟨[],nums,[]⟩ ++ (CelA bx [.pointer (some ⟨bs,0,none⟩)] :: CelA bm [.int .i64 (most:Int)] :: (CelA g [.int .i64 0] :: CelA (g + 1) uz :: R)))) :=
     ho.perm (List.perm_append_comm_assoc [CelA g [.int .i64 0],CelA (g + 1) uz] [_,_,_,_] R)
    refine (run1_any h2 hok hmo HR.out (srcD_pan sp)).mono (fun r w2 hh=>?_)
    obtain ⟨k,Y,s,kk,u,h3,h4,h5,h6⟩:=hh
    refine ⟨_,kk,u,?_,⟨k,Y,s,h3,h4,rfl⟩,h5⟩
    exact h6.perm (List.perm_append_comm_assoc [_,_,_,_] [CelA g [.int .i64 0],CelA (g + 1) uz] R))
  have HG:=Lib.hid hg
  clear hg hok HZ
  go_wp2_with fail
  refine HG.out.mono ?_
  rintro r w2 ⟨rr,R',kk,u,ho,⟨k,Y,s,hk1,hk2,rfl⟩,he,rfl⟩
  obtain ⟨u0,u1,u2,u3,u4,rfl⟩:=len5 he
  obtain ⟨x0,-⟩:=ho.cel 2 rfl 0 _ rfl
  have HF:Hid (∃ (bs' sp k:Nat) (Y:Sd),Ending.returned (.pointer (some ⟨bs,0,none⟩)) = .returned (.pointer (some ⟨bs',0,none⟩)) ∧ Rch (newSd (newM fs ks rooms locks) np nm ring sl) k Y ∧ k ≤ most ∧ Own w0 w2 (SchA bs' sp Y :: R)) :=
   Lib.hid ⟨bs,sp,k,Y,rfl,hk1,hk2,((ho.pick 3 rfl).drop.pick 2 rfl).drop.pick 1 rfl |>.drop⟩
  clear ho hk1 hk2 he HG
  go_wp2
  go_ret
  exact HF.out
def crcL (x:Nat):Nat:=if x % 2 = 1 then x / 2 ^^^ 3988292384 else x / 2
def crcK:Nat → Nat → Nat
 | 0,x=>x
 | k + 1,x=>crcL (crcK k x)
theorem xor_even (x w:Nat):(x ^^^ 2 * w) % 2 = 1 ↔ x % 2 = 1:=by
 rw [Nat.xor_mod_two_eq_one];have:2 * w % 2 = 0:=by omega
 omega
theorem crcL_xor (x w:Nat):crcL (x ^^^ 2 * w) = crcL x ^^^ w:=by
 unfold crcL
 have e:(x ^^^ 2 * w) / 2 = x / 2 ^^^ w:=by rw [Nat.xor_div_two,show 2 * w / 2 = w by omega]
 by_cases h:x % 2 = 1
 ·rw [if_pos ((xor_even x w).2 h),if_pos h,e,Nat.xor_assoc,Nat.xor_assoc,Nat.xor_comm w]
 ·rw [if_neg (fun k=>h ((xor_even x w).1 k)),if_neg h,e]
theorem crcL_lt (x:Nat) (h:x < 4294967296):crcL x < 4294967296:=by
 unfold crcL;split
 ·exact Nat.xor_lt_two_pow (n:=32) (by omega) (by omega)
 ·omega
theorem crcK_lt (k x:Nat) (h:x < 4294967296):crcK k x < 4294967296:=by
 induction k with
 | zero=>exact h
 | succ k ih=>exact crcL_lt _ ih
theorem crcK_xor (k x w:Nat):crcK k (x ^^^ 2 ^ k * w) = crcK k x ^^^ w:=by
 induction k generalizing w with
 | zero=>simp [crcK]
 | succ k ih=>rw [crcK,crcK,show 2 ^ (k + 1) * w = 2 ^ k * (2 * w) by rw [Nat.pow_succ,Nat.mul_assoc],ih,crcL_xor]
theorem crcK_table (x:Nat):crcK 8 x = crcK 8 (x % 256) ^^^ x / 256:=by
 have e:x = x % 256 ^^^ 2 ^ 8 * (x / 256):=by
  have hx:∀ i,(x % 256 ^^^ 2 ^ 8 * (x / 256)).testBit i = x.testBit i:=fun i=>by
   rw [Nat.testBit_xor,show (256:Nat) = 2 ^ 8 from rfl,Nat.testBit_mod_two_pow,Nat.mul_comm,Nat.testBit_mul_two_pow,Nat.testBit_div_two_pow]
   by_cases hi:i < 8
   ·simp [hi,show ¬ 8 ≤ i by omega]
   ·have:8 ≤ i:=by omega
    simp [hi,this]
  exact (Nat.eq_of_testBit_eq hx).symm
 conv=>lhs;rw [e]
 exact crcK_xor 8 _ _


def crcB (x b:Nat):Nat:=crcK 8 (x ^^^ b)
def crcF (l:List UInt8) (x:Nat):Nat:=l.foldl (fun x b=>crcB x b.toNat) x
def crcSum (l:List UInt8):Nat:=4294967295 - crcF l 4294967295
theorem crcF_app (l m:List UInt8) (x:Nat):crcF (l ++ m) x = crcF m (crcF l x):=by unfold crcF;rw [List.foldl_append]
theorem crcF_snoc (l:List UInt8) (k:Nat) (h:k < l.length) (x:Nat):crcF (l.take (k + 1)) x = crcB (crcF (l.take k) x) l[k].toNat:=by
 rw [List.take_succ_eq_append_getElem h,crcF_app];rfl
theorem xor_mod_256 (x b:Nat) (hb:b < 256):(x ^^^ b) % 256 = (x % 256) ^^^ b ∧ (x ^^^ b) / 256 = x / 256:=by
 refine ⟨?_,?_⟩
 ·rw [show (256:Nat) = 2 ^ 8 from rfl,Nat.xor_mod_two_pow,Nat.mod_eq_of_lt (a:=b) (by omega)]
 ·rw [show (256:Nat) = 2 ^ 8 from rfl,Nat.xor_div_two_pow,Nat.div_eq_of_lt (a:=b) (by omega),Nat.xor_zero]
theorem crcB_table (x b:Nat) (hb:b < 256):crcB x b = crcK 8 ((x % 256) ^^^ b) ^^^ x / 256:=by
 unfold crcB;rw [crcK_table,(xor_mod_256 x b hb).1,(xor_mod_256 x b hb).2]

def sumL (n:Nat):List UInt8:=[UInt8.ofNat n,UInt8.ofNat (n / 256),UInt8.ofNat (n / 65536),UInt8.ofNat (n / 16777216)]
theorem sumL_len (n:Nat):(sumL n).length = 4:=rfl
theorem crcSum_lt (l:List UInt8):crcSum l < 4294967296:=by unfold crcSum;omega
def textL (q:Nat) (b:List UInt8):List UInt8:=83 :: 103 :: (putL q ++ (putL b.length ++ b))
def frameL (q:Nat) (b:List UInt8):List UInt8:=textL q b ++ sumL (crcSum (textL q b))
theorem textL_len (q:Nat) (b:List UInt8):(textL q b).length = 2 + (putL q).length + (putL b.length).length + b.length:=by
 unfold textL;simp only [List.length_cons,List.length_append];omega
theorem frameL_len (q:Nat) (b:List UInt8):(frameL q b).length = 6 + (putL q).length + (putL b.length).length + b.length:=by
 unfold frameL;rw [List.length_append,textL_len,sumL_len];omega
theorem bytes_ext {a b:ByteArray} (h:a.data.toList = b.data.toList):a = b:=by
 obtain ⟨⟨x⟩⟩:=a;obtain ⟨⟨y⟩⟩:=b;simp at h;rw [h]
theorem put_any (n:Nat) (w:World) (h2:n < 18446744073709551616) :
  Calls Tryz.prog 26 #[.int .u64 n] w fun e w'=>e = .returned (.string ⟨(putL n).toArray⟩) ∧ Below w.heap.size w w':=by
 have hl:=Lib.hid (lim10 n h2)
 go_enter Tryz.func26,Tryz.ntmps26
 go_wp2
 go_loopw [0,4] (fun m i wr=>∃ k:Nat,∃ q:Nat,∃ cs:List UInt8,k ≤ 9 ∧ m = .int .u64 q ∧ i = .int .i64 k ∧ q < 18446744073709551616 ∧ q < lim (10 - k) ∧ cs.length = 10 ∧ cs.take k ++ putL q = putL n ∧
   Bytes wr w.heap.size cs ∧ Below w.heap.size w wr) (fun m i _=>(intOf m).toNat)
 case atStart =>
  exact ⟨0,n,List.replicate 10 0,by omega,rfl,rfl,h2,hl.out,rfl,rfl,Bytes.fresh w 111 10,(Below.refl _ _).alloc (Nat.le_refl _) _⟩
 case round =>
  obtain ⟨k,q,cs,hk,rfl,rfl,hq,hql,hcs,hput,hb,hbel⟩:=hrel
  have Hput:=Lib.hid hput;clear hput
  have Hcs:=Lib.hid hcs;clear hcs
  have Hq:=Lib.hid hq;clear hq
  have Hl:=Lib.hid hql;clear hql
  have H2:=Lib.hid h2;clear h2
  by_cases h:128 ≤ q
  ·obtain ⟨j,hj,hl2⟩:=lim_pred _ _ Hl.out h
   have Hj:=Lib.hid hj;clear hj
   have hk8:k ≤ 8:=by have:=Hj.out;omega
   have Hl2:=Lib.hid hl2;clear hl2
   obtain ⟨c,hck⟩:∃ c:Int,wr.cell? ⟨w.heap.size,k,none⟩ = some (.int .u8 c):=⟨_,hb.1 k (by have:=Hcs.out;omega)⟩
   have hfk:=hb.2 k (by have:=Hcs.out;omega)
   have Hb:=Lib.hid hb;clear hb
   go_wp2
   refine ⟨⟨k + 1,q / 128,cs.set k (UInt8.ofNat (q % 128 + 128)),by omega,by go_num,by go_num,?_,?_,?_,?_,?_,?_⟩,?_⟩
   ·have:=Hq.out;omega
   ·rw [show 10 - (k + 1) = j + 1 by have:=Hj.out;omega];exact Hl2.out
   ·simp [Hcs.out]
   ·rw [← Hput.out,putL_step q h (lim10 _ Hq.out),take_set_succ _ _ _ (by have:=Hcs.out;omega)];simp
   ·exact Hb.out.set k (by have:=Hcs.out;omega) _ _ (u8_or128' q)
   ·exact hbel.setCell (by simp) _
   ·simp [intOf];omega
  ·obtain ⟨c,hck⟩:∃ c:Int,wr.cell? ⟨w.heap.size,k,none⟩ = some (.int .u8 c):=⟨_,hb.1 k (by have:=Hcs.out;omega)⟩
   have hfk:=hb.2 k (by have:=Hcs.out;omega)
   have hsl:∀ w',(Instr.sliceAt 111 (.pointer (some ⟨w.heap.size,0,none⟩)) none (some (.int .i64 ((k:Int) + 1))) none).run Tryz.prog w' = .ok (.slice (some ⟨w.heap.size,0,none⟩) (k + 1) 10) w':=fun w'=>by
    rw [run_sliceAt_array_h w' 111 ⟨w.heap.size,0,none⟩ Tryz.underlying111 .i64 ((k:Int) + 1) (by omega) (by show (k:Int) + 1 ≤ 10;omega)]
    rfl
   have hcv:(convert 113 9 (.slice (some ⟨w.heap.size,0,none⟩) (k + 1) 10)).run Tryz.prog (wr.setCell ⟨w.heap.size,k,none⟩ (.int .u8 q)) = .ok (.string ⟨(putL n).toArray⟩) (wr.setCell ⟨w.heap.size,k,none⟩ (.int .u8 q)):=by
    have hb':=hb.set k (by have:=Hcs.out;omega) (UInt8.ofNat q) q (by simp;omega)
    have hln:(List.take (k + 1) (cs.set k (UInt8.ofNat q))).length = k + 1:=by simp [Hcs.out];omega
    have:=run_convert_bytes_back (P:=Tryz.prog) (wr.setCell ⟨w.heap.size,k,none⟩ (.int .u8 q)) 113 9 5 ⟨w.heap.size,0,none⟩ 10 (List.take (k + 1) (cs.set k (UInt8.ofNat q))) Tryz.underlying113 Tryz.underlying5 Tryz.underlying9 (fun j hj=>by
     have:=hb'.1 j (by simp [Hcs.out];omega)
     simp only [List.getElem_take]
     by_cases h0:j = 0
     ·subst h0;exact this
     ·simp [Addr.add,h0] at this ⊢;exact this)
    rw [hln] at this
    rw [this,← Hput.out,putL_last q (by omega),take_set_succ _ _ _ (by have:=Hcs.out;omega)]
   have Hb:=Lib.hid hb;clear hb
   go_wp2
   go_ret
   exact ⟨rfl,hbel.setCell (by simp) _⟩

end Go.Proofs.YtphfaekpckbepaaGreat

open Go Go.RowKit
set_option linter.unusedVariables false
namespace Go.Proofs.YtphfaekpckbepaaGreat
theorem xor_u32 (a b:Nat) (ha:a < 4294967296) (hb:b < 4294967296):bits BinOp.xor IntKind.u32 (a:Int) (b:Int) = ((a ^^^ b:Nat):Int):=by
 show IntKind.u32.wrap ((BitVec.ofInt 32 (a:Int) ^^^ BitVec.ofInt 32 (b:Int)).toNat:Int) = _
 have e:∀ n:Nat,BitVec.ofInt 32 (n:Int) = BitVec.ofNat 32 n:=fun n=>by apply BitVec.eq_of_toNat_eq;rw [BitVec.toNat_ofInt,BitVec.toNat_ofNat];omega
 rw [e,e,BitVec.toNat_xor,BitVec.toNat_ofNat,BitVec.toNat_ofNat,Nat.mod_eq_of_lt (by omega),Nat.mod_eq_of_lt (by omega),IntKind.wrap_u32]
 have:=Nat.xor_lt_two_pow (n:=32) (by omega:a < _) (by omega:b < _)
 omega
def tabL (k:Nat):List Value:=(List.range k).map fun i=>.int .u32 (crcK 8 i:Int)
def tab0:List Value:=List.replicate 256 (.int .u32 0)
theorem tab0_len:tab0.length = 256:=by unfold tab0;rw [List.length_replicate]
theorem tab_size:(Tryz.prog.info? 159).map (·.size) = some (tabL 256).length:=by kernel_rfl
theorem tab_one:(tabL 256).toArray.all (·.oneCell') = true:=all_oneCell_toArray (fun v hv=>by unfold tabL at hv;simp only [List.mem_map] at hv;obtain ⟨i,_,rfl⟩:=hv;rfl)
theorem and_u32_one (x:Nat) (h:x < 4294967296):bits BinOp.and IntKind.u32 (x:Int) 1 = ((x % 2:Nat):Int):=by
 show IntKind.u32.wrap ((BitVec.ofInt 32 (x:Int) &&& BitVec.ofInt 32 1).toNat:Int) = _
 have e:BitVec.ofInt 32 (x:Int) = BitVec.ofNat 32 x:=by apply BitVec.eq_of_toNat_eq;rw [BitVec.toNat_ofInt,BitVec.toNat_ofNat];omega
 have e1:BitVec.ofInt 32 1 = BitVec.ofNat 32 1:=rfl
 rw [e,e1,BitVec.toNat_and,BitVec.toNat_ofNat,BitVec.toNat_ofNat,Nat.mod_eq_of_lt (by omega),show 1 % 2 ^ 32 = 1 from rfl,Nat.and_one_is_mod,IntKind.wrap_u32]
 omega
theorem tab_zero (w:World):Sem.run Tryz.prog (zeroValue 159) w = .ok (.agg tab0.toArray) w:=by
 have h:(Tryz.prog.info? 159).map (·.zero) = some (some (.agg tab0.toArray)):=by kernel_rfl
 cases hq:Tryz.prog.info? 159 with
 | none=>simp [hq] at h
 | some i=>simp [hq] at h;simp [zeroValue,typeInfo,hq,h,Sem.run_bind]
theorem table_any (w:World) :
  Calls Tryz.prog 60 #[] w fun e w'=>e = .returned (.agg (tabL 256).toArray) ∧ Below w.heap.size w w':=by
 have hz:=tab_zero
 go_enter Tryz.func60,Tryz.ntmps60
 go_wp2_with fail
 go_loopw [2,3,4] (fun i x c wr=>∃ k:Nat,k ≤ 256 ∧ c = .int .i64 k ∧ Hid (Blk wr w.heap.size tab0 ∧ (∃ cs,cs.length = 256 ∧ cs.take k = tabL k ∧ Blk wr (w.heap.size + 1) cs) ∧ Below w.heap.size w wr)) (fun i x c _=>256 - (intOf c).toNat)
 case atStart =>
  exact ⟨0,by omega,rfl,⟨(Blk.mk w tab0 _ _ rfl).alloc _,⟨tab0,tab0_len,rfl,Blk.mk _ tab0 _ _ (by simp)⟩,((Below.refl _ _).alloc (Nat.le_refl _) _).alloc (by simp) _⟩⟩
 case round =>
  obtain ⟨k,hk,rfl,hr⟩:=hrel
  by_cases hlt:k < 256
  ·obtain ⟨hc0,⟨cs,hcl,hct,hc1⟩,hbel⟩:=hr.out
   obtain ⟨g1,g2⟩:=hc1.at k (by omega)
   generalize cs[k] = cv at g1
   have Hcl:=Lib.hid hcl;clear hcl
   have Hct:=Lib.hid hct;clear hct
   have H0:=Lib.hid hc0;clear hc0
   have H1:=Lib.hid hc1;clear hc1
   have Hb:=Lib.hid hbel;clear hbel hr
   have hkm:((k:Int) % 4294967296) = k:=by omega
   go_wp2_with fail
   go_loopw [3,9] (fun x c wi=>∃ j X:Nat,j ≤ 8 ∧ X < 4294967296 ∧ x = .int .u32 X ∧ c = .int .i64 j ∧ wi = wr ∧ Hid (X = crcK j k)) (fun x c _=>8 - (intOf c).toNat)
   case atStart=>exact ⟨0,k,by omega,by omega,rfl,rfl,rfl,rfl⟩
   case round =>
    obtain ⟨j,X,hj,hX,rfl,rfl,rfl,Hj⟩:=hrel
    by_cases hj2:j < 8
    ·by_cases ho:X % 2 = 1
     ·have ha:bits BinOp.and IntKind.u32 (X:Int) 1 = 1:=by rw [and_u32_one X hX];omega
      have HN:Hid (crcK (j + 1) k = X / 2 ^^^ 3988292384):=Lib.hid (by rw [crcK,← Hj.out,crcL,if_pos ho])
      clear ho
      go_wp2
      refine ⟨⟨j + 1,X / 2 ^^^ 3988292384,by omega,Nat.xor_lt_two_pow (n:=32) (by omega) (by omega),?_,by go_num,trivial,HN.out.symm⟩,by simp [intOf];omega⟩
      rw [show ((X:Int) / 2) = ((X / 2:Nat):Int) by omega];exact congrArg (Value.int .u32) (xor_u32 (X / 2) 3988292384 (by omega) (by omega))
     ·have ha:bits BinOp.and IntKind.u32 (X:Int) 1 = 0:=by rw [and_u32_one X hX];omega
      have HN:Hid (crcK (j + 1) k = X / 2):=Lib.hid (by rw [crcK,← Hj.out,crcL,if_neg ho])
      clear ho
      go_wp2
      refine ⟨⟨j + 1,X / 2,by omega,by omega,?_,by go_num,trivial,HN.out.symm⟩,by simp [intOf];omega⟩
      rw [show ((X:Int) / 2) = ((X / 2:Nat):Int) by omega];exact congrArg (Value.int .u32) ((xor_u32 (X / 2) 0 (by omega) (by omega)).trans (by rw [Nat.xor_zero]))
    ·obtain rfl:j = 8:=by omega
     go_wp2
     refine ⟨⟨k + 1,by omega,by go_num,H0.out.setFar (by omega),⟨cs.set k (.int .u32 X),by rw [List.length_set];exact Hcl.out,?_,H1.out.set k _⟩,Hb.out.setCell (by simp) _⟩,by simp [intOf];omega⟩
     rw [take_set_succ _ _ _ (by have:=Hcl.out;omega),Hct.out]
     unfold tabL
     rw [List.range_succ,List.map_append,Hj.out];rfl
  ·obtain rfl:k = 256:=by omega
   obtain ⟨hc0,⟨cs,hcl,hct,hc1⟩,hbel⟩:=hr.out
   rw [List.take_of_length_le (by omega)] at hct
   subst hct
   have hl:=hc1.range
   have ht:=hc0.there 256 (by rw [tab0_len];omega)
   clear hr
   go_wp2_with (first | (with_reducible refine wpList_load_mid rfl _ _ rfl _ _ rfl _ _ hl Tryz.underlying159 rfl tab_size ?_) | (with_reducible refine wpList_store_mid rfl _ _ _ rfl _ _ _ rfl rfl ht tab_size tab_one ?_))
   have hl2:=World.rangeAt_setCells_same wr w.heap.size 0 (tabL 256) (by rw [show (tabL 256).length = 256 from hcl];exact ht)
   refine bodyPost_ret (v:=.agg (tabL 256).toArray) ?_ rfl ⟨rfl,below_setCells hbel _ (Nat.le_refl _) _ _⟩
   have hL:=run_loadVar_mid (P:=Tryz.prog) _ _ 0 _ (tabL 256) _ hl2 Tryz.underlying159 rfl tab_size
   exact results_cell Tryz.results60 _ ⟨_,0,none⟩ rfl hL
end Go.Proofs.YtphfaekpckbepaaGreat
