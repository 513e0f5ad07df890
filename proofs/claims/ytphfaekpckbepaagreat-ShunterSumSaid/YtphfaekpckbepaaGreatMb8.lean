/-
  Texts put together: SdStepW, SdGets, SdChk, WGrd1, WGrd2, TopRun, SdNewW, SdPan, TopRun2, CrcNums, Seg, WPut, WGet, WCrc1, WCrc2, WSeg1, WSeg2, WRec1, TopLive, NumsIn, W10Sum.
-/
import Derived.Test.YtphfaekpckbepaaGreatMb7
import Derived.Recover
import Derived.Tactics
import Derived.Tactics2
import Derived.Deep.CutBlock
import Derived.Test.YtphfaekpckbepaaGreatMb6
import Derived.WalkKit
import Derived.Test.YtphfaekpckbepaaGreatRows
import Derived.Test.YtphfaekpckbepaaGreatMb1
import Derived.ProofKit
import Derived.WalkSpells
import Derived.WalkLawsBesides
import Derived.IntWalk
import Derived.Lib.Hide
import Derived.LoopTactic
import Derived.Deep.RegionWith
import Derived.Lib.BitFns
import Derived.Deep.MidRow
import Derived.Deep.QuietTactic
import Derived.BigQuiet
import Derived.RegionTactic
import Derived.Deep.RegionHeld3
import Derived.OpenShut
set_option maxRecDepth 100000
set_option maxHeartbeats 16000000
set_option linter.unusedSimpArgs false
set_option linter.unusedVariables false
open Go Go.RowKit
set_option linter.unusedVariables false
namespace Go.Proofs.YtphfaekpckbepaaGreat
theorem st_near (X:Sd) (i:Nat):(nearM X i).1.st = X.st:=by unfold nearM;split <;> (try split) <;> rfl
theorem st_new (X:Sd) (i v:Nat):(newTurnM X i v).1.st = X.st:=by
 have h:=st_near (turnM X i) i
 unfold newTurnM
 simp only
 split
 ·exact h
 ·split
  ·split <;> exact h
  ·exact h
theorem st_look (X:Sd) (m v:Nat):(lookM X m v).1.st = X.st:=by
 unfold lookM
 simp only
 split
 ·rfl
 ·split <;> exact st_new X _ _
theorem st_ready:∀ (l:List Int) (X:Sd) (i:Nat),(readyA X i l).st = X.st
 | [],X,i=>rfl
 | g :: t,X,i=>st_ready t _ i
theorem st_run (X:Sd) (m:Nat) (v:Int):(runM X m v).1.st = X.st:=by
 unfold runM
 simp only
 split <;> exact st_ready _ _ _
theorem st_hold (X:Sd) (m:Nat):(holdM X m).1.st = X.st:=by unfold holdM;split <;> rfl
theorem st_pick (X:Sd) (m:Nat) (v:Int):(pickedM X m v).1.st = X.st:=by
 unfold pickedM
 split
 ·rfl
 ·split
  ·exact st_hold X m
  ·split
   ·exact st_look X m _
   ·exact st_run X m v
theorem ms_near (X:Sd) (i:Nat):(nearM X i).1.ms = X.ms:=by unfold nearM;split <;> (try split) <;> rfl
theorem ms_new (X:Sd) (i v:Nat):(newTurnM X i v).1.ms = X.ms:=by
 have h:=ms_near (turnM X i) i
 unfold newTurnM
 simp only
 split
 ·exact h
 ·split
  ·split <;> exact h
  ·exact h
theorem ms_ready:∀ (l:List Int) (X:Sd) (i:Nat),(readyA X i l).ms = X.ms
 | [],X,i=>rfl
 | g :: t,X,i=>ms_ready t _ i
theorem ms_pick (X:Sd) (m:Nat) (v:Int):(pickedM X m v).1.ms.length = X.ms.length:=by
 unfold pickedM
 split
 ·rfl
 ·split
  ·unfold holdM;split <;> simp [Sd.setM,Sd.setP]
  ·split
   ·unfold lookM
    simp only
    split
    ·simp [Sd.setM,Sd.setP]
    ·split <;> simp [Sd.setM,Sd.setP,ms_new]
   ·unfold runM
    simp only
    split <;> simp [Sd.setM,Sd.setP,ms_ready]
def StepP (w0:World) (b sp:Nat) (L:Sl) (D:Drw sp) (s:D.T) (X:Sd) (R:List Asr) (j:Nat) (r:Ending) (w':World):Prop :=
 (∃ m:Nat,∃ v s1 s' ra rc,m ≤ X.ms.length ∧ D.Dv s 1 ((X.ms.length:Int) + 1) (m:Int) s1 ∧ Fit D s1 (asks2 X m) v s' ∧ D.ok j s' ∧ r = .returned (evV (stepM X m v).2 ra rc) ∧ SAt w0 w' b sp L (stepM X m v).1 (RowGA 1 ra rc (stepM X m v).2.rd.length (intc (stepM X m v).2.rd) :: (D.A s' ++ R))) ∨
 (∃ ch s',r = .panicked ch ∧ (D.Dp s 1 ((X.ms.length:Int) + 1) r s' ∨ ∃ m:Nat,∃ s1 kd n,m ≤ X.ms.length ∧ D.Dv s 1 ((X.ms.length:Int) + 1) (m:Int) s1 ∧ asks2 X m = some (kd,n) ∧ D.Dp s1 kd n r s') ∧ D.ok j s' ∧ SAt w0 w' b sp L X (D.A s' ++ R))
theorem pick_any {w0 w:World} {b sp:Nat} {L:Sl} {X:Sd} {R:List Asr} {D:Drw sp} {s:D.T} {j B:Nat} (h:SAt w0 w b sp L X (D.A s ++ R)) (hok:D.ok (j + 1) s) (wf:SdWF B X) (hB:B ≤ 80000) (hen:X.W.en = 0) {m:Nat} (hm:m ≤ X.ms.length) :
  Calls Tryz.prog 34 #[.pointer (some ⟨b,0,none⟩),.int .i64 (m:Int)] w (PickP w0 b sp L D s X R j m):=by
 by_cases e:m = X.ms.length
 ·subst e;exact pick_clock h hok wf hB
 ·have hml:m < X.ms.length:=by omega
  by_cases hP:(X.m m).P = -1
  ·exact pick_hold h hok wf hB hml hP
  ·by_cases hG:(X.m m).G = -1
   ·exact pick_look h hok wf hB hml hP hG
   ·exact pick_run h hok wf hB hml hP hG hen
theorem perm_five {α:Type _} {a c r:α} {A R:List α}:List.Perm (r :: (A ++ (a :: c :: R))) (a :: c :: r :: (A ++ R)):=(List.Perm.cons r (List.perm_middle.trans (List.Perm.cons a List.perm_middle))).trans ((List.Perm.swap _ _ _).trans (List.Perm.cons a (List.Perm.swap _ _ _)))
theorem step_any {w0 w:World} {b sp:Nat} {L:Sl} {X:Sd} {R:List Asr} {D:Drw sp} {s:D.T} {j B:Nat} (h:SAt w0 w b sp L X (D.A s ++ R)) (hok:D.ok (j + 2) s) (wf:SdWF B X) (hB:B ≤ 80000) (hov:overM X = 0) (hen:X.W.en = 0) :
  Calls Tryz.prog 20 #[.pointer (some ⟨b,0,none⟩)] w (StepP w0 b sp L D s X R j):=by
 have hnm:=wf.nm
 have h1:=(h.box evz 64).perm List.perm_middle.symm
 have hg1:=wf.wf.g1
 have HSTAT:=Lib.hid (stat_any h1 (by omega))
 rw [hov] at HSTAT
 have HDR:=Lib.hid (fun (wx:World) (n:Int) (Z:List Asr) (hn:n = (X.ms.length:Int) + 1) (hx:SAt w0 wx b sp L X (D.A s ++ Z))=>(by
  subst hn
  obtain ⟨S,k1,k2⟩:=hx.tail
  rw [List.append_assoc] at k1
  refine (D.hd s 1 ((X.ms.length:Int) + 1) (Z ++ S) (j + 1) hok ⟨by omega,by omega⟩ k1).mono (fun r w' hh=>?_)
  rcases hh with ⟨v,s',a1,a2,a3,a4,a5⟩ | ⟨ch,s',a1,a2,a3,a4⟩
  ·exact .inl ⟨v.toNat,s',by rw [a1];congr 2;omega,by omega,by rw [show ((v.toNat:Nat):Int) = v by omega];exact a3,a4,k2 _ _ (by rw [List.append_assoc];exact a5)⟩
  ·exact .inr ⟨ch,s',a1,a2,D.less _ _ a3,k2 _ _ (by rw [List.append_assoc];exact a4)⟩:Calls Tryz.prog 35 #[.pointer (some ⟨sp,0,none⟩),.int .i64 1,.int .i64 n] wx fun r w' =>
   (∃ m:Nat,∃ s1,r = .returned (.int .i64 (m:Int)) ∧ m ≤ X.ms.length ∧ D.Dv s 1 ((X.ms.length:Int) + 1) (m:Int) s1 ∧ D.ok (j + 1) s1 ∧ SAt w0 w' b sp L X (D.A s1 ++ Z)) ∨ (∃ ch s',r = .panicked ch ∧ D.Dp s 1 ((X.ms.length:Int) + 1) r s' ∧ D.ok j s' ∧ SAt w0 w' b sp L X (D.A s' ++ Z))))
 have HPK:=Lib.hid (fun (wx:World) (s1:D.T) (m:Nat) (Z:List Asr) (ho:D.ok (j + 1) s1) (hm:m ≤ X.ms.length) (hx:SAt w0 wx b sp L X (D.A s1 ++ Z))=>pick_any hx ho wf hB hen hm)
 have hst:=wf.st
 have HEND:Hid (∀ (m:Nat) v s1 s' ra rc wx rr,m ≤ X.ms.length → D.Dv s 1 ((X.ms.length:Int) + 1) (m:Int) s1 → Fit D s1 (asks2 X m) v s' → D.ok j s' → rr = Ending.returned (evV (pickedM X m v).2 ra rc) → SAt w0 wx b sp L { (pickedM X m v).1 with st:=(pickedM X m v).1.st + 1 } (RowGA 1 ra rc (pickedM X m v).2.rd.length (intc (pickedM X m v).2.rd) :: (D.A s' ++ R)) → StepP w0 b sp L D s X R j rr wx):=Lib.hid (fun m v s1 s' ra rc wx rr h1 h2 h3 h4 h5 h6=>.inl ⟨m,v,s1,s',ra,rc,h1,h2,h3,h4,h5,by rw [st_pick] at h6;exact h6⟩)
 have HST:Hid (∀ m v,(pickedM X m v).1.st ≤ 80000):=Lib.hid (fun m v=>by rw [st_pick];omega)
 have HD1:Hid (∀ ch s' wx,D.Dp s 1 ((X.ms.length:Int) + 1) (.panicked ch) s' → D.ok j s' → SAt w0 wx b sp L X (D.A s' ++ R) → StepP w0 b sp L D s X R j (.panicked ch) wx):=Lib.hid (fun ch s' wx h1 h2 h3=>.inr ⟨ch,s',rfl,.inl h1,h2,h3⟩)
 have HD2:Hid (∀ ch (m:Nat) s1 s' kd n wx,m ≤ X.ms.length → D.Dv s 1 ((X.ms.length:Int) + 1) (m:Int) s1 → asks2 X m = some (kd,n) → D.Dp s1 kd n (.panicked ch) s' → D.ok j s' → SAt w0 wx b sp L X (D.A s' ++ R) → StepP w0 b sp L D s X R j (.panicked ch) wx):=Lib.hid (fun ch m s1 s' kd n wx h0 h1 h2 h3 h4 h5=>.inr ⟨ch,s',rfl,.inr ⟨m,s1,kd,n,h0,h1,h2,h3⟩,h4,h5⟩)
 have HSB:Hid (∀ wx (Y:Sd) Z,SAt w0 wx b sp L Y Z → Y.ms.length = X.ms.length → wx.cell? ⟨b,11,none⟩ = some (.pointer (some ⟨sp,0,none⟩)) ∧ wx.cell? ⟨b,13,none⟩ = some (.slice L.ma X.ms.length L.mc)):=Lib.hid (fun wx Y Z hx e=>⟨hx.c11,by rw [← e];exact hx.c13'⟩)
 have HLM:Hid (∀ m v,m ≤ X.ms.length → (pickedM X m v).1.ms.length = X.ms.length):=Lib.hid (fun m v hm=>ms_pick X m v)
 have hwr:IntKind.i64.wrap ((X.ms.length:Int) + 1) = (X.ms.length:Int) + 1:=by rw [IntKind.wrap_i64];omega
 obtain ⟨K,hK⟩:∃ K,K = X.ms.length:=⟨_,rfl⟩
 simp only [← hK] at HDR HPK HEND HD1 HD2 HSB HLM hwr hnm
 have H1:=Lib.hid h1
 have HKX:=Lib.hid hK.symm
 clear h h1 hok wf hov hen hg1 hst hK
 unfold evz at H1 HSTAT
 go_enter Tryz.func20,Tryz.ntmps20
 go_upto_region 1 with fail
 generalize w.alloc (.cells [.int .i64 0,.int .i64 0,.int .i64 0,.slice none 0 0].toArray 64) = w1 at *
 generalize w.heap.size = q at *
 go_wp2_with fail
 refine HSTAT.out.mono ?_
 rintro r w2 ⟨rfl,hb⟩
 have H2:=Lib.hid (H1.out.step hb)
 clear H1 hb HSTAT
 go_upto_region 3 with fail
 have h3:=H2.out.step (below_drew1 w2)
 refine wp_region_lexP (fun wx=>wx.cell? ⟨b,11,none⟩ = some (.pointer (some ⟨sp,0,none⟩)) ∧ wx.cell? ⟨b,13,none⟩ = some (.slice L.ma K L.mc)) 15 (Array.replicate 15 false) (by kernel_rfl) (by kernel_rfl) ?_
 generalize w2.drew = w3 at *
 refine wpAnyH_seg 0 11 _ #[true,true,true,true,true,true,true,true,true,true,true,false,false,false,false] 4 (by kernel_rfl) body_put (HSB.out _ _ _ h3 HKX.out) (by kernel_rfl) ?_
 simp only [List.take_succ_cons,List.take_zero,List.drop_zero]
 repeat ((first | refine wpSegH_no (by rfl) ?_ | (refine wpSegH_yes (by rfl) ?_;apply Exists.intro;apply And.intro;(· (intro wx hS;(try dsimp only at hS);go_simp;first | done | with_reducible rfl))));simp only [Act.put,List.setIfInBounds_toArray,List.set_cons_zero,List.set_cons_succ])
 refine wpSegH_nil ?_
 refine wpAnyH_two 11 13 _ #[true,true,true,true,true,true,true,true,true,true,true,true,false,false,false] #[true,true,true,true,true,true,true,true,true,true,true,false,false,true,false] 3 (by kernel_rfl) (fun K hK=>?_) (fun K hK=>?_)
 ·skip
  have HKK:=Lib.hid hK
  clear hK
  simp only [List.drop_succ_cons,List.drop_zero]
  refine headH_mk (by rfl) ?_
  go_simp
  refine (HDR.out _ _ _ rfl h3).mono ?_
  intro r w4 hp
  rcases hp with ⟨m,s1,rfl,hm,hdv,ho1,h4⟩ | ⟨ch,s',rfl,hdp,ho1,h4⟩
  ·skip
   have e4:=HSB.out _ _ _ h4 HKX.out
   refine HKK.out _ _ (e4) ?_
   clear HKK K
   refine wpAnyH_two 12 13 _ #[true,true,true,true,true,true,true,true,true,true,true,true,true,false,false] #[true,true,true,true,true,true,true,true,true,true,true,true,false,true,false] 2 (by kernel_rfl) (fun K hK=>?_) (fun K hK=>?_)
   ·skip
    have HKK:=Lib.hid hK
    clear hK
    simp only [List.drop_succ_cons,List.drop_zero]
    refine headH_mk (by rfl) ?_
    go_simp
    refine (HPK.out _ _ _ _ ho1 hm h4).mono ?_
    intro r w6 hp
    rcases hp with ⟨v,s',ra,rc,hf,ho,rfl,h6⟩ | ⟨ch,s',kd,n,rfl,hk,hdp,ho,h6⟩
    ·skip
     have HFF:=Lib.hid (And.intro hm (And.intro hdv (And.intro hf ho)))
     have HE2:=Lib.hid (fun wx rr=>HEND.out m v s1 s' ra rc wx rr)
     have hst:=HST.out m v
     have hlm:=HLM.out m v hm
     generalize pickedM X m v = pk at *
     obtain ⟨Y,k0,M0,G0,rd⟩:=pk
     unfold evV at HE2 ⊢
     simp only at h6 HE2 hst hlm ⊢
     generalize rd.length = N at *
     have e6:=HSB.out _ _ _ h6 hlm
     refine HKK.out _ _ (e6) ?_
     clear HKK K
     have h5:=h6
     have h7:=((h6.perm ((List.Perm.cons _ List.perm_middle).trans (List.Perm.swap _ _ _))).box evz 64)
     unfold evz at h7
     have e7:=HSB.out _ _ _ h7 hlm
     refine wpAnyH_one 13 _ #[true,true,true,true,true,true,true,true,true,true,true,true,true,true,false] 1 (by kernel_rfl) (fun K hK=>?_)
     have HKK:=Lib.hid hK
     clear hK
     simp only [List.drop_succ_cons,List.drop_zero]
     refine headH_mk (by rfl) ?_
     go_simp
     refine HKK.out _ _ (e7) ?_
     clear HKK K
     generalize w6.alloc (.cells [.int .i64 0,.int .i64 0,.int .i64 0,.slice none 0 0].toArray 64) = w7 at *
     generalize w6.heap.size = q3 at *
     obtain ⟨x0,y0⟩:=h7.cel 0 _ rfl
     obtain ⟨x1,y1⟩:=h7.cel 1 _ rfl
     obtain ⟨x2,y2⟩:=h7.cel 2 _ rfl
     obtain ⟨x3,y3⟩:=h7.cel 3 _ rfl
     have h9:=(((h7.setBox 0 (.int .i64 k0)).setBox 1 (.int .i64 M0)).setBox 2 (.int .i64 G0)).setBox 3 (.slice ra N rc)
     have e9:=HSB.out _ _ _ h9 hlm
     refine wpAnyH_one 14 _ #[true,true,true,true,true,true,true,true,true,true,true,true,true,true,true] 0 (by kernel_rfl) (fun K hK=>?_)
     have HKK:=Lib.hid hK
     clear hK
     simp only [List.drop_succ_cons,List.drop_zero]
     refine headH_mk (by rfl) ?_
     go_simp
     refine HKK.out _ _ (e9) ?_
     clear HKK K
     refine wpAnyH_done (by kernel_rfl) (?_) _
     clear HEND HST HLM HD1 HD2 HPK HDR hm hdv hf ho
     have HQ:=Lib.hid h9
     generalize (((w7.setCell ⟨q3,0,none⟩ (.int .i64 k0)).setCell ⟨q3,1,none⟩ (.int .i64 M0)).setCell ⟨q3,2,none⟩ (.int .i64 G0)).setCell ⟨q3,3,none⟩ (.slice ra N rc) = w8 at *
     clear h3 h4 h5 h6 h7 h9 H2
     obtain ⟨c16,f16⟩:=HQ.out.c16
     have hwr2:IntKind.i64.wrap ((Y.st:Int) + 1) = (Y.st:Int) + 1:=by rw [IntKind.wrap_i64];omega
     have ha:=HQ.out.setSt (Y.st + 1)
     rw [show ((Y.st + 1:Nat):Int) = (Y.st:Int) + 1 by omega] at ha
     have HA:=Lib.hid ha
     clear ha HQ HSB
     go_upto_region 5 with fail
     clear c16 f16
     generalize w8.setCell ⟨b,16,none⟩ (.int .i64 ((Y.st:Int) + 1)) = w9 at *
     obtain ⟨u0,-⟩:=HA.out.cel 0 _ rfl
     obtain ⟨u1,-⟩:=HA.out.cel 1 _ rfl
     obtain ⟨u2,-⟩:=HA.out.cel 2 _ rfl
     obtain ⟨u3,-⟩:=HA.out.cel 3 _ rfl
     have hb:=HA.out.perm (List.Perm.swap _ _ _)
     obtain ⟨p0,r0⟩:=hb.cel 0 _ rfl
     obtain ⟨p1,r1⟩:=hb.cel 1 _ rfl
     obtain ⟨p2,r2⟩:=hb.cel 2 _ rfl
     obtain ⟨p3,r3⟩:=hb.cel 3 _ rfl
     have hc:=(((hb.setBox 0 (.int .i64 k0)).setBox 1 (.int .i64 M0)).setBox 2 (.int .i64 G0)).setBox 3 (.slice ra N rc)
     have EG:=ev_get (hc.cel 0 _ rfl).1 (hc.cel 1 _ rfl).1 (hc.cel 2 _ rfl).1 (hc.cel 3 _ rfl).1
     have HC:=Lib.hid hc.less.less
     clear hb hc HA
     go_wp2
     exact bodyPost_ret (results_cell Tryz.results20 _ ⟨q,0,none⟩ rfl EG) rfl (HE2.out _ _ HFF.out.1 HFF.out.2.1 HFF.out.2.2.1 HFF.out.2.2.2 rfl HC.out)
    ·exact ⟨rfl,HD2.out ch m s1 s' kd n _ hm hdv hk hdp ho (SAt.less (h6.perm List.perm_middle))⟩
   ·skip
    have h5:=(h4.perm List.perm_middle).box evz 64
    unfold evz at h5
    have e5:=HSB.out _ _ _ h5 HKX.out
    have HKK:=Lib.hid hK
    clear hK
    simp only [List.drop_succ_cons,List.drop_zero]
    refine headH_mk (by rfl) ?_
    go_simp
    refine HKK.out _ _ (e5) ?_
    clear HKK K
    generalize w4.alloc (.cells [.int .i64 0,.int .i64 0,.int .i64 0,.slice none 0 0].toArray 64) = w5 at *
    generalize w4.heap.size = q3 at *
    refine wpAnyH_one 12 _ #[true,true,true,true,true,true,true,true,true,true,true,true,true,true,false] 1 (by kernel_rfl) (fun K hK=>?_)
    have HKK:=Lib.hid hK
    clear hK
    simp only [List.drop_succ_cons,List.drop_zero]
    refine headH_mk (by rfl) ?_
    go_simp
    refine (HPK.out _ _ _ _ ho1 hm (h5.perm perm_two)).mono ?_
    intro r w7 hp
    rcases hp with ⟨v,s',ra,rc,hf,ho,rfl,h6⟩ | ⟨ch,s',kd,n,rfl,hk,hdp,ho,h6⟩
    ·skip
     have HFF:=Lib.hid (And.intro hm (And.intro hdv (And.intro hf ho)))
     have HE2:=Lib.hid (fun wx rr=>HEND.out m v s1 s' ra rc wx rr)
     have hst:=HST.out m v
     have hlm:=HLM.out m v hm
     generalize pickedM X m v = pk at *
     obtain ⟨Y,k0,M0,G0,rd⟩:=pk
     unfold evV at HE2 ⊢
     simp only at h6 HE2 hst hlm ⊢
     generalize rd.length = N at *
     have e6:=HSB.out _ _ _ h6 hlm
     refine HKK.out _ _ (e6) ?_
     clear HKK K
     have h7:=h6.perm perm_five
     obtain ⟨x0,y0⟩:=h7.cel 0 _ rfl
     obtain ⟨x1,y1⟩:=h7.cel 1 _ rfl
     obtain ⟨x2,y2⟩:=h7.cel 2 _ rfl
     obtain ⟨x3,y3⟩:=h7.cel 3 _ rfl
     have h9:=(((h7.setBox 0 (.int .i64 k0)).setBox 1 (.int .i64 M0)).setBox 2 (.int .i64 G0)).setBox 3 (.slice ra N rc)
     have e9:=HSB.out _ _ _ h9 hlm
     refine wpAnyH_one 14 _ #[true,true,true,true,true,true,true,true,true,true,true,true,true,true,true] 0 (by kernel_rfl) (fun K hK=>?_)
     have HKK:=Lib.hid hK
     clear hK
     simp only [List.drop_succ_cons,List.drop_zero]
     refine headH_mk (by rfl) ?_
     go_simp
     refine HKK.out _ _ (e9) ?_
     clear HKK K
     refine wpAnyH_done (by kernel_rfl) (?_) _
     clear HEND HST HLM HD1 HD2 HPK HDR hm hdv hf ho
     have HQ:=Lib.hid h9
     generalize (((w7.setCell ⟨q3,0,none⟩ (.int .i64 k0)).setCell ⟨q3,1,none⟩ (.int .i64 M0)).setCell ⟨q3,2,none⟩ (.int .i64 G0)).setCell ⟨q3,3,none⟩ (.slice ra N rc) = w8 at *
     clear h3 h4 h5 h6 h7 h9 H2
     obtain ⟨c16,f16⟩:=HQ.out.c16
     have hwr2:IntKind.i64.wrap ((Y.st:Int) + 1) = (Y.st:Int) + 1:=by rw [IntKind.wrap_i64];omega
     have ha:=HQ.out.setSt (Y.st + 1)
     rw [show ((Y.st + 1:Nat):Int) = (Y.st:Int) + 1 by omega] at ha
     have HA:=Lib.hid ha
     clear ha HQ HSB
     go_upto_region 5 with fail
     clear c16 f16
     generalize w8.setCell ⟨b,16,none⟩ (.int .i64 ((Y.st:Int) + 1)) = w9 at *
     obtain ⟨u0,-⟩:=HA.out.cel 0 _ rfl
     obtain ⟨u1,-⟩:=HA.out.cel 1 _ rfl
     obtain ⟨u2,-⟩:=HA.out.cel 2 _ rfl
     obtain ⟨u3,-⟩:=HA.out.cel 3 _ rfl
     have hb:=HA.out.perm (List.Perm.swap _ _ _)
     obtain ⟨p0,r0⟩:=hb.cel 0 _ rfl
     obtain ⟨p1,r1⟩:=hb.cel 1 _ rfl
     obtain ⟨p2,r2⟩:=hb.cel 2 _ rfl
     obtain ⟨p3,r3⟩:=hb.cel 3 _ rfl
     have hc:=(((hb.setBox 0 (.int .i64 k0)).setBox 1 (.int .i64 M0)).setBox 2 (.int .i64 G0)).setBox 3 (.slice ra N rc)
     have EG:=ev_get (hc.cel 0 _ rfl).1 (hc.cel 1 _ rfl).1 (hc.cel 2 _ rfl).1 (hc.cel 3 _ rfl).1
     have HC:=Lib.hid hc.less.less
     clear hb hc HA
     go_wp2
     exact bodyPost_ret (results_cell Tryz.results20 _ ⟨q,0,none⟩ rfl EG) rfl (HE2.out _ _ HFF.out.1 HFF.out.2.1 HFF.out.2.2.1 HFF.out.2.2.2 rfl HC.out)
    ·exact ⟨rfl,HD2.out ch m s1 s' kd n _ hm hdv hk hdp ho (SAt.less (SAt.less (h6.perm perm_two.symm)))⟩
  ·exact ⟨rfl,HD1.out ch s' _ hdp ho1 (SAt.less (h4.perm List.perm_middle))⟩
 ·skip
  have h4:=(h3.perm List.perm_middle).box evz 64
  unfold evz at h4
  have e4:=HSB.out _ _ _ h4 HKX.out
  have HKK:=Lib.hid hK
  clear hK
  simp only [List.drop_succ_cons,List.drop_zero]
  refine headH_mk (by rfl) ?_
  go_simp
  refine HKK.out _ _ (e4) ?_
  clear HKK K
  generalize w3.alloc (.cells [.int .i64 0,.int .i64 0,.int .i64 0,.slice none 0 0].toArray 64) = w4 at *
  generalize w3.heap.size = q3 at *
  refine wpAnyH_one 11 _ #[true,true,true,true,true,true,true,true,true,true,true,true,false,true,false] 2 (by kernel_rfl) (fun K hK=>?_)
  have HKK:=Lib.hid hK
  clear hK
  simp only [List.drop_succ_cons,List.drop_zero]
  refine headH_mk (by rfl) ?_
  go_simp
  refine (HDR.out _ _ _ rfl (h4.perm perm_two)).mono ?_
  intro r w5 hp
  rcases hp with ⟨m,s1,rfl,hm,hdv,ho1,h5⟩ | ⟨ch,s',rfl,hdp,ho1,h5⟩
  ·have e5:=HSB.out _ _ _ h5 HKX.out
   refine HKK.out _ _ (e5) ?_
   clear HKK K
   refine wpAnyH_one 12 _ #[true,true,true,true,true,true,true,true,true,true,true,true,true,true,false] 1 (by kernel_rfl) (fun K hK=>?_)
   have HKK:=Lib.hid hK
   clear hK
   simp only [List.drop_succ_cons,List.drop_zero]
   refine headH_mk (by rfl) ?_
   go_simp
   refine (HPK.out _ _ _ _ ho1 hm h5).mono ?_
   intro r w7 hp
   rcases hp with ⟨v,s',ra,rc,hf,ho,rfl,h6⟩ | ⟨ch,s',kd,n,rfl,hk,hdp,ho,h6⟩
   ·skip
    have HFF:=Lib.hid (And.intro hm (And.intro hdv (And.intro hf ho)))
    have HE2:=Lib.hid (fun wx rr=>HEND.out m v s1 s' ra rc wx rr)
    have hst:=HST.out m v
    have hlm:=HLM.out m v hm
    generalize pickedM X m v = pk at *
    obtain ⟨Y,k0,M0,G0,rd⟩:=pk
    unfold evV at HE2 ⊢
    simp only at h6 HE2 hst hlm ⊢
    generalize rd.length = N at *
    have e6:=HSB.out _ _ _ h6 hlm
    refine HKK.out _ _ (e6) ?_
    clear HKK K
    have h7:=h6.perm perm_five
    obtain ⟨x0,y0⟩:=h7.cel 0 _ rfl
    obtain ⟨x1,y1⟩:=h7.cel 1 _ rfl
    obtain ⟨x2,y2⟩:=h7.cel 2 _ rfl
    obtain ⟨x3,y3⟩:=h7.cel 3 _ rfl
    have h9:=(((h7.setBox 0 (.int .i64 k0)).setBox 1 (.int .i64 M0)).setBox 2 (.int .i64 G0)).setBox 3 (.slice ra N rc)
    have e9:=HSB.out _ _ _ h9 hlm
    refine wpAnyH_one 14 _ #[true,true,true,true,true,true,true,true,true,true,true,true,true,true,true] 0 (by kernel_rfl) (fun K hK=>?_)
    have HKK:=Lib.hid hK
    clear hK
    simp only [List.drop_succ_cons,List.drop_zero]
    refine headH_mk (by rfl) ?_
    go_simp
    refine HKK.out _ _ (e9) ?_
    clear HKK K
    refine wpAnyH_done (by kernel_rfl) (?_) _
    clear HEND HST HLM HD1 HD2 HPK HDR hm hdv hf ho
    have HQ:=Lib.hid h9
    generalize (((w7.setCell ⟨q3,0,none⟩ (.int .i64 k0)).setCell ⟨q3,1,none⟩ (.int .i64 M0)).setCell ⟨q3,2,none⟩ (.int .i64 G0)).setCell ⟨q3,3,none⟩ (.slice ra N rc) = w8 at *
    clear h3 h4 h5 h6 h7 h9 H2
    obtain ⟨c16,f16⟩:=HQ.out.c16
    have hwr2:IntKind.i64.wrap ((Y.st:Int) + 1) = (Y.st:Int) + 1:=by rw [IntKind.wrap_i64];omega
    have ha:=HQ.out.setSt (Y.st + 1)
    rw [show ((Y.st + 1:Nat):Int) = (Y.st:Int) + 1 by omega] at ha
    have HA:=Lib.hid ha
    clear ha HQ HSB
    go_upto_region 5 with fail
    clear c16 f16
    generalize w8.setCell ⟨b,16,none⟩ (.int .i64 ((Y.st:Int) + 1)) = w9 at *
    obtain ⟨u0,-⟩:=HA.out.cel 0 _ rfl
    obtain ⟨u1,-⟩:=HA.out.cel 1 _ rfl
    obtain ⟨u2,-⟩:=HA.out.cel 2 _ rfl
    obtain ⟨u3,-⟩:=HA.out.cel 3 _ rfl
    have hb:=HA.out.perm (List.Perm.swap _ _ _)
    obtain ⟨p0,r0⟩:=hb.cel 0 _ rfl
    obtain ⟨p1,r1⟩:=hb.cel 1 _ rfl
    obtain ⟨p2,r2⟩:=hb.cel 2 _ rfl
    obtain ⟨p3,r3⟩:=hb.cel 3 _ rfl
    have hc:=(((hb.setBox 0 (.int .i64 k0)).setBox 1 (.int .i64 M0)).setBox 2 (.int .i64 G0)).setBox 3 (.slice ra N rc)
    have EG:=ev_get (hc.cel 0 _ rfl).1 (hc.cel 1 _ rfl).1 (hc.cel 2 _ rfl).1 (hc.cel 3 _ rfl).1
    have HC:=Lib.hid hc.less.less
    clear hb hc HA
    go_wp2
    exact bodyPost_ret (results_cell Tryz.results20 _ ⟨q,0,none⟩ rfl EG) rfl (HE2.out _ _ HFF.out.1 HFF.out.2.1 HFF.out.2.2.1 HFF.out.2.2.2 rfl HC.out)
   ·exact ⟨rfl,HD2.out ch m s1 s' kd n _ hm hdv hk hdp ho (SAt.less (SAt.less (h6.perm perm_two.symm)))⟩
  ·exact ⟨rfl,HD1.out ch s' _ hdp ho1 (SAt.less (SAt.less (h5.perm perm_two.symm)))⟩
theorem sworld_any {w0 w:World} {b sp:Nat} {L:Sl} {X:Sd} {R:List Asr} (h:SAt w0 w b sp L X R):Calls Tryz.prog 9 #[.pointer (some ⟨b,0,none⟩)] w fun r w'=>r = .returned (.pointer (some ⟨b,0,none⟩)) ∧ w' = w:=by
 have hc:=h.c11
 clear h
 go_enter Tryz.func9,Tryz.ntmps9
 go_wp2
 go_ret
 exact ⟨rfl,rfl⟩
theorem some1_any (w:World) (x:Int) (m n:Nat) (hm:0 < m) (hm2:m ≤ 1000) (hn:(bits BinOp.and IntKind.i64 x 255).tmod (m:Int) = (n:Int)) (hn2:n ≤ 255) :
  Calls Tryz.prog 21 #[.int .i64 x,.int .i64 (m:Int)] w fun r w'=>r = .returned (.int .i64 (n:Int)) ∧ w' = w:=by
 have hz:(m:Int) ≠ 0:=by omega
 have hw:IntKind.i64.wrap (n:Int) = n:=by rw [IntKind.wrap_i64];omega
 go_enter Tryz.func21,Tryz.ntmps21
 go_wp2
 go_ret
 exact ⟨rfl,rfl⟩
def SmC (x:Int) (m n:Nat):Prop:=0 < m ∧ m ≤ 1000 ∧ (bits BinOp.and IntKind.i64 x 255).tmod (m:Int) = (n:Int) ∧ n < m ∧ n ≤ 255
theorem smC_any {x:Int} {m n:Nat} (h:SmC x m n) (w:World):Calls Tryz.prog 21 #[.int .i64 x,.int .i64 (m:Int)] w fun r w'=>r = .returned (.int .i64 (n:Int)) ∧ w' = w :=
 some1_any w x m n h.1 h.2.1 h.2.2.1 h.2.2.2.2
theorem smC_of (x:Int) (m:Nat) (hm:0 < m) (hm2:m ≤ 1000):∃ n,SmC x m n:=by
 obtain ⟨n,h1,h2,h3⟩:=small_of x m hm
 exact ⟨n,hm,hm2,h1,h2,h3⟩
theorem cfg_get {w:World} {q:Nat} {a b c d:Int} (e0:w.cell? ⟨q,0,none⟩ = some (.int .i64 a)) (e1:w.cell? ⟨q,1,none⟩ = some (.int .i64 b)) (e2:w.cell? ⟨q,2,none⟩ = some (.int .i64 c)) (e3:w.cell? ⟨q,3,none⟩ = some (.int .i64 d)) :
  (loadVar 24 ⟨q,0,none⟩).run Tryz.prog w = .ok (.agg #[.int .i64 a,.int .i64 b,.int .i64 c,.int .i64 d]) w:=by
 simp [go_sem,e0,e1,e2,e3]
theorem some18_any (w:World) (p m r s:Int) (a b c d:Nat) (ha:SmC p 5 a) (hb:SmC m 5 b) (hc:SmC r 5 c) (hd:SmC s 12 d) :
  Calls Tryz.prog 8 #[.agg #[.int .i64 p,.int .i64 m,.int .i64 r,.int .i64 s]] w fun e w' =>
   e = .returned (.agg #[.int .i64 (1 + (a:Int)),.int .i64 (1 + (b:Int)),.int .i64 (2 + (c:Int)),.int .i64 (1 + (d:Int))]) ∧ Below w.heap.size w w':=by
 have a5:=ha.2.2.2.1
 have b5:=hb.2.2.2.1
 have c5:=hc.2.2.2.1
 have d5:=hd.2.2.2.1
 have ka:=Lib.hid (smC_any ha)
 have kb:=Lib.hid (smC_any hb)
 have kc:=Lib.hid (smC_any hc)
 have kd:=Lib.hid (smC_any hd)
 clear ha hb hc hd
 go_enter Tryz.func8,Tryz.ntmps8
 go_upto_region 2 with fail
 have o0:Own w ((w.alloc (.cells #[.int .i64 p,.int .i64 m,.int .i64 r,.int .i64 s] 24)).alloc (.cells #[.int .i64 0,.int .i64 0,.int .i64 0,.int .i64 0] 24))
   [CelA (w.heap.size + 1) [.int .i64 0,.int .i64 0,.int .i64 0,.int .i64 0],CelA w.heap.size [.int .i64 p,.int .i64 m,.int .i64 r,.int .i64 s]]:=by
  have h:=((Own.nil (Below.refl _ w)).alloc [.int .i64 p,.int .i64 m,.int .i64 r,.int .i64 s] 24 (b:=w.heap.size) rfl).alloc [.int .i64 0,.int .i64 0,.int .i64 0,.int .i64 0] 24 (b:=w.heap.size + 1) (by simp)
  exact h
 generalize ((w.alloc (.cells #[.int .i64 p,.int .i64 m,.int .i64 r,.int .i64 s] 24)).alloc (.cells #[.int .i64 0,.int .i64 0,.int .i64 0,.int .i64 0] 24)) = w1 at *
 generalize w.heap.size + 1 = q1 at *
 generalize hq:w.heap.size = q at *
 have HQ:=Lib.hid hq
 clear hq
 have o1:=o0.step (below_drew1 w1)
 clear o0
 have SB:Hid (∀ wx:World,Own w wx [CelA q1 [.int .i64 0,.int .i64 0,.int .i64 0,.int .i64 0],CelA q [.int .i64 p,.int .i64 m,.int .i64 r,.int .i64 s]] → wx.cell? ⟨q,0,none⟩ = some (.int .i64 p) ∧ wx.cell? ⟨q,1,none⟩ = some (.int .i64 m) ∧ wx.cell? ⟨q,2,none⟩ = some (.int .i64 r) ∧ wx.cell? ⟨q,3,none⟩ = some (.int .i64 s)) :=
  Lib.hid (fun wx h=>⟨(h.cel 1 rfl 0 _ rfl).1,(h.cel 1 rfl 1 _ rfl).1,(h.cel 1 rfl 2 _ rfl).1,(h.cel 1 rfl 3 _ rfl).1⟩)
 refine wp_region_lexZ (fun wx=>wx.cell? ⟨q,0,none⟩ = some (.int .i64 p) ∧ wx.cell? ⟨q,1,none⟩ = some (.int .i64 m) ∧ wx.cell? ⟨q,2,none⟩ = some (.int .i64 r) ∧ wx.cell? ⟨q,3,none⟩ = some (.int .i64 s)) 22 (Array.replicate 22 false) (by kernel_rfl) (by kernel_rfl) ?_
 generalize w1.drew = w2 at *
 refine wpAnyZ_seg 0 3 _ #[true,true,true,false,false,false,false,false,false,false,false,false,false,false,false,false,false,false,false,false,false,false] 19 (by kernel_rfl) noPanic_put (SB.out _ o1) (by kernel_rfl) ?_
 simp only [List.take_succ_cons,List.take_zero,List.drop_zero]
 repeat ((first | refine wpSegH_no (by rfl) ?_ | (refine wpSegH_yes (by rfl) ?_;apply Exists.intro;apply And.intro;(· (intro wx hS;(try dsimp only at hS);go_simp;first | done | with_reducible rfl))));simp only [Act.put,List.setIfInBounds_toArray,List.set_cons_zero,List.set_cons_succ])
 refine wpSegH_nil ?_
 refine wpAnyZ_seg 5 3 _ #[true,true,true,false,false,true,true,true,false,false,false,false,false,false,false,false,false,false,false,false,false,false] 16 (by kernel_rfl) noPanic_put (SB.out _ o1) (by kernel_rfl) ?_
 simp only [List.take_succ_cons,List.take_zero,List.drop_succ_cons,List.drop_zero]
 repeat ((first | refine wpSegH_no (by rfl) ?_ | (refine wpSegH_yes (by rfl) ?_;apply Exists.intro;apply And.intro;(· (intro wx hS;(try dsimp only at hS);go_simp;first | done | with_reducible rfl))));simp only [Act.put,List.setIfInBounds_toArray,List.set_cons_zero,List.set_cons_succ])
 refine wpSegH_nil ?_
 refine wpAnyZ_seg 10 3 _ #[true,true,true,false,false,true,true,true,false,false,true,true,true,false,false,false,false,false,false,false,false,false] 13 (by kernel_rfl) noPanic_put (SB.out _ o1) (by kernel_rfl) ?_
 simp only [List.take_succ_cons,List.take_zero,List.drop_succ_cons,List.drop_zero]
 repeat ((first | refine wpSegH_no (by rfl) ?_ | (refine wpSegH_yes (by rfl) ?_;apply Exists.intro;apply And.intro;(· (intro wx hS;(try dsimp only at hS);go_simp;first | done | with_reducible rfl))));simp only [Act.put,List.setIfInBounds_toArray,List.set_cons_zero,List.set_cons_succ])
 refine wpSegH_nil ?_
 refine wpAnyZ_seg 15 3 _ #[true,true,true,false,false,true,true,true,false,false,true,true,true,false,false,true,true,true,false,false,false,false] 10 (by kernel_rfl) noPanic_put (SB.out _ o1) (by kernel_rfl) ?_
 simp only [List.take_succ_cons,List.take_zero,List.drop_succ_cons,List.drop_zero]
 repeat ((first | refine wpSegH_no (by rfl) ?_ | (refine wpSegH_yes (by rfl) ?_;apply Exists.intro;apply And.intro;(· (intro wx hS;(try dsimp only at hS);go_simp;first | done | with_reducible rfl))));simp only [Act.put,List.setIfInBounds_toArray,List.set_cons_zero,List.set_cons_succ])
 refine wpSegH_nil ?_
 refine wpAnyZ_one 3 _ #[true,true,true,true,false,true,true,true,false,false,true,true,true,false,false,true,true,true,false,false,false,false] 9 (by kernel_rfl) (fun K hK=>?_)
 have HKK:=Lib.hid hK
 clear hK
 simp only [List.drop_succ_cons,List.drop_zero]
 refine headH_mk (by rfl) ?_
 go_simp
 refine (ka.out _).mono ?_
 rintro e w3 ⟨rfl,rfl⟩
 refine HKK.out _ _ (SB.out _ o1) ?_
 clear HKK K
 refine wpAnyZ_seg 4 1 _ #[true,true,true,true,true,true,true,true,false,false,true,true,true,false,false,true,true,true,false,false,false,false] 8 (by kernel_rfl) noPanic_put (SB.out _ o1) (by kernel_rfl) ?_
 simp only [List.take_succ_cons,List.take_zero,List.drop_succ_cons,List.drop_zero]
 repeat ((first | refine wpSegH_no (by rfl) ?_ | (refine wpSegH_yes (by rfl) ?_;apply Exists.intro;apply And.intro;(· (intro wx hS;(try dsimp only at hS);go_simp;first | done | with_reducible rfl))));simp only [Act.put,List.setIfInBounds_toArray,List.set_cons_zero,List.set_cons_succ])
 refine wpSegH_nil ?_
 refine wpAnyZ_one 8 _ #[true,true,true,true,true,true,true,true,true,false,true,true,true,false,false,true,true,true,false,false,false,false] 7 (by kernel_rfl) (fun K hK=>?_)
 have HKK:=Lib.hid hK
 clear hK
 simp only [List.drop_succ_cons,List.drop_zero]
 refine headH_mk (by rfl) ?_
 go_simp
 refine (kb.out _).mono ?_
 rintro e w3 ⟨rfl,rfl⟩
 refine HKK.out _ _ (SB.out _ o1) ?_
 clear HKK K
 refine wpAnyZ_seg 9 1 _ #[true,true,true,true,true,true,true,true,true,true,true,true,true,false,false,true,true,true,false,false,false,false] 6 (by kernel_rfl) noPanic_put (SB.out _ o1) (by kernel_rfl) ?_
 simp only [List.take_succ_cons,List.take_zero,List.drop_succ_cons,List.drop_zero]
 repeat ((first | refine wpSegH_no (by rfl) ?_ | (refine wpSegH_yes (by rfl) ?_;apply Exists.intro;apply And.intro;(· (intro wx hS;(try dsimp only at hS);go_simp;first | done | with_reducible rfl))));simp only [Act.put,List.setIfInBounds_toArray,List.set_cons_zero,List.set_cons_succ])
 refine wpSegH_nil ?_
 refine wpAnyZ_one 13 _ #[true,true,true,true,true,true,true,true,true,true,true,true,true,true,false,true,true,true,false,false,false,false] 5 (by kernel_rfl) (fun K hK=>?_)
 have HKK:=Lib.hid hK
 clear hK
 simp only [List.drop_succ_cons,List.drop_zero]
 refine headH_mk (by rfl) ?_
 go_simp
 refine (kc.out _).mono ?_
 rintro e w3 ⟨rfl,rfl⟩
 refine HKK.out _ _ (SB.out _ o1) ?_
 clear HKK K
 refine wpAnyZ_seg 14 1 _ #[true,true,true,true,true,true,true,true,true,true,true,true,true,true,true,true,true,true,false,false,false,false] 4 (by kernel_rfl) noPanic_put (SB.out _ o1) (by kernel_rfl) ?_
 simp only [List.take_succ_cons,List.take_zero,List.drop_succ_cons,List.drop_zero]
 repeat ((first | refine wpSegH_no (by rfl) ?_ | (refine wpSegH_yes (by rfl) ?_;apply Exists.intro;apply And.intro;(· (intro wx hS;(try dsimp only at hS);go_simp;first | done | with_reducible rfl))));simp only [Act.put,List.setIfInBounds_toArray,List.set_cons_zero,List.set_cons_succ])
 refine wpSegH_nil ?_
 refine wpAnyZ_one 18 _ #[true,true,true,true,true,true,true,true,true,true,true,true,true,true,true,true,true,true,true,false,false,false] 3 (by kernel_rfl) (fun K hK=>?_)
 have HKK:=Lib.hid hK
 clear hK
 simp only [List.drop_succ_cons,List.drop_zero]
 refine headH_mk (by rfl) ?_
 go_simp
 refine (kd.out _).mono ?_
 rintro e w3 ⟨rfl,rfl⟩
 refine HKK.out _ _ (SB.out _ o1) ?_
 clear HKK K
 refine wpAnyZ_seg 19 2 _ #[true,true,true,true,true,true,true,true,true,true,true,true,true,true,true,true,true,true,true,true,true,false] 1 (by kernel_rfl) noPanic_put (SB.out _ o1) (by kernel_rfl) ?_
 simp only [List.take_succ_cons,List.take_zero,List.drop_succ_cons,List.drop_zero]
 repeat ((first | refine wpSegH_no (by rfl) ?_ | (refine wpSegH_yes (by rfl) ?_;apply Exists.intro;apply And.intro;(· (intro wx hS;(try dsimp only at hS);go_simp;first | done | with_reducible rfl))));simp only [Act.put,List.setIfInBounds_toArray,List.set_cons_zero,List.set_cons_succ])
 refine wpSegH_nil ?_
 obtain ⟨x0,y0⟩:=o1.cel 0 rfl 0 _ rfl
 obtain ⟨x1,y1⟩:=o1.cel 0 rfl 1 _ rfl
 obtain ⟨x2,y2⟩:=o1.cel 0 rfl 2 _ rfl
 obtain ⟨x3,y3⟩:=o1.cel 0 rfl 3 _ rfl
 have o2:=(((o1.set 0 (.int .i64 (1 + (a:Int)))).set 1 (.int .i64 (1 + (b:Int)))).set 2 (.int .i64 (2 + (c:Int)))).set 3 (.int .i64 (1 + (d:Int)))
 have z0:=(o2.cel 0 rfl 0 _ rfl).1
 have z1:=(o2.cel 0 rfl 1 _ rfl).1
 have z2:=(o2.cel 0 rfl 2 _ rfl).1
 have z3:=(o2.cel 0 rfl 3 _ rfl).1
 have O2:=Lib.hid o2.bel
 clear o1 o2 SB ka kb kc kd
 refine wpAnyZ_end 21 _ #[true,true,true,true,true,true,true,true,true,true,true,true,true,true,true,true,true,true,true,true,true,true] (by kernel_rfl) (fun K hK=>?_)
 have HKK:=Lib.hid hK
 clear hK
 simp only [List.drop_succ_cons,List.drop_zero]
 refine headH_mk (by rfl) ?_
 go_simp
 refine HKK.out _ _ (NoPanic.normal ?_)
 clear HKK K
 have EG:=cfg_get z0 z1 z2 z3
 clear z0 z1 z2 z3
 have E1:Hid (∀ k:Nat,k < 12 → IntKind.i64.wrap (1 + (k:Int)) = 1 + k):=Lib.hid (fun k hk=>by rw [IntKind.wrap_i64];omega)
 have E2:Hid (∀ k:Nat,k < 12 → IntKind.i64.wrap (2 + (k:Int)) = 2 + k):=Lib.hid (fun k hk=>by rw [IntKind.wrap_i64];omega)
 go_wp2
 rw [E1.out a (by omega),E1.out b (by omega),E1.out d (by omega),E2.out c (by omega)]
 exact bodyPost_ret (results_cell Tryz.results8 _ ⟨q1,0,none⟩ rfl EG) rfl ⟨rfl,by rw [← HQ.out] at *;exact O2.out⟩
theorem lit16 (a b V:Value):(#[a,b] ++ (Array.replicate 14 undef).setIfInBounds 4 V) = #[a,b,undef,undef,undef,undef,V,undef,undef,undef,undef,undef,undef,undef,undef,undef]:=rfl
theorem catch_idle (p q:Addr) (w:World) :
  CallsD Tryz.prog 33 #[.pointer (some p),.pointer (some q)] .returning w fun e u' w'=>e = .returned (.tuple #[]) ∧ u' = .returning ∧ w' = w:=by
 refine callsD_of_wpS Tryz.func33 rfl fun c₀ cs hu=>?_
 apply wpS_seq
 apply wpS_region
 simp [wpOpsS,go_sem,recoverD,hu,Tryz.ntmps33,Exit.thenS]
 rw [lit16]
 refine wpS_of_wp ?_
 go_wp2
 cases c₀
 simp_all [bodyPostS,results,Tryz.results33]
theorem as_dry (w:World):(Instr.typeAssert (.iface 107 (.agg #[])) 20 107 true).run Tryz.prog w = .ok (.tuple #[.agg #[],.bool true]) w:=by kernel_rfl
theorem as_no (v:Value) (w:World):(Instr.typeAssert (.iface 60 v) 20 107 true).run Tryz.prog w = .ok (.tuple #[.agg #[],.bool false]) w:=by kernel_rfl
theorem as_unlike (v:Value) (w:World):(Instr.typeAssert (.iface 60 v) 20 60 true).run Tryz.prog w = .ok (.tuple #[v,.bool true]) w:=by kernel_rfl
def uz:List Value:=[.int .i64 0,.int .i64 0,.int .i64 0,.int .i64 0,.int .u64 0]
def uv (a0 a1 a2 a3 a4:Int):List Value:=[.int .i64 a0,.int .i64 a1,.int .i64 a2,.int .i64 a3,.int .u64 a4]
theorem catch_dry {w0 w:World} {R:List Asr} {p q:Nat} {x:Value} (h:Own w0 w (CelA p [x] :: CelA q uz :: R)) (older:List PanicEntry) :
  CallsD Tryz.prog 33 #[.pointer (some ⟨p,0,none⟩),.pointer (some ⟨q,0,none⟩)] (.panicking ({ v:=.iface 107 (.agg #[]),recovered:=false } :: older)) w fun e u' w' =>
   e = .returned (.tuple #[]) ∧ u' = .panicking ({ v:=.iface 107 (.agg #[]),recovered:=true } :: older) ∧ Own w0 w' (CelA p [.int .i64 1] :: CelA q uz :: R):=by
 have h1:=as_dry
 obtain ⟨g0,f0⟩:=h.cel 0 rfl 0 _ rfl
 have hpl:=World.block_lt_of_cell? w _ g0
 have H:=Lib.hid ((h.set 0 (.int .i64 1)).step (below_alloc1 _ (.cells #[] 107)))
 clear h
 refine callsD_of_wpS Tryz.func33 rfl fun c₀ cs hu=>?_
 apply wpS_seq
 apply wpS_region
 simp [wpOpsS,go_sem,recoverD,hu,Tryz.ntmps33,Exit.thenS]
 rw [lit16]
 refine wpS_of_wp ?_
 go_wp2
 refine ⟨rfl,_,rfl,.tuple #[],by simp [results,Tryz.results33],rfl,rfl,H.out⟩
theorem catch_unlike {w0 w:World} {R:List Asr} {p q:Nat} {x:Value} (a0 a1 a2 a3 a4:Int) (h:Own w0 w (CelA p [x] :: CelA q uz :: R)) (older:List PanicEntry) :
  CallsD Tryz.prog 33 #[.pointer (some ⟨p,0,none⟩),.pointer (some ⟨q,0,none⟩)] (.panicking ({ v:=.iface 60 (.agg (uv a0 a1 a2 a3 a4).toArray),recovered:=false } :: older)) w fun e u' w' =>
   e = .returned (.tuple #[]) ∧ u' = .panicking ({ v:=.iface 60 (.agg (uv a0 a1 a2 a3 a4).toArray),recovered:=true } :: older) ∧ Own w0 w' (CelA p [.int .i64 2] :: CelA q (uv a0 a1 a2 a3 a4) :: R):=by
 have h1:=fun w=>as_no (.agg (uv a0 a1 a2 a3 a4).toArray) w
 have h2:=fun w=>as_unlike (.agg (uv a0 a1 a2 a3 a4).toArray) w
 have h3:∀ w:World,(binOp .eql 20 (.iface 60 (.agg (uv a0 a1 a2 a3 a4).toArray)) .nilIface).run Tryz.prog w = .ok (.bool false) w:=fun w=>rfl
 have h4:∀ w:World,(eqGuard .eql 20 (.tmp 6) (.const .nilIface) (.iface 60 (.agg (uv a0 a1 a2 a3 a4).toArray)) .nilIface).run Tryz.prog w = .ok () w:=fun w=>rfl
 generalize Value.iface 60 (.agg (uv a0 a1 a2 a3 a4).toArray) = V at *
 unfold uv at h2
 unfold uz at h
 unfold uv
 obtain ⟨g0,f0⟩:=h.cel 0 rfl 0 _ rfl
 have hpl:=World.block_lt_of_cell? w _ g0
 have H:=Lib.hid h
 clear h
 refine callsD_of_wpS Tryz.func33 rfl fun c₀ cs hu=>?_
 apply wpS_seq
 apply wpS_region
 simp [wpOpsS,go_sem,recoverD,hu,Tryz.ntmps33,Exit.thenS]
 rw [lit16]
 refine wpS_of_wp ?_
 go_upto_region 10 with fail
 obtain ⟨q0,e0⟩:=H.out.cel 1 rfl 0 _ rfl
 obtain ⟨q1,e1⟩:=H.out.cel 1 rfl 1 _ rfl
 obtain ⟨q2,e2⟩:=H.out.cel 1 rfl 2 _ rfl
 obtain ⟨q3,e3⟩:=H.out.cel 1 rfl 3 _ rfl
 obtain ⟨q4,e4⟩:=H.out.cel 1 rfl 4 _ rfl
 have hql:=World.block_lt_of_cell? w _ q0
 have hpq:p ≠ q:=by
  obtain ⟨_,F,⟨F1,F2,rfl,⟨rfl,_,_⟩,hd,⟨F3,F4,rfl,⟨rfl,_,_⟩,_,_⟩⟩,_⟩:=H.out
  intro he;subst he;exact hd p (by simp) (by simp)
 go_region
 have h5:=((H.out.set 0 (.int .i64 2)).pick 1 rfl)
 have h6:=((((((h5.set 0 (.int .i64 a0)).set 1 (.int .i64 a1)).set 2 (.int .i64 a2)).set 3 (.int .i64 a3)).set 4 (.int .u64 a4)).pick 1 rfl).step (below_alloc1 _ (.cells #[.int .i64 a0,.int .i64 a1,.int .i64 a2,.int .i64 a3,.int .u64 a4] 60))
 exact ⟨rfl,_,rfl,.tuple #[],by simp [results,Tryz.results33],rfl,rfl,h6.step (below_drew1 _)⟩
def Ended (r:Ending) (k:Int) (u:List Value):Prop :=
 (r = .returned (.tuple #[]) ∧ k = 0 ∧ u = uz) ∨ (r = dry ∧ k = 1 ∧ u = uz) ∨ ∃ i kd n x,r = strayed i kd n x ∧ k = 2 ∧ u = uv (i:Int) kd (n:Int) x.1 (x.2:Int)
theorem len5 {u:List Value} {r:Ending} {k:Int} (h:Ended r k u):∃ a0 a1 a2 a3 a4,u = uv a0 a1 a2 a3 a4:=by
 rcases h with ⟨_,_,rfl⟩ | ⟨_,_,rfl⟩ | ⟨i,kd,n,x,_,_,rfl⟩
 ·exact ⟨_,_,_,_,_,rfl⟩
 ·exact ⟨_,_,_,_,_,rfl⟩
 ·exact ⟨_,_,_,_,_,rfl⟩
theorem sep_ne {w0 w:World} {R:List Asr} {p q:Nat} {x y:List Value} (h:Own w0 w (CelA p x :: CelA q y :: R)):p ≠ q:=by
 obtain ⟨_,F,⟨F1,F2,rfl,⟨rfl,_,_⟩,hd,⟨F3,F4,rfl,⟨rfl,_,_⟩,_,_⟩⟩,_⟩:=h
 intro he;subst he;exact hd p (by simp) (by simp)
theorem guard_results {w0 w:World} {R:List Asr} {g g':Nat} {k a0 a1 a2 a3 a4:Int} (h:Own w0 w (CelA g [.int .i64 k] :: CelA g' (uv a0 a1 a2 a3 a4) :: R)) (tmps:Array Value) (h2:tmps.getD 2 undef = .pointer (some ⟨g,0,none⟩)) (h3:tmps.getD 3 undef = .pointer (some ⟨g',0,none⟩)) :
  (results Tryz.f18 tmps).run Tryz.prog w = .ok (.tuple #[.int .i64 k,.agg (uv a0 a1 a2 a3 a4).toArray]) w:=by
 unfold uv at *
 obtain ⟨g0,-⟩:=h.cel 0 rfl 0 _ rfl
 obtain ⟨q0,-⟩:=h.cel 1 rfl 0 _ rfl
 obtain ⟨q1,-⟩:=h.cel 1 rfl 1 _ rfl
 obtain ⟨q2,-⟩:=h.cel 1 rfl 2 _ rfl
 obtain ⟨q3,-⟩:=h.cel 1 rfl 3 _ rfl
 obtain ⟨q4,-⟩:=h.cel 1 rfl 4 _ rfl
 have h2':tmps[2]?.getD undef = .pointer (some ⟨g,0,none⟩):=by simpa using h2
 have h3':tmps[3]?.getD undef = .pointer (some ⟨g',0,none⟩):=by simpa using h3
 simp [results,Tryz.results18,go_sem,h2',h3',asAddr,g0,q0,q1,q2,q3,q4]
theorem guard_any {w0 w:World} {R:List Asr} (h:Own w0 w R) (F:Nat) (cap:Array Value) (en:∀ (args:Array Value) (w:World),(callFunc F args).run Tryz.prog w = .ok (.enter F args) w) (Qr:Ending → List Asr → Prop)
  (hrun:∀ w1 g,Own w0 w1 (CelA g [.int .i64 0] :: CelA (g + 1) uz :: R) → Calls Tryz.prog F cap w1 fun r w2=>∃ R' k u,Own w0 w2 (CelA g [.int .i64 0] :: CelA (g + 1) uz :: R') ∧ Qr r R' ∧ Ended r k u) :
  Calls Tryz.prog 18 #[.func (.func F) #[] cap] w fun e w'=>∃ r R' k u,Own w0 w' R' ∧ Qr r R' ∧ Ended r k u ∧ e = .returned (.tuple #[.int .i64 k,.agg u.toArray]):=by
 have hmf:∀ (fn:Fn) (first cap:Array Value) (w:World),(Instr.makeFunc fn first cap).run Tryz.prog w = .ok (.func fn first cap) w:=fun _ _ _ _=>rfl
 have hA:=((h.alloc [.int .i64 0] 3 (b:=w.heap.size) rfl).alloc uz 60 (b:=w.heap.size + 1) (by simp)).pick 1 rfl
 have hC:=hrun _ _ hA
 have HC:=Lib.hid hC
 clear hrun hA hC h
 unfold uz at HC
 go_enter_defers Tryz.func18,Tryz.ntmps18
 go_wp2_with fail
 refine HC.out.mono ?_
 rintro r w2 ⟨R',k,u,ho,hq,he⟩
 clear HC
 generalize w.heap.size = g at *
 rcases he with ⟨rfl,rfl,rfl⟩ | ⟨rfl,rfl,rfl⟩ | ⟨i,kd,n,x,rfl,rfl,rfl⟩
 ·have HO:=Lib.hid ho
  have hpq:=sep_ne ho
  have h5:=((ho.set 0 (.int .i64 0)).pick 1 rfl)
  have h6:=(((((h5.set 0 (.int .i64 0)).set 1 (.int .i64 0)).set 2 (.int .i64 0)).set 3 (.int .i64 0)).set 4 (.int .u64 0)).pick 1 rfl
  have H6:=Lib.hid h6
  have HQ:=Lib.hid hq
  obtain ⟨g0,f0⟩:=ho.cel 0 rfl 0 _ rfl
  obtain ⟨q0,e0⟩:=ho.cel 1 rfl 0 _ rfl
  obtain ⟨q1,e1⟩:=ho.cel 1 rfl 1 _ rfl
  obtain ⟨q2,e2⟩:=ho.cel 1 rfl 2 _ rfl
  obtain ⟨q3,e3⟩:=ho.cel 1 rfl 3 _ rfl
  obtain ⟨q4,e4⟩:=ho.cel 1 rfl 4 _ rfl
  clear ho h5 h6 hq
  go_wp2
  refine leaves_cons (f:=33) (args:=#[.pointer (some ⟨g,0,none⟩),.pointer (some ⟨g + 1,0,none⟩)]) (by simp) (by simp [go_sem]) ?_
  refine (catch_idle _ _ _).mono ?_
  rintro e u' w'' ⟨rfl,rfl,rfl⟩
  exact ⟨_,guard_results (H6.out) _ rfl rfl,.returned (.tuple #[]),R',0,uz,(H6.out).drop.drop,HQ.out,.inl ⟨rfl,rfl,rfl⟩,rfl⟩
 ·refine leaves_cons (f:=33) (args:=#[.pointer (some ⟨g,0,none⟩),.pointer (some ⟨g + 1,0,none⟩)]) (by simp) (by simp [go_sem]) ?_
  refine (catch_dry ho _).mono ?_
  rintro e u' w'' ⟨rfl,rfl,ho2⟩
  refine ⟨_,guard_results (ho2) _ rfl rfl,dry,R',1,uz,ho2.drop.drop,hq,.inr (.inl ⟨rfl,rfl,rfl⟩),rfl⟩
 ·refine leaves_cons (f:=33) (args:=#[.pointer (some ⟨g,0,none⟩),.pointer (some ⟨g + 1,0,none⟩)]) (by simp) (by simp [go_sem]) ?_
  refine (catch_unlike _ _ _ _ _ ho _).mono ?_
  rintro e u' w'' ⟨rfl,rfl,ho2⟩
  refine ⟨_,guard_results (ho2) _ rfl rfl,_,R',2,_,ho2.drop.drop,hq,.inr (.inr ⟨i,kd,n,x,rfl,rfl,rfl⟩),rfl⟩
theorem fit_pick {sp:Nat} {D:Drw sp} {s s':D.T} {Y:Sd} {m:Nat} {v:Int} (hov:overM Y = 0) (hm:m ≤ Y.ms.length) (h:Fit D s (asks2 Y m) v s'):Pick1 Y m v:=by
 refine ⟨hov,hm,fun kd n e=>?_⟩
 rcases h with ⟨h1,-,-⟩ | ⟨k,n',h1,h2,-⟩
 ·rw [e] at h1;cases h1
 ·rw [e] at h1;cases h1;exact h2
def TRunP (w0:World) (b sp bm bx most:Nat) (X0:Sd) (Z:List Asr) (D:Drw sp) (r:Ending) (w':World):Prop:=∃ (k:Nat) (Y:Sd) (s:D.T) (kk:Int) (u:List Value),Rch X0 k Y ∧ k ≤ most ∧ Ended r kk u ∧
   Own w0 w' (SchA b sp Y :: (D.A s ++ (CelA bx [.pointer (some ⟨b,0,none⟩)] :: CelA bm [.int .i64 (most:Int)] :: Z)))
theorem TRunP.mk {w0:World} {b sp bm bx most:Nat} {X0:Sd} {Z:List Asr} {D:Drw sp} {r:Ending} {w':World} (k:Nat) (Y:Sd) (s:D.T) (kk:Int) (u:List Value) (h1:Rch X0 k Y) (h2:k ≤ most) (h3:Ended r kk u)
  (h4:Own w0 w' (SchA b sp Y :: (D.A s ++ (CelA bx [.pointer (some ⟨b,0,none⟩)] :: CelA bm [.int .i64 (most:Int)] :: Z)))):TRunP w0 b sp bm bx most X0 Z D r w':=⟨k,Y,s,kk,u,h1,h2,h3,h4⟩
theorem run1_any {w0 w:World} {b sp bm bx most:Nat} {X0:Sd} {Z:List Asr} {D:Drw sp} {s0:D.T} (h:Own w0 w (SchA b sp X0 :: (D.A s0 ++ (CelA bx [.pointer (some ⟨b,0,none⟩)] :: CelA bm [.int .i64 (most:Int)] :: Z)))) (hok:D.ok (2 * most) s0) (hmo:most ≤ 20000)
  (hR:∀ k Y,Rch X0 k Y → k ≤ most → SdWF k Y ∧ (Y.W.en = 0 ∨ Y.W.en = 1 ∨ Y.W.en = 2))
  (hpan:∀ s kd n r s',D.Dp s kd n r s' → ∃ k u,Ended r k u ∧ (k = 1 ∨ k = 2)) :
  Calls Tryz.prog 19 #[.pointer (some ⟨bm,0,none⟩),.pointer (some ⟨bx,0,none⟩)] w (TRunP w0 b sp bm bx most X0 Z D):=by
 have HX:Hid (∀ wx Y (s:D.T),Own w0 wx (SchA b sp Y :: (D.A s ++ (CelA bx [.pointer (some ⟨b,0,none⟩)] :: CelA bm [.int .i64 (most:Int)] :: Z))) → wx.cell? ⟨bx,0,none⟩ = some (.pointer (some ⟨b,0,none⟩)) ∧ wx.cell? ⟨bm,0,none⟩ = some (.int .i64 (most:Int))):=Lib.hid (fun wx Y s hx=>by
  have h1:=hx.perm (List.perm_middle (l₁:=SchA b sp Y :: D.A s))
  have h2:=h1.perm (List.Perm.cons _ (List.perm_middle (l₁:=SchA b sp Y :: D.A s)))
  exact ⟨(h2.cel 0 rfl 0 _ rfl).1,(h2.cel 1 rfl 0 _ rfl).1⟩)
 have HR:=Lib.hid hR
 have HP:=Lib.hid hpan
 have HO:=Lib.hid h
 have HK:=Lib.hid hok
 clear h hok hR hpan
 go_enter Tryz.func19,Tryz.ntmps19
 go_wp2_with fail
 go_loopw [2] (fun iv wr=>∃ (k:Nat) (Y:Sd) (s:D.T),iv = .int .i64 (k:Int) ∧ k ≤ most ∧ Hid (Rch X0 k Y ∧ D.ok (2 * (most - k)) s) ∧ Hid (Own w0 wr (SchA b sp Y :: (D.A s ++ (CelA bx [.pointer (some ⟨b,0,none⟩)] :: CelA bm [.int .i64 (most:Int)] :: Z))))) (fun iv _=>most - (intOf iv).toNat)
 case atStart=>exact ⟨0,X0,s0,rfl,by omega,Lib.hid ⟨.here,HK.out⟩,HO⟩
 case round =>
  obtain ⟨k,Y,s,rfl,hk,hq,hr⟩:=hrel
  clear HO HK
  obtain ⟨x0,x1⟩:=HX.out _ _ _ hr.out
  by_cases hlt:k < most
  ·have hlt2:(k:Int) < (most:Int):=by omega
   obtain ⟨hwf,hen⟩:=HR.out k Y hq.out.1 hk
   obtain ⟨L,hs⟩:=hr.out.sat
   have hst:=stat_any hs (by have:=hwf.wf.g1.2;omega)
   have HFIN:Hid (∀ wx,Own w0 wx (SchA b sp Y :: (D.A s ++ (CelA bx [.pointer (some ⟨b,0,none⟩)] :: CelA bm [.int .i64 (most:Int)] :: Z))) → TRunP w0 b sp bm bx most X0 Z D (.returned (.tuple #[])) wx):=Lib.hid (fun wx ho=>.mk k Y s 0 uz hq.out.1 hk (.inl ⟨rfl,rfl,rfl⟩) ho)
   by_cases hov:overM Y = 0
   ·rw [hov] at hst
    have HST:=Lib.hid hst
    have hen0:=over_en hov hen
    have e2:2 * (most - k) = 2 * (most - (k + 1)) + 2:=by omega
    have hok:=hq.out.2
    rw [e2] at hok
    have HSTEP:Hid (∀ wx,Below wr.heap.size wr wx → Calls Tryz.prog 20 #[.pointer (some ⟨b,0,none⟩)] wx (StepP w0 b sp L D s Y (CelA bx [.pointer (some ⟨b,0,none⟩)] :: CelA bm [.int .i64 (most:Int)] :: Z) (2 * (most - (k + 1))))) :=
     Lib.hid (fun wx hb=>step_any (hs.step hb) hok hwf (by omega) hov hen0)
    have HOV:=Lib.hid hov
    clear hst hs hwf hen hen0 e2 hok hov HFIN
    go_upto_region 1 with fail
    go_wp2_with fail
    refine HST.out.mono ?_
    rintro r w2 ⟨rfl,hb⟩
    obtain ⟨x2,x3⟩:=HX.out _ _ _ (hr.out.step hb)
    have HS2:=Lib.hid (HSTEP.out _ hb)
    clear hb HSTEP HST
    go_wp2_with fail
    refine HS2.out.mono ?_
    rintro r w3 hp
    clear x0 x1 x2 x3 hr
    rcases hp with ⟨m,v,s1,s',ra,rc,hm,hdv,hf,ho,rfl,h1⟩ | ⟨ch,s',rfl,hd,ho,h1⟩
    ·have hpk:=fit_pick HOV.out hm hf
     have HQ2:Hid (Rch X0 (k + 1) (stepM Y m v).1 ∧ D.ok (2 * (most - (k + 1))) s'):=Lib.hid ⟨hq.out.1.step hpk,ho⟩
     have HO2:Hid (Own w0 w3 (SchA b sp (stepM Y m v).1 :: (D.A s' ++ (CelA bx [.pointer (some ⟨b,0,none⟩)] :: CelA bm [.int .i64 (most:Int)] :: Z)))):=Lib.hid h1.less.to
     clear h1 hpk hf hdv ho hm HS2 hq HOV
     generalize stepM Y m v = st at *
     unfold evV
     generalize st.2.rd.length = N at *
     go_wp2
     exact ⟨⟨k + 1,st.1,s',by go_num,by omega,HQ2,HO2⟩,by simp [intOf];omega⟩
    ·obtain ⟨kk,u,he,-⟩:∃ kk u,Ended (.panicked ch) kk u ∧ (kk = 1 ∨ kk = 2):=by
      rcases hd with hd | ⟨m,s1,kd,n,-,-,-,hd⟩
      ·exact HP.out _ _ _ _ _ hd
      ·exact HP.out _ _ _ _ _ hd
     exact ⟨rfl,.mk k Y s' kk u hq.out.1 hk he h1.to⟩
   ·have HST:=Lib.hid hst
    have hov2:(overM Y == 0) = false:=by rw [beq_eq_false_iff_ne];exact hov
    generalize overM Y = ov at *
    clear hst hs hwf hen
    go_upto_region 1 with fail
    go_wp2_with fail
    refine HST.out.mono ?_
    rintro r w2 ⟨rfl,hb⟩
    have HE:=Lib.hid (HFIN.out _ (hr.out.step hb))
    clear hb HST HFIN x0 x1 hr hq
    go_wp2
    go_end0
    exact HE.out
  ·obtain rfl:k = most:=by omega
   have HE:Hid (TRunP w0 b sp bm bx k X0 Z D (.returned (.tuple #[])) wr):=Lib.hid (.mk k Y s 0 uz hq.out.1 hk (.inl ⟨rfl,rfl,rfl⟩) hr.out)
   have hge:¬ ((k:Int) < (k:Int)):=by omega
   clear hq hr hlt hk
   go_wp2
   go_end0
   exact HE.out
theorem ProgIn.below {w w':World} {fa:Option Addr} {fr:List (Option Addr × Nat)} {fs:List (List In4)} {ra:Option Addr} {rooms:List Int} {ca:Option Addr} {cc:Nat} {ks:List Cs3} (h:ProgIn w fa fr fs ra rooms ca cc ks) (hb:Below w.heap.size w w'):ProgIn w' fa fr fs ra rooms ca cc ks :=
 ⟨h.f.below hb,h.fl,fun i r l hr hl=>by obtain ⟨a,b⟩:=h.each i r l hr hl;exact ⟨a.below hb,b⟩,h.c.below hb,h.k.below hb,h.kn,h.kl,h.nf,h.nc⟩
theorem info_proc:(Tryz.prog.info? 95).map (fun i=>(i.zero,i.size,i.bytes)) = some (some (.agg #[.pointer none,.int .i64 0,.int .i64 0]),3,24):=by kernel_rfl
theorem info_mach:(Tryz.prog.info? 97).map (fun i=>(i.zero,i.size,i.bytes)) = some (some (.agg #[.int .i64 0,.int .i64 0,.int .i64 0]),3,24):=by kernel_rfl
def midSd (W:Wd) (i j:Nat) (ring sl:Int) (gl:List Int):Sd :=
 { W:=W,ps:=List.replicate i ⟨roomOf ring,⟨none,[]⟩,0,-1⟩,ms:=List.replicate j ⟨-1,-1,0⟩,gl:=gl,sl:=sl,st:=0 }
theorem pcs_app {ld:List (Nat × Nat)} {ps:List Pm} (h:ld.length = ps.length) (l:Nat × Nat) (P:Pm):pcs (ld ++ [l]) (ps ++ [P]) = pcs ld ps ++ pc1 (l,P):=by
 unfold pcs;rw [List.zip_append h,List.flatMap_append];simp
theorem qds_app {ld:List (Nat × Nat)} {ps:List Pm} (h:ld.length = ps.length) (l:Nat × Nat) (P:Pm):qds (ld ++ [l]) (ps ++ [P]) = qds ld ps ++ [qd1 l P]:=by
 unfold qds;rw [List.zipWith_append h];rfl
theorem mcs_app (ms:List Mm) (M:Mm):mcs (ms ++ [M]) = mcs ms ++ mc1 M:=by unfold mcs;rw [List.flatMap_append];simp
theorem snew_any {w0 w:World} {R:List Asr} (h:Own w0 w R) (fa:Option Addr) (fc:Nat) (fr:List (Option Addr × Nat)) (fs:List (List In4)) (ra:Option Addr) (rc:Nat) (rooms:List Int) (locks:Nat) (ca:Option Addr) (cc:Nat) (ks:List Cs3) (hp:ProgIn w fa fr fs ra rooms ca cc ks) (hlk:locks ≤ 1000) (np nm:Nat) (ring sl:Int) (hnp:np ≤ 1000) (hnm:nm ≤ 1000) (sp:Nat) :
  Calls Tryz.prog 16 #[.agg #[.slice fa fs.length fc,.slice ra rooms.length rc,.int .i64 (locks:Int),.slice ca ks.length cc],.agg #[.int .i64 (np:Int),.int .i64 (nm:Int),.int .i64 ring,.int .i64 sl],.pointer (some ⟨sp,0,none⟩)] w fun r w'=>∃ b,r = .returned (.pointer (some ⟨b,0,none⟩)) ∧ Own w0 w' (SchA b sp (newSd (newM fs ks rooms locks) np nm ring sl) :: R):=by
 have h1:=h.alloc [.slice fa fs.length fc,.slice ra rooms.length rc,.int .i64 (locks:Int),.slice ca ks.length cc] 34 (b:=w.heap.size) rfl
 have b1:=below_alloc1 w (.cells [.slice fa fs.length fc,.slice ra rooms.length rc,.int .i64 (locks:Int),.slice ca ks.length cc].toArray 34)
 have h2:=h1.alloc [.int .i64 (np:Int),.int .i64 (nm:Int),.int .i64 ring,.int .i64 sl] 37 (b:=w.heap.size + 1) (by simp)
 have b2:=below_on b1 (below_alloc1 _ (.cells [.int .i64 (np:Int),.int .i64 (nm:Int),.int .i64 ring,.int .i64 sl].toArray 37))
 have H2:=Lib.hid h2
 have HNW:=Lib.hid (fun (wx:World) (hb:Below w.heap.size w wx)=>new_w wx fa fc fr fs ra rc rooms locks ca cc ks (hp.below hb) hlk)
 have B2:=Lib.hid b2
 generalize hW:newM fs ks rooms locks = W0 at *
 have HWhp:Hid (W0.hp = []):=Lib.hid (by rw [← hW];rfl)
 clear h h1 h2 b1 b2 hp hlk hW
 go_enter Tryz.func16,Tryz.ntmps16
 go_upto_region 1 with fail
 generalize ((w.alloc (.cells [.slice fa fs.length fc,.slice ra rooms.length rc,.int .i64 (locks:Int),.slice ca ks.length cc].toArray 34)).alloc (.cells [.int .i64 (np:Int),.int .i64 (nm:Int),.int .i64 ring,.int .i64 sl].toArray 37)) = w2 at *
 have hB2:=B2.out
 have hB3:=below_on hB2 (below_drew1 w2)
 generalize hqb:w.heap.size + 1 = qb at *
 generalize hpb:w.heap.size = pb at *
 have h3:=H2.out.step (below_drew1 w2)
 have HSB:Hid (∀ (wx:World) (As:List Asr),Own w0 wx (As ++ (CelA qb [.int .i64 (np:Int),.int .i64 (nm:Int),.int .i64 ring,.int .i64 sl] :: CelA pb [.slice fa fs.length fc,.slice ra rooms.length rc,.int .i64 (locks:Int),.slice ca ks.length cc] :: R)) → wx.cell? ⟨qb,3,none⟩ = some (.int .i64 sl) ∧ wx.cell? ⟨pb,0,none⟩ = some (.slice fa fs.length fc) ∧ wx.cell? ⟨pb,1,none⟩ = some (.slice ra rooms.length rc) ∧ wx.cell? ⟨pb,2,none⟩ = some (.int .i64 (locks:Int)) ∧ wx.cell? ⟨pb,3,none⟩ = some (.slice ca ks.length cc)):=Lib.hid (fun wx As hx=>by
  have h:=Own.dropL hx
  exact ⟨(h.cel 0 rfl 3 _ rfl).1,(h.cel 1 rfl 0 _ rfl).1,(h.cel 1 rfl 1 _ rfl).1,(h.cel 1 rfl 2 _ rfl).1,(h.cel 1 rfl 3 _ rfl).1⟩)
 clear hB2 B2
 refine wp_region_lexH (fun wx=>wx.cell? ⟨qb,3,none⟩ = some (.int .i64 sl) ∧ wx.cell? ⟨pb,0,none⟩ = some (.slice fa fs.length fc) ∧ wx.cell? ⟨pb,1,none⟩ = some (.slice ra rooms.length rc) ∧ wx.cell? ⟨pb,2,none⟩ = some (.int .i64 (locks:Int)) ∧ wx.cell? ⟨pb,3,none⟩ = some (.slice ca ks.length cc)) 10 (Array.replicate 10 false) (by kernel_rfl) (by kernel_rfl) ?_
 generalize w2.drew = w3 at *
 refine wpAnyH_seg 0 1 _ #[true,false,false,false,false,false,false,false,false,false] 9 (by kernel_rfl) noPanic_put (HSB.out _ [] h3) (by kernel_rfl) ?_
 simp only [List.take_succ_cons,List.take_zero,List.drop_zero]
 repeat ((first | refine wpSegH_no (by rfl) ?_ | (refine wpSegH_yes (by rfl) ?_;apply Exists.intro;apply And.intro;(· (intro wx hS;(try dsimp only at hS);go_simp;first | done | with_reducible rfl))));simp only [Act.put,List.setIfInBounds_toArray,List.set_cons_zero,List.set_cons_succ])
 refine wpSegH_nil ?_
 refine wpAnyH_seg 4 3 _ #[true,false,false,false,true,true,true,false,false,false] 6 (by kernel_rfl) noPanic_put (HSB.out _ [] h3) (by kernel_rfl) ?_
 simp only [List.take_succ_cons,List.take_zero,List.drop_succ_cons,List.drop_zero]
 repeat ((first | refine wpSegH_no (by rfl) ?_ | (refine wpSegH_yes (by rfl) ?_;apply Exists.intro;apply And.intro;(· (intro wx hS;(try dsimp only at hS);go_simp;first | done | with_reducible rfl))));simp only [Act.put,List.setIfInBounds_toArray,List.set_cons_zero,List.set_cons_succ])
 refine wpSegH_nil ?_
 refine wpAnyH_one 1 _ #[true,true,false,false,true,true,true,false,false,false] 5 (by kernel_rfl) (fun K hK=>?_)
 have HKK:=Lib.hid hK
 clear hK
 simp only [List.drop_succ_cons,List.drop_zero]
 refine headH_mk (by rfl) ?_
 go_simp
 refine (HNW.out _ hB3).mono ?_
 rintro r w4 ⟨b0,rfl,hk⟩
 have h4:=h3.join hk
 obtain ⟨D,hD,h5⟩:=h4.wld
 have e5:=HSB.out _ _ h5
 refine HKK.out _ _ (e5) ?_
 clear HKK K
 obtain ⟨Fi,⟨-,hit⟩,-⟩:=h5.fact 8 (A:=ItemsA D.sv W0.hp) rfl
 obtain ⟨a5,c5,hv5,hc5⟩:=hit.slice
 rw [HWhp.out] at hv5
 simp only [List.length_nil] at hv5
 have y0:=(h5.cel 0 rfl 0 _ rfl).1
 have y1:=(h5.cel 0 rfl 1 _ rfl).1
 have y2:=(h5.cel 0 rfl 2 _ rfl).1
 have y3:=(h5.cel 0 rfl 3 _ rfl).1
 have y4:=(h5.cel 0 rfl 4 _ rfl).1
 have y5:=(h5.cel 0 rfl 5 _ rfl).1
 have y6:=(h5.cel 0 rfl 6 _ rfl).1
 have y7:=(h5.cel 0 rfl 7 _ rfl).1
 have y8:=(h5.cel 0 rfl 8 _ rfl).1
 have y9:=(h5.cel 0 rfl 9 _ rfl).1
 have y10:=(h5.cel 0 rfl 10 _ rfl).1
 rw [hv5] at y5
 refine wpAnyH_one 2 _ #[true,true,true,false,true,true,true,false,false,false] 4 (by kernel_rfl) (fun K hK=>?_)
 have HKK:=Lib.hid hK
 clear hK
 simp only [List.drop_succ_cons,List.drop_zero]
 refine headH_mk (by rfl) ?_
 go_simp
 refine HKK.out _ _ (e5) ?_
 clear HKK K
 refine wpAnyH_one 3 _ #[true,true,true,true,true,true,true,false,false,false] 3 (by kernel_rfl) (fun K hK=>?_)
 have HKK:=Lib.hid hK
 clear hK
 simp only [List.drop_succ_cons,List.drop_zero]
 refine headH_mk (by rfl) ?_
 go_simp
 refine HKK.out _ _ (e5) ?_
 clear HKK K
 refine wpAnyH_one 7 _ #[true,true,true,true,true,true,true,true,false,false] 2 (by kernel_rfl) (fun K hK=>?_)
 have HKK:=Lib.hid hK
 clear hK
 simp only [List.drop_succ_cons,List.drop_zero]
 refine headH_mk (by rfl) ?_
 go_simp
 refine HKK.out _ _ (e5) ?_
 clear HKK K
 refine wpAnyH_one 8 _ #[true,true,true,true,true,true,true,true,true,false] 1 (by kernel_rfl) (fun K hK=>?_)
 have HKK:=Lib.hid hK
 clear hK
 simp only [List.drop_succ_cons,List.drop_zero]
 refine headH_mk (by rfl) ?_
 go_simp
 have h6:=h5.drop
 have h7:Own w0 w4 (LstA (swr W0 D) :: CelA qb [.int .i64 (np:Int),.int .i64 (nm:Int),.int .i64 ring,.int .i64 sl] :: CelA pb [.slice fa fs.length fc,.slice ra rooms.length rc,.int .i64 (locks:Int),.slice ca ks.length cc] :: R):=Own.lst h6
 have h8:=((((((h7.pick 2 rfl).drop).rowNil 1).rowNil 3).lst (l:=[])).rowNil 3).alloc [.slice D.fa W0.fs.length D.fc,.slice D.ca W0.ks.length D.cc,.slice D.aa W0.gs.length D.ac,.slice D.ha W0.Cs.length D.hc,.slice D.la W0.Ls.length D.lc,.slice a5 0 c5,.int .u64 (W0.nx:Int),.int .u64 (W0.clock:Int),.slice D.oa W0.out.length D.oc,.int .i64 W0.en,.int .i64 W0.why,.pointer (some ⟨sp,0,none⟩),.slice none 0 0,.slice none 0 0,.slice none 0 0,.int .i64 sl,.int .i64 0] 80 (b:=w4.heap.size) rfl
 have hbx:=below_alloc1 w4 (.cells [.slice D.fa W0.fs.length D.fc,.slice D.ca W0.ks.length D.cc,.slice D.aa W0.gs.length D.ac,.slice D.ha W0.Cs.length D.hc,.slice D.la W0.Ls.length D.lc,.slice a5 0 c5,.int .u64 (W0.nx:Int),.int .u64 (W0.clock:Int),.slice D.oa W0.out.length D.oc,.int .i64 W0.en,.int .i64 W0.why,.pointer (some ⟨sp,0,none⟩),.slice none 0 0,.slice none 0 0,.slice none 0 0,.int .i64 sl,.int .i64 0].toArray 80)
 have e6:=HSB.out _ _ (h5.step hbx)
 refine HKK.out _ _ (e6) ?_
 clear HKK K
 refine wpAnyH_seg 9 1 _ #[true,true,true,true,true,true,true,true,true,true] 0 (by kernel_rfl) noPanic_put (e6) (by kernel_rfl) ?_
 simp only [List.take_succ_cons,List.take_zero,List.drop_succ_cons,List.drop_zero]
 repeat ((first | refine wpSegH_no (by rfl) ?_ | (refine wpSegH_yes (by rfl) ?_;apply Exists.intro;apply And.intro;(· (intro wx hS;(try dsimp only at hS);go_simp;first | done | with_reducible rfl))));simp only [Act.put,List.setIfInBounds_toArray,List.set_cons_zero,List.set_cons_succ])
 refine wpSegH_nil ?_
 refine wpAnyH_done (by kernel_rfl) (NoPanic.normal ?_) _
 obtain ⟨S0,hS0⟩:∃ S0:Sa,S0 = ⟨D,none,0,[],none,0,none,0⟩:=⟨_,rfl⟩
 have HS:Hid (S0.fits (midSd W0 0 0 ring sl []) ∧ Own w0 (w4.alloc (.cells [.slice D.fa W0.fs.length D.fc,.slice D.ca W0.ks.length D.cc,.slice D.aa W0.gs.length D.ac,.slice D.ha W0.Cs.length D.hc,.slice D.la W0.Ls.length D.lc,.slice a5 0 c5,.int .u64 (W0.nx:Int),.int .u64 (W0.clock:Int),.slice D.oa W0.out.length D.oc,.int .i64 W0.en,.int .i64 W0.why,.pointer (some ⟨sp,0,none⟩),.slice none 0 0,.slice none 0 0,.slice none 0 0,.int .i64 sl,.int .i64 0].toArray 80)) (schP w4.heap.size sp (midSd W0 0 0 ring sl []) S0 ++ (CelA qb [.int .i64 (np:Int),.int .i64 (nm:Int),.int .i64 ring,.int .i64 sl] :: R))):=Lib.hid (by
  subst hS0
  refine ⟨⟨hD,rfl⟩,?_⟩
  have e:[Value.slice D.fa W0.fs.length D.fc,.slice D.ca W0.ks.length D.cc,.slice D.aa W0.gs.length D.ac,.slice D.ha W0.Cs.length D.hc,.slice D.la W0.Ls.length D.lc,.slice a5 0 c5,.int .u64 (W0.nx:Int),.int .u64 (W0.clock:Int),.slice D.oa W0.out.length D.oc,.int .i64 W0.en,.int .i64 W0.why,.pointer (some ⟨sp,0,none⟩),.slice none 0 0,.slice none 0 0,.slice none 0 0,.int .i64 sl,.int .i64 0] = wcells W0 D ++ stl sp (midSd W0 0 0 ring sl []) ⟨D,none,0,[],none,0,none,0⟩:=by
   unfold wcells;rw [hv5];rfl
  have h9:=h8
  rw [e] at h9
  rw [e]
  exact h9)
 generalize w4.alloc (.cells [.slice D.fa W0.fs.length D.fc,.slice D.ca W0.ks.length D.cc,.slice D.aa W0.gs.length D.ac,.slice D.ha W0.Cs.length D.hc,.slice D.la W0.Ls.length D.lc,.slice a5 0 c5,.int .u64 (W0.nx:Int),.int .u64 (W0.clock:Int),.slice D.oa W0.out.length D.oc,.int .i64 W0.en,.int .i64 W0.why,.pointer (some ⟨sp,0,none⟩),.slice none 0 0,.slice none 0 0,.slice none 0 0,.int .i64 sl,.int .i64 0].toArray 80) = w5 at *
 generalize w4.heap.size = b at *
 clear hk h4 h5 h6 h7 h8 hbx e5 e6 hit hv5 hc5 y0 y1 y2 y3 y4 y5 y6 y7 y8 y9 y10 h3 hB3 HNW H2 HSB HWhp hqb hpb hS0 hD
 have g0:=(HS.out.2.cel 6 rfl 0 _ rfl).1
 go_wp2_with fail
 go_loopw [19] (fun iv wr=>∃ i:Nat,∃ S:Sa,i ≤ np ∧ iv = .int .i64 i ∧ Hid (S.fits (midSd W0 i 0 ring sl []) ∧ Own w0 wr (schP b sp (midSd W0 i 0 ring sl []) S ++ (CelA qb [.int .i64 (np:Int),.int .i64 (nm:Int),.int .i64 ring,.int .i64 sl] :: R)))) (fun iv _=>np - (intOf iv).toNat)
 case atStart=>exact ⟨0,S0,by omega,rfl,HS⟩
 case round =>
  obtain ⟨i,S,hi,rfl,hr⟩:=hrel
  clear HS g0
  by_cases hlt:i < np
  ·have hlt2:(i:Int) < (np:Int):=by omega
   have hi0:(0:Int) ≤ (i:Int):=by omega
   have HSB:Hid (∀ (wx:World) (As:List Asr) (k k2:Nat),Own w0 wx As → As[k]? = some (CelA b (wcells W0 S.D ++ stl sp (midSd W0 i 0 ring sl []) S)) → As[k2]? = some (CelA qb [.int .i64 (np:Int),.int .i64 (nm:Int),.int .i64 ring,.int .i64 sl]) → wx.cell? ⟨b,12,none⟩ = some (.slice S.pa i S.pc) ∧ wx.cell? ⟨qb,2,none⟩ = some (.int .i64 ring)):=Lib.hid (fun wx As k k2 hx h1 h2=>by
    have h3:=(hx.cel k h1 12 _ rfl).1
    have e:(midSd W0 i 0 ring sl []).ps.length = i:=by simp [midSd]
    rw [e] at h3
    exact ⟨h3,(hx.cel k2 h2 2 _ rfl).1⟩)
   have HFI:=Lib.hid hr.out.1
   have o1:=hr.out.2.step (below_drew1 wr)
   have HLN:=Lib.hid (fun wx=>lnew_any ring wx)
   have hpl:(pcs S.ld (midSd W0 i 0 ring sl []).ps).length = i * 3:=by rw [pcs_len _ _ hr.out.1.l];simp [midSd]
   obtain ⟨i0,hi1,hz0,hz1,hz2⟩:=info_parts info_proc
   have Hi:=Lib.hid hi1;clear hi1
   have Hz0:=Lib.hid hz0;clear hz0
   have Hz1:=Lib.hid hz1;clear hz1
   have Hz2:=Lib.hid hz2;clear hz2
   clear hr
   go_upto_region 4 with fail
   refine wp_region_lexY (fun wx=>wx.cell? ⟨b,12,none⟩ = some (.slice S.pa i S.pc) ∧ wx.cell? ⟨qb,2,none⟩ = some (.int .i64 ring)) 13 14 (Array.replicate 14 false) (by kernel_rfl) (by kernel_rfl) ?_
   generalize wr.drew = w6 at *
   refine wpAnyY_seg 0 7 _ #[true,true,true,true,true,true,true,false,false,false,false,false,false,false] 7 (by kernel_rfl) noPanic_put (HSB.out _ _ 0 6 o1 rfl rfl) (by kernel_rfl) ?_
   simp only [List.take_succ_cons,List.take_zero,List.drop_zero]
   repeat ((first | refine wpSegH_no (by rfl) ?_ | (refine wpSegH_yes (by rfl) ?_;apply Exists.intro;apply And.intro;(· (intro wx hS;(try dsimp only at hS);go_simp;first | done | with_reducible rfl))));simp only [Act.put,List.setIfInBounds_toArray,List.set_cons_zero,List.set_cons_succ])
   refine wpSegH_nil ?_
   refine wpAnyY_one 7 _ #[true,true,true,true,true,true,true,true,false,false,false,false,false,false] 6 (by kernel_rfl) (fun K hK=>?_)
   have HKK:=Lib.hid hK
   clear hK
   simp only [List.drop_succ_cons,List.drop_zero]
   refine headH_mk (by rfl) ?_
   go_simp
   refine (HLN.out _).mono ?_
   rintro r w7 ⟨p,g,rfl,hloc,hpp,hgg,hb7⟩
   have o2:=o1.add hb7 (A:=locA ⟨p,g,roomOf ring,⟨none,[]⟩,none,0⟩) (F:=[p,g]) ⟨rfl,hloc⟩ (by intro x hx;simp at hx;rcases hx with rfl | rfl <;> assumption)
   refine HKK.out _ _ (HSB.out _ _ 1 7 o2 rfl rfl) ?_
   clear HKK K
   refine wpAnyY_seg 8 1 _ #[true,true,true,true,true,true,true,true,true,false,false,false,false,false] 5 (by kernel_rfl) noPanic_put (HSB.out _ _ 1 7 o2 rfl rfl) (by kernel_rfl) ?_
   simp only [List.take_succ_cons,List.take_zero,List.drop_succ_cons,List.drop_zero]
   repeat ((first | refine wpSegH_no (by rfl) ?_ | (refine wpSegH_yes (by rfl) ?_;apply Exists.intro;apply And.intro;(· (intro wx hS;(try dsimp only at hS);go_simp;first | done | with_reducible rfl))));simp only [Act.put,List.setIfInBounds_toArray,List.set_cons_zero,List.set_cons_succ])
   refine wpSegH_nil ?_
   have o3:=o2.step (below_alloc1 w7 (.cells #[.pointer (some ⟨p,0,none⟩),.int .i64 0,.int .i64 (-1)] 95))
   refine wpAnyY_one 9 _ #[true,true,true,true,true,true,true,true,true,true,false,false,false,false] 4 (by kernel_rfl) (fun K hK=>?_)
   have HKK:=Lib.hid hK
   clear hK
   simp only [List.drop_succ_cons,List.drop_zero]
   refine headH_mk (by rfl) ?_
   go_simp
   refine HKK.out _ _ (HSB.out _ _ 1 7 o3 rfl rfl) ?_
   clear HKK K
   refine wpAnyY_one 10 _ #[true,true,true,true,true,true,true,true,true,true,true,false,false,false] 3 (by kernel_rfl) (fun K hK=>?_)
   have HKK:=Lib.hid hK
   clear hK
   simp only [List.drop_succ_cons,List.drop_zero]
   refine headH_mk (by rfl) ?_
   have hrow3:=o3.rowG 2 rfl
   rw [show (midSd W0 i 0 ring sl []).ps.length = i by simp [midSd]] at hrow3
   refine wp_append_rowG (n:=i) (m:=1) (cs:=pcs S.ld (midSd W0 i 0 ring sl []).ps) (ds:=[.pointer (some ⟨p,0,none⟩),.int .i64 0,.int .i64 (-1)]) _ _ 75 (by rfl) 95 i0 _ Tryz.underlying75 Hi.out Hz0.out Hz1.out Hz2.out rfl (by omega) (by omega) (by rfl) (by rfl) hrow3 (CellsAt.new _ [.pointer (some ⟨p,0,none⟩),.int .i64 0,.int .i64 (-1)] _ rfl) rfl (by simp [Value.oneCell']) (by omega) ?_
   intro a9 c9 w9 k9 ch9 f9
   have o4:=Own.rowTurn (o3.pick 2 rfl) k9 ch9 f9
   refine HKK.out _ _ (HSB.out _ _ 2 7 o4 rfl rfl) ?_
   clear HKK K
   refine wpAnyY_segT 11 1 _ #[true,true,true,true,true,true,true,true,true,true,true,true,false,false] 2 (by kernel_rfl) noPanic_put (by kernel_rfl) ?_
   simp only [List.take_succ_cons,List.take_zero,List.drop_succ_cons,List.drop_zero]
   repeat ((first | refine wpSegH_no (by rfl) ?_ | (refine wpSegH_yes (by rfl) ?_;apply Exists.intro;apply And.intro;(· (intro wx hS;(try dsimp only at hS);go_simp;first | done | with_reducible rfl))));simp only [Act.put,List.setIfInBounds_toArray,List.set_cons_zero,List.set_cons_succ])
   refine wpSegH_nil ?_
   refine wpAnyY_seg 12 1 _ #[true,true,true,true,true,true,true,true,true,true,true,true,true,false] 1 (by kernel_rfl) noPanic_put (HSB.out _ _ 2 7 o4 rfl rfl) (by kernel_rfl) ?_
   simp only [List.take_succ_cons,List.take_zero,List.drop_succ_cons,List.drop_zero]
   repeat ((first | refine wpSegH_no (by rfl) ?_ | (refine wpSegH_yes (by rfl) ?_;apply Exists.intro;apply And.intro;(· (intro wx hS;(try dsimp only at hS);go_simp;first | done | with_reducible rfl))));simp only [Act.put,List.setIfInBounds_toArray,List.set_cons_zero,List.set_cons_succ])
   refine wpSegH_nil ?_
   obtain ⟨z8,f8⟩:=o4.cel 2 rfl 12 _ rfl
   have o5:=((((((o4.setAt 2 rfl 12 (.slice a9 (i + 1) c9)).pick 1 rfl).pick 3 rfl).pick 1 rfl).lstAdd).pick 1 rfl).pick 2 rfl
   have H5:=Lib.hid o5
   clear o1 o2 o3 o4 o5 k9 ch9 f9 hrow3 hloc hpp hgg hb7 HSB HLN
   refine wpAnyY_late 13 _ #[true,true,true,true,true,true,true,true,true,true,true,true,true,true] 0 (by kernel_rfl) (fun K hK=>?_)
   have HKK:=Lib.hid hK
   clear hK
   simp only [List.drop_succ_cons,List.drop_zero]
   refine headH_mk (by rfl) ?_
   go_simp
   refine HKK.out _ _ ?_
   clear HKK K
   refine wpAnyY_done (by kernel_rfl) (NoPanic.normal ?_) _
   have HFIN:Hid (Sa.fits { S with pa:=a9,pc:=c9,ld:=S.ld ++ [(p,g)] } (midSd W0 (i + 1) 0 ring sl []) ∧ Own w0 (w9.setCell ⟨b,12,none⟩ (.slice a9 (i + 1) c9)) (schP b sp (midSd W0 (i + 1) 0 ring sl []) { S with pa:=a9,pc:=c9,ld:=S.ld ++ [(p,g)] } ++ (CelA qb [.int .i64 (np:Int),.int .i64 (nm:Int),.int .i64 ring,.int .i64 sl] :: R))):=Lib.hid (by
    have hl:=HFI.out.l
    have e1:(midSd W0 (i + 1) 0 ring sl []).ps = (midSd W0 i 0 ring sl []).ps ++ [⟨roomOf ring,⟨none,[]⟩,0,-1⟩]:=by unfold midSd;exact List.replicate_succ'
    have e2:(midSd W0 (i + 1) 0 ring sl []).ps.length = i + 1:=by simp [midSd]
    refine ⟨⟨HFI.out.w,by simp only [List.length_append,List.length_singleton];rw [hl,e2];simp [midSd]⟩,?_⟩
    unfold schP stl
    simp only
    rw [e2,e1,pcs_app hl,qds_app hl,locs,List.map_append]
    exact H5.out)
   clear H5 HFI hpl
   generalize w9.setCell ⟨b,12,none⟩ (.slice a9 (i + 1) c9) = w10 at *
   go_wp2
   exact ⟨⟨i + 1,_,by omega,by go_num,HFIN⟩,by simp [intOf];omega⟩
  ·have hge:¬ (i:Int) < (np:Int):=by omega
   obtain rfl:i = np:=by omega
   have g1:=(hr.out.2.cel 6 rfl 1 _ rfl).1
   go_wp2_with fail
   go_loopw [37] (fun iv wr=>∃ j:Nat,∃ S:Sa,j ≤ nm ∧ iv = .int .i64 j ∧ Hid (S.fits (midSd W0 i j ring sl []) ∧ Own w0 wr (schP b sp (midSd W0 i j ring sl []) S ++ (CelA qb [.int .i64 (i:Int),.int .i64 (nm:Int),.int .i64 ring,.int .i64 sl] :: R)))) (fun iv _=>nm - (intOf iv).toNat)
   case atStart=>exact ⟨0,S,by omega,rfl,hr⟩
   case round =>
    obtain ⟨j,S1,hj,rfl,hq⟩:=hrel
    clear hr g1
    by_cases hlt2:j < nm
    ·have hlt3:(j:Int) < (nm:Int):=by omega
     have hj0:(0:Int) ≤ (j:Int):=by omega
     have em:(midSd W0 i j ring sl []).ms.length = j:=by simp [midSd]
     have z13:=(hq.out.2.cel 0 rfl 13 _ rfl).1
     rw [em] at z13
     have o3:=hq.out.2.step (below_alloc1 wr (.cells #[.int .i64 (-1),.int .i64 (-1),.int .i64 0] 97))
     have z14:=(o3.cel 0 rfl 13 _ rfl)
     rw [em] at z14
     have hrow3:=o3.rowG 3 rfl
     rw [em] at hrow3
     have hpl:(mcs (midSd W0 i j ring sl []).ms).length = j * 3:=by rw [mcs_len];simp [midSd]
     have O3:=Lib.hid (And.intro o3 hrow3)
     have HFI:=Lib.hid hq.out.1
     obtain ⟨i0,hi1,hz0,hz1,hz2⟩:=info_parts info_mach
     have Hi:=Lib.hid hi1;clear hi1
     have Hz0:=Lib.hid hz0;clear hz0
     have Hz1:=Lib.hid hz1;clear hz1
     have Hz2:=Lib.hid hz2;clear hz2
     clear o3 hrow3 hq
     go_wp2_with (at_builtin;go_loud (refine wpList_append_rowG rfl _ _ 76 rfl 97 i0 _ Tryz.underlying76 Hi.out Hz0.out Hz1.out Hz2.out rfl (by decide) (by decide) (n:=j) (m:=1) (cs:=mcs (midSd W0 i j ring sl []).ms) (ds:=[.int .i64 (-1),.int .i64 (-1),.int .i64 0]) (by rfl) (by rfl) O3.out.2 (CellsAt.new _ [.int .i64 (-1),.int .i64 (-1),.int .i64 0] _ rfl) rfl (by simp [Value.oneCell']) (by omega) ?_))
     intro a9 c9 w9 k9 ch9 f9
     have o4:=Own.rowTurn (O3.out.1.pick 3 rfl) k9 ch9 (fun x hx=>by simpa using f9 x hx)
     obtain ⟨z8,f8⟩:=o4.cel 1 rfl 13 _ rfl
     have o5:=(((o4.setAt 1 rfl 13 (.slice a9 (j + 1) c9)).pick 3 rfl).pick 3 rfl).pick 3 rfl
     have HFIN:Hid (Sa.fits { S1 with ma:=a9,mc:=c9 } (midSd W0 i (j + 1) ring sl []) ∧ Own w0 (w9.setCell ⟨b,13,none⟩ (.slice a9 (j + 1) c9)) (schP b sp (midSd W0 i (j + 1) ring sl []) { S1 with ma:=a9,mc:=c9 } ++ (CelA qb [.int .i64 (i:Int),.int .i64 (nm:Int),.int .i64 ring,.int .i64 sl] :: R))):=Lib.hid (by
      have e1:(midSd W0 i (j + 1) ring sl []).ms = (midSd W0 i j ring sl []).ms ++ [⟨-1,-1,0⟩]:=by unfold midSd;exact List.replicate_succ'
      have e2:(midSd W0 i (j + 1) ring sl []).ms.length = j + 1:=by simp [midSd]
      refine ⟨⟨HFI.out.w,HFI.out.l⟩,?_⟩
      unfold schP stl
      simp only
      rw [e2,e1,mcs_app]
      exact o5)
     clear o4 o5 k9 ch9 f9 O3 HFI hpl z13 z14 em
     go_wp2
     exact ⟨⟨j + 1,_,by omega,by go_num,HFIN⟩,by simp [intOf];omega⟩
    ·have hge3:¬ (j:Int) < (nm:Int):=by omega
     obtain rfl:j = nm:=by omega
     have HP:=Lib.hid (fun (wx:World) (hx:Own w0 wx (schP b sp (midSd W0 i j ring sl []) S1 ++ (CelA qb [.int .i64 (i:Int),.int .i64 (j:Int),.int .i64 ring,.int .i64 sl] :: R))) (a:Option Addr) (hm:IntsAt wx a [0])=>sd_gput (L:=⟨S1.pa,S1.ma,S1.ld,S1.mc⟩) ⟨S1,hq.out.1,⟨rfl,⟨rfl,rfl⟩,rfl⟩,hx⟩ a 1 1 [0] rfl hm (by simp [midSd]))
     have HO:=Lib.hid (hq.out.2.step (below_alloc1 wr (.cells #[.int .i64 0] 3)))
     clear hq
     go_wp2_with fail
     refine (HP.out _ HO.out _ (RowAt.one wr 0 3 rfl).ints).mono ?_
     rintro r w9 ⟨rfl,h9⟩
     have HF:Hid (Own w0 w9 (SchA b sp (newSd W0 i j ring sl) :: R)):=Lib.hid (h9.less.to)
     clear h9 HP HO
     go_wp2
     go_ret
     exact ⟨b,rfl,HF.out⟩
theorem srcD_pan (sp:Nat):∀ (s:(srcD sp 0).T) (kd n:Int) (r:Ending) (s':(srcD sp 0).T),(srcD sp 0).Dp s kd n r s' → ∃ k u,Ended r k u ∧ (k = 1 ∨ k = 2):=by
 rintro s kd n r s' ⟨-,h | h⟩
 ·exact ⟨1,uz,.inr (.inl ⟨h.2,rfl,rfl⟩),.inl rfl⟩
 ·exact ⟨2,_,.inr (.inr ⟨_,_,_,_,h.2.2,rfl,rfl⟩),.inr rfl⟩
theorem trun_any {w0 w:World} {R:List Asr} (h:Own w0 w R) (na:Option Addr) (nc most:Nat) (nums:List Nat) (fa:Option Addr) (fc:Nat) (fr:List (Option Addr × Nat)) (fs:List (List In4)) (ra:Option Addr) (rc:Nat) (rooms:List Int) (locks:Nat) (ca:Option Addr) (cc:Nat) (ks:List Cs3) (hpn:∀ (wx:World) (Q:List Asr),Own w0 wx (Q ++ R) → ProgIn wx fa fr fs ra rooms ca cc ks ∧ CellsAt wx na (numc nums)) (hlk:locks ≤ 1000) (np nm:Nat) (ring sl:Int) (hnp:np ≤ 1000) (hnm:nm ≤ 1000)
  (hn0:na = none → nums.length = 0 ∧ nc = 0) (hnl:nums.length ≤ 100000) (hn64:∀ n ∈ nums,n < 18446744073709551616) (hmo:most ≤ 20000)
  (hR:∀ k Y,Rch (newSd (newM fs ks rooms locks) np nm ring sl) k Y → k ≤ most → SdWF k Y ∧ (Y.W.en = 0 ∨ Y.W.en = 1 ∨ Y.W.en = 2)) :
  Calls Tryz.prog 7 #[.agg #[.slice fa fs.length fc,.slice ra rooms.length rc,.int .i64 (locks:Int),.slice ca ks.length cc],.agg #[.int .i64 (np:Int),.int .i64 (nm:Int),.int .i64 ring,.int .i64 sl],.slice na nums.length nc,.int .i64 (most:Int)] w
   fun r w'=>∃ (bs sp k:Nat) (Y:Sd),r = .returned (.pointer (some ⟨bs,0,none⟩)) ∧ Rch (newSd (newM fs ks rooms locks) np nm ring sl) k Y ∧ k ≤ most ∧ Own w0 w' (SchA bs sp Y :: R):=by
 have hmf:∀ (fn:Fn) (first cap:Array Value) (w:World),(Instr.makeFunc fn first cap).run Tryz.prog w = .ok (.func fn first cap) w:=fun _ _ _ _=>rfl
 have en:∀ (args:Array Value) (w:World),(callFunc 19 args).run Tryz.prog w = .ok (.enter 19 args) w:=fun _ _=>by kernel_rfl
 have h1:=h.alloc [.slice fa fs.length fc,.slice ra rooms.length rc,.int .i64 (locks:Int),.slice ca ks.length cc] 34 (b:=w.heap.size) rfl
 have h2:=h1.alloc [.int .i64 (np:Int),.int .i64 (nm:Int),.int .i64 ring,.int .i64 sl] 37 (b:=w.heap.size + 1) (by simp)
 have h3:=h2.alloc [.int .i64 (most:Int)] 3 (b:=w.heap.size + 1 + 1) (by simp)
 have HO:=Lib.hid h3
 have HPN:=Lib.hid hpn
 have HR:=Lib.hid hR
 have H64:=Lib.hid hn64
 have HB:=Lib.hid h
 clear h h1 h2 h3 hpn hR hn64
 go_enter Tryz.func7,Tryz.ntmps7
 go_upto_region 1 with fail
 generalize ((w.alloc (.cells [.slice fa fs.length fc,.slice ra rooms.length rc,.int .i64 (locks:Int),.slice ca ks.length cc].toArray 34)).alloc (.cells [.int .i64 (np:Int),.int .i64 (nm:Int),.int .i64 ring,.int .i64 sl].toArray 37)).alloc (.cells [.int .i64 (most:Int)].toArray 3) = wa at *
 generalize w.heap.size + 1 + 1 = bm at *
 generalize w.heap.size + 1 = bc at *
 generalize w.heap.size = bp at *
 have HSB:Hid (∀ (wx:World) (As:List Asr) (i j:Nat),Own w0 wx As → As[i]? = some (CelA bp [.slice fa fs.length fc,.slice ra rooms.length rc,.int .i64 (locks:Int),.slice ca ks.length cc]) → As[j]? = some (CelA bc [.int .i64 (np:Int),.int .i64 (nm:Int),.int .i64 ring,.int .i64 sl]) → wx.cell? ⟨bp,0,none⟩ = some (.slice fa fs.length fc) ∧ wx.cell? ⟨bp,1,none⟩ = some (.slice ra rooms.length rc) ∧ wx.cell? ⟨bp,2,none⟩ = some (.int .i64 (locks:Int)) ∧ wx.cell? ⟨bp,3,none⟩ = some (.slice ca ks.length cc) ∧ wx.cell? ⟨bc,0,none⟩ = some (.int .i64 (np:Int)) ∧ wx.cell? ⟨bc,1,none⟩ = some (.int .i64 (nm:Int)) ∧ wx.cell? ⟨bc,2,none⟩ = some (.int .i64 ring) ∧ wx.cell? ⟨bc,3,none⟩ = some (.int .i64 sl)) :=
  Lib.hid (fun wx As i j h hi hj=>⟨(h.cel i hi 0 _ rfl).1,(h.cel i hi 1 _ rfl).1,(h.cel i hi 2 _ rfl).1,(h.cel i hi 3 _ rfl).1,(h.cel j hj 0 _ rfl).1,(h.cel j hj 1 _ rfl).1,(h.cel j hj 2 _ rfl).1,(h.cel j hj 3 _ rfl).1⟩)
 go_cut [9] (fun sv wx=>∃ bs sp bx,sv = .pointer (some ⟨bx,0,none⟩) ∧ Hid (Own w0 wx (SchA bs sp (newSd (newM fs ks rooms locks) np nm ring sl) :: SrcA sp 0 ⟨[],nums,[]⟩ .nilFunc :: CelA bx [.pointer (some ⟨bs,0,none⟩)] :: CelA bm [.int .i64 (most:Int)] :: R)))
 case first =>
  have o0:Own w0 wa.drew (CelA bm [.int .i64 (most:Int)] :: CelA bc [.int .i64 (np:Int),.int .i64 (nm:Int),.int .i64 ring,.int .i64 sl] :: CelA bp [.slice fa fs.length fc,.slice ra rooms.length rc,.int .i64 (locks:Int),.slice ca ks.length cc] :: R):=HO.out.step (below_drew1 wa)
  refine wp_region_lexH (fun wx=>wx.cell? ⟨bp,0,none⟩ = some (.slice fa fs.length fc) ∧ wx.cell? ⟨bp,1,none⟩ = some (.slice ra rooms.length rc) ∧ wx.cell? ⟨bp,2,none⟩ = some (.int .i64 (locks:Int)) ∧ wx.cell? ⟨bp,3,none⟩ = some (.slice ca ks.length cc) ∧ wx.cell? ⟨bc,0,none⟩ = some (.int .i64 (np:Int)) ∧ wx.cell? ⟨bc,1,none⟩ = some (.int .i64 (nm:Int)) ∧ wx.cell? ⟨bc,2,none⟩ = some (.int .i64 ring) ∧ wx.cell? ⟨bc,3,none⟩ = some (.int .i64 sl)) 7 (Array.replicate 7 false) (by kernel_rfl) (by kernel_rfl) ?_
  generalize wa.drew = wd at *
  clear HO
  refine wpAnyH_seg 0 3 _ #[true,true,true,false,false,false,false] 4 (by kernel_rfl) noPanic_put (HSB.out _ _ 2 1 o0 rfl rfl) (by kernel_rfl) ?_
  simp only [List.take_succ_cons,List.take_zero,List.drop_zero]
  repeat ((first | refine wpSegH_no (by rfl) ?_ | (refine wpSegH_yes (by rfl) ?_;apply Exists.intro;apply And.intro;(· (intro wx hS;(try dsimp only at hS);go_simp;first | done | with_reducible rfl))));simp only [Act.put,List.setIfInBounds_toArray,List.set_cons_zero,List.set_cons_succ])
  refine wpSegH_nil ?_
  refine wpAnyH_two 3 5 _ #[true,true,true,true,false,false,false] #[true,true,true,false,false,true,false] 3 (by kernel_rfl) (fun K hK=>?_) (fun K hK=>?_)
  ·skip
   have hon:=onew_any o0 na nc nums (HPN.out _ [_,_,_] o0).2 hn0 (by omega)
   have HKK:=Lib.hid hK
   clear hK
   simp only [List.drop_succ_cons,List.drop_zero]
   refine headH_mk (by rfl) ?_
   go_simp
   refine hon.mono ?_
   rintro r w1 ⟨sp,rfl,o1,hbo⟩
   clear hon hbo
   refine HKK.out _ _ (HSB.out _ _ 3 2 o1 rfl rfl) ?_
   clear HKK K
   refine wpAnyH_two 4 5 _ #[true,true,true,true,true,false,false] #[true,true,true,true,false,true,false] 2 (by kernel_rfl) (fun K hK=>?_) (fun K hK=>?_)
   ·skip
    have hsn:=snew_any o1 fa fc fr fs ra rc rooms locks ca cc ks (HPN.out _ [_,_,_,_] o1).1 hlk np nm ring sl hnp hnm sp
    have HKK:=Lib.hid hK
    clear hK
    simp only [List.drop_succ_cons,List.drop_zero]
    refine headH_mk (by rfl) ?_
    go_simp
    refine hsn.mono ?_
    rintro r w2 ⟨bs,rfl,o2⟩
    clear hsn
    refine HKK.out _ _ (HSB.out _ _ 4 3 o2 rfl rfl) ?_
    clear HKK K
    have o3:=o2.alloc [.pointer none] 35 rfl
    refine wpAnyH_one 5 _ #[true,true,true,true,true,true,false] 1 (by kernel_rfl) (fun K hK=>?_)
    have HKK:=Lib.hid hK
    clear hK
    simp only [List.drop_succ_cons,List.drop_zero]
    refine headH_mk (by rfl) ?_
    go_simp
    refine HKK.out _ _ (HSB.out _ _ 5 4 o3 rfl rfl) ?_
    clear HKK K
    generalize w2.alloc (.cells [.pointer none].toArray 35) = wb3 at *
    generalize w2.heap.size = bx at *
    obtain ⟨f0,g0⟩:=o3.cel 0 rfl 0 _ rfl
    have oz:=o3.setAt 0 rfl 0 (.pointer (some ⟨bs,0,none⟩))
    refine wpAnyH_one 6 _ #[true,true,true,true,true,true,true] 0 (by kernel_rfl) (fun K hK=>?_)
    have HKK:=Lib.hid hK
    clear hK
    simp only [List.drop_succ_cons,List.drop_zero]
    refine headH_mk (by rfl) ?_
    go_simp
    refine HKK.out _ _ (HSB.out _ _ 5 4 oz rfl rfl) ?_
    clear HKK K
    refine wpAnyH_done (by kernel_rfl) (NoPanic.normal ?_) _
    have HZ:Hid (Own w0 _ (SchA bs sp (newSd (newM fs ks rooms locks) np nm ring sl) :: SrcA sp 0 ⟨[],nums,[]⟩ .nilFunc :: CelA bx [.pointer (some ⟨bs,0,none⟩)] :: CelA bm [.int .i64 (most:Int)] :: R)):=Lib.hid (((((((oz.pick 3 rfl).pick 1 rfl).pick 3 rfl).pick 3 rfl).pick 5 rfl).pick 5 rfl).drop.drop)
    clear oz f0 g0
    go_wp2_with fail
    go_meet
    exact ⟨bs,sp,bx,rfl,HZ⟩
   ·skip
    have o2:=o1.alloc [.pointer none] 35 rfl
    have HKK:=Lib.hid hK
    clear hK
    simp only [List.drop_succ_cons,List.drop_zero]
    refine headH_mk (by rfl) ?_
    go_simp
    refine HKK.out _ _ (HSB.out _ _ 4 3 o2 rfl rfl) ?_
    clear HKK K
    generalize w1.alloc (.cells [.pointer none].toArray 35) = wb2 at *
    generalize w1.heap.size = bx at *
    have hsn:=snew_any o2 fa fc fr fs ra rc rooms locks ca cc ks (HPN.out _ [_,_,_,_,_] o2).1 hlk np nm ring sl hnp hnm sp
    refine wpAnyH_one 4 _ #[true,true,true,true,true,true,false] 1 (by kernel_rfl) (fun K hK=>?_)
    have HKK:=Lib.hid hK
    clear hK
    simp only [List.drop_succ_cons,List.drop_zero]
    refine headH_mk (by rfl) ?_
    go_simp
    refine hsn.mono ?_
    rintro r w3 ⟨bs,rfl,o3⟩
    clear hsn
    refine HKK.out _ _ (HSB.out _ _ 5 4 o3 rfl rfl) ?_
    clear HKK K
    obtain ⟨f0,g0⟩:=o3.cel 1 rfl 0 _ rfl
    have oz:=o3.setAt 1 rfl 0 (.pointer (some ⟨bs,0,none⟩))
    refine wpAnyH_one 6 _ #[true,true,true,true,true,true,true] 0 (by kernel_rfl) (fun K hK=>?_)
    have HKK:=Lib.hid hK
    clear hK
    simp only [List.drop_succ_cons,List.drop_zero]
    refine headH_mk (by rfl) ?_
    go_simp
    refine HKK.out _ _ (HSB.out _ _ 5 4 oz rfl rfl) ?_
    clear HKK K
    refine wpAnyH_done (by kernel_rfl) (NoPanic.normal ?_) _
    have HZ:Hid (Own w0 _ (SchA bs sp (newSd (newM fs ks rooms locks) np nm ring sl) :: SrcA sp 0 ⟨[],nums,[]⟩ .nilFunc :: CelA bx [.pointer (some ⟨bs,0,none⟩)] :: CelA bm [.int .i64 (most:Int)] :: R)):=Lib.hid (((((((oz.pick 3 rfl).pick 2 rfl).pick 3 rfl).pick 3 rfl).pick 5 rfl).pick 5 rfl).drop.drop)
    clear oz f0 g0
    go_wp2_with fail
    go_meet
    exact ⟨bs,sp,bx,rfl,HZ⟩
  ·skip
   have o1:=o0.alloc [.pointer none] 35 rfl
   have HKK:=Lib.hid hK
   clear hK
   simp only [List.drop_succ_cons,List.drop_zero]
   refine headH_mk (by rfl) ?_
   go_simp
   refine HKK.out _ _ (HSB.out _ _ 3 2 o1 rfl rfl) ?_
   clear HKK K
   generalize wd.alloc (.cells [.pointer none].toArray 35) = wb1 at *
   generalize wd.heap.size = bx at *
   have hon:=onew_any o1 na nc nums (HPN.out _ [_,_,_,_] o1).2 hn0 (by omega)
   refine wpAnyH_one 3 _ #[true,true,true,true,false,true,false] 2 (by kernel_rfl) (fun K hK=>?_)
   have HKK:=Lib.hid hK
   clear hK
   simp only [List.drop_succ_cons,List.drop_zero]
   refine headH_mk (by rfl) ?_
   go_simp
   refine hon.mono ?_
   rintro r w2 ⟨sp,rfl,o2,hbo⟩
   clear hon hbo
   refine HKK.out _ _ (HSB.out _ _ 4 3 o2 rfl rfl) ?_
   clear HKK K
   have hsn:=snew_any o2 fa fc fr fs ra rc rooms locks ca cc ks (HPN.out _ [_,_,_,_,_] o2).1 hlk np nm ring sl hnp hnm sp
   refine wpAnyH_one 4 _ #[true,true,true,true,true,true,false] 1 (by kernel_rfl) (fun K hK=>?_)
   have HKK:=Lib.hid hK
   clear hK
   simp only [List.drop_succ_cons,List.drop_zero]
   refine headH_mk (by rfl) ?_
   go_simp
   refine hsn.mono ?_
   rintro r w3 ⟨bs,rfl,o3⟩
   clear hsn
   refine HKK.out _ _ (HSB.out _ _ 5 4 o3 rfl rfl) ?_
   clear HKK K
   obtain ⟨f0,g0⟩:=o3.cel 2 rfl 0 _ rfl
   have oz:=o3.setAt 2 rfl 0 (.pointer (some ⟨bs,0,none⟩))
   refine wpAnyH_one 6 _ #[true,true,true,true,true,true,true] 0 (by kernel_rfl) (fun K hK=>?_)
   have HKK:=Lib.hid hK
   clear hK
   simp only [List.drop_succ_cons,List.drop_zero]
   refine headH_mk (by rfl) ?_
   go_simp
   refine HKK.out _ _ (HSB.out _ _ 5 4 oz rfl rfl) ?_
   clear HKK K
   refine wpAnyH_done (by kernel_rfl) (NoPanic.normal ?_) _
   have HZ:Hid (Own w0 _ (SchA bs sp (newSd (newM fs ks rooms locks) np nm ring sl) :: SrcA sp 0 ⟨[],nums,[]⟩ .nilFunc :: CelA bx [.pointer (some ⟨bs,0,none⟩)] :: CelA bm [.int .i64 (most:Int)] :: R)):=Lib.hid (((((((oz.pick 3 rfl).pick 3 rfl).pick 3 rfl).pick 3 rfl).pick 5 rfl).pick 5 rfl).drop.drop)
   clear oz f0 g0
   go_wp2_with fail
   go_meet
   exact ⟨bs,sp,bx,rfl,HZ⟩
 case rest =>
  obtain ⟨bs,sp,bx,rfl,HZ⟩:=hcut
  clear HSB HO
  have hok:(srcD sp 0).ok (2 * most) (⟨[],nums,[]⟩:Src):=⟨⟨fun r hr=>by simp at hr,H64.out⟩,(by first | exact ⟨fun _=>rfl,(fun e=>by cases e),by omega⟩ | exact ⟨fun _=>rfl,fun e=>by cases e⟩),by simp [Src.many];omega,by simp,by simp;omega⟩
  have hg:=guard_any HZ.out 19 #[.pointer (some ⟨bm,0,none⟩),.pointer (some ⟨bx,0,none⟩)] en
   (fun r R'=>∃ (k:Nat) (Y:Sd) (s:Src),Rch (newSd (newM fs ks rooms locks) np nm ring sl) k Y ∧ k ≤ most ∧ R' = SchA bs sp Y :: SrcA sp 0 s .nilFunc :: CelA bx [.pointer (some ⟨bs,0,none⟩)] :: CelA bm [.int .i64 (most:Int)] :: R)
   (fun w1 g ho=>by
    have h2:Own w0 w1 (SchA bs sp (newSd (newM fs ks rooms locks) np nm ring sl) :: ((srcD sp 0).A ⟨[],nums,[]⟩ ++ (CelA bx [.pointer (some ⟨bs,0,none⟩)] :: CelA bm [.int .i64 (most:Int)] :: (CelA g [.int .i64 0] :: CelA (g + 1) uz :: R)))) :=
     ho.perm (List.perm_append_comm_assoc [CelA g [.int .i64 0],CelA (g + 1) uz] [_,_,_,_] R)
    refine (run1_any h2 hok hmo HR.out (srcD_pan sp)).mono (fun r w2 hh=>?_)
    obtain ⟨k,Y,s,kk,u,h3,h4,h5,h6⟩:=hh
    refine ⟨_,kk,u,?_,⟨k,Y,s,h3,h4,rfl⟩,h5⟩
    exact h6.perm (List.perm_append_comm_assoc [_,_,_,_] [CelA g [.int .i64 0],CelA (g + 1) uz] R))
  have HG:=Lib.hid hg
  clear hg hok HZ
  go_wp2_with fail
  refine HG.out.mono ?_
  rintro r w2 ⟨rr,R',kk,u,ho,⟨k,Y,s,hk1,hk2,rfl⟩,he,rfl⟩
  obtain ⟨u0,u1,u2,u3,u4,rfl⟩:=len5 he
  obtain ⟨x0,-⟩:=ho.cel 2 rfl 0 _ rfl
  have HF:Hid (∃ (bs' sp k:Nat) (Y:Sd),Ending.returned (.pointer (some ⟨bs,0,none⟩)) = .returned (.pointer (some ⟨bs',0,none⟩)) ∧ Rch (newSd (newM fs ks rooms locks) np nm ring sl) k Y ∧ k ≤ most ∧ Own w0 w2 (SchA bs' sp Y :: R)) :=
   Lib.hid ⟨bs,sp,k,Y,rfl,hk1,hk2,((ho.pick 3 rfl).drop.pick 2 rfl).drop.pick 1 rfl |>.drop⟩
  clear ho hk1 hk2 he HG
  go_wp2
  go_ret
  exact HF.out
def crcL (x:Nat):Nat:=if x % 2 = 1 then x / 2 ^^^ 3988292384 else x / 2
def crcK:Nat → Nat → Nat
 | 0,x=>x
 | k + 1,x=>crcL (crcK k x)
theorem xor_even (x w:Nat):(x ^^^ 2 * w) % 2 = 1 ↔ x % 2 = 1:=by
 rw [Nat.xor_mod_two_eq_one];have:2 * w % 2 = 0:=by omega
 omega
theorem crcL_xor (x w:Nat):crcL (x ^^^ 2 * w) = crcL x ^^^ w:=by
 unfold crcL
 have e:(x ^^^ 2 * w) / 2 = x / 2 ^^^ w:=by rw [Nat.xor_div_two,show 2 * w / 2 = w by omega]
 by_cases h:x % 2 = 1
 ·rw [if_pos ((xor_even x w).2 h),if_pos h,e,Nat.xor_assoc,Nat.xor_assoc,Nat.xor_comm w]
 ·rw [if_neg (fun k=>h ((xor_even x w).1 k)),if_neg h,e]
theorem crcL_lt (x:Nat) (h:x < 4294967296):crcL x < 4294967296:=by
 unfold crcL;split
 ·exact Nat.xor_lt_two_pow (n:=32) (by omega) (by omega)
 ·omega
theorem crcK_lt (k x:Nat) (h:x < 4294967296):crcK k x < 4294967296:=by
 induction k with
 | zero=>exact h
 | succ k ih=>exact crcL_lt _ ih
theorem crcK_xor (k x w:Nat):crcK k (x ^^^ 2 ^ k * w) = crcK k x ^^^ w:=by
 induction k generalizing w with
 | zero=>simp [crcK]
 | succ k ih=>rw [crcK,crcK,show 2 ^ (k + 1) * w = 2 ^ k * (2 * w) by rw [Nat.pow_succ,Nat.mul_assoc],ih,crcL_xor]
theorem crcK_table (x:Nat):crcK 8 x = crcK 8 (x % 256) ^^^ x / 256:=by
 have e:x = x % 256 ^^^ 2 ^ 8 * (x / 256):=by
  have hx:∀ i,(x % 256 ^^^ 2 ^ 8 * (x / 256)).testBit i = x.testBit i:=fun i=>by
   rw [Nat.testBit_xor,show (256:Nat) = 2 ^ 8 from rfl,Nat.testBit_mod_two_pow,Nat.mul_comm,Nat.testBit_mul_two_pow,Nat.testBit_div_two_pow]
   by_cases hi:i < 8
   ·simp [hi,show ¬ 8 ≤ i by omega]
   ·have:8 ≤ i:=by omega
    simp [hi,this]
  exact (Nat.eq_of_testBit_eq hx).symm
 conv=>lhs;rw [e]
 exact crcK_xor 8 _ _


def crcB (x b:Nat):Nat:=crcK 8 (x ^^^ b)
def crcF (l:List UInt8) (x:Nat):Nat:=l.foldl (fun x b=>crcB x b.toNat) x
def crcSum (l:List UInt8):Nat:=4294967295 - crcF l 4294967295
theorem crcF_app (l m:List UInt8) (x:Nat):crcF (l ++ m) x = crcF m (crcF l x):=by unfold crcF;rw [List.foldl_append]
theorem crcF_snoc (l:List UInt8) (k:Nat) (h:k < l.length) (x:Nat):crcF (l.take (k + 1)) x = crcB (crcF (l.take k) x) l[k].toNat:=by
 rw [List.take_succ_eq_append_getElem h,crcF_app];rfl
theorem xor_mod_256 (x b:Nat) (hb:b < 256):(x ^^^ b) % 256 = (x % 256) ^^^ b ∧ (x ^^^ b) / 256 = x / 256:=by
 refine ⟨?_,?_⟩
 ·rw [show (256:Nat) = 2 ^ 8 from rfl,Nat.xor_mod_two_pow,Nat.mod_eq_of_lt (a:=b) (by omega)]
 ·rw [show (256:Nat) = 2 ^ 8 from rfl,Nat.xor_div_two_pow,Nat.div_eq_of_lt (a:=b) (by omega),Nat.xor_zero]
theorem crcB_table (x b:Nat) (hb:b < 256):crcB x b = crcK 8 ((x % 256) ^^^ b) ^^^ x / 256:=by
 unfold crcB;rw [crcK_table,(xor_mod_256 x b hb).1,(xor_mod_256 x b hb).2]

def sumL (n:Nat):List UInt8:=[UInt8.ofNat n,UInt8.ofNat (n / 256),UInt8.ofNat (n / 65536),UInt8.ofNat (n / 16777216)]
theorem sumL_len (n:Nat):(sumL n).length = 4:=rfl
theorem crcSum_lt (l:List UInt8):crcSum l < 4294967296:=by unfold crcSum;omega
def textL (q:Nat) (b:List UInt8):List UInt8:=83 :: 103 :: (putL q ++ (putL b.length ++ b))
def frameL (q:Nat) (b:List UInt8):List UInt8:=textL q b ++ sumL (crcSum (textL q b))
theorem textL_len (q:Nat) (b:List UInt8):(textL q b).length = 2 + (putL q).length + (putL b.length).length + b.length:=by
 unfold textL;simp only [List.length_cons,List.length_append];omega
theorem frameL_len (q:Nat) (b:List UInt8):(frameL q b).length = 6 + (putL q).length + (putL b.length).length + b.length:=by
 unfold frameL;rw [List.length_append,textL_len,sumL_len];omega
theorem bytes_ext {a b:ByteArray} (h:a.data.toList = b.data.toList):a = b:=by
 obtain ⟨⟨x⟩⟩:=a;obtain ⟨⟨y⟩⟩:=b;simp at h;rw [h]
theorem put_any (n:Nat) (w:World) (h2:n < 18446744073709551616) :
  Calls Tryz.prog 26 #[.int .u64 n] w fun e w'=>e = .returned (.string ⟨(putL n).toArray⟩) ∧ Below w.heap.size w w':=by
 have hl:=Lib.hid (lim10 n h2)
 go_enter Tryz.func26,Tryz.ntmps26
 go_wp2
 go_loopw [0,4] (fun m i wr=>∃ k:Nat,∃ q:Nat,∃ cs:List UInt8,k ≤ 9 ∧ m = .int .u64 q ∧ i = .int .i64 k ∧ q < 18446744073709551616 ∧ q < lim (10 - k) ∧ cs.length = 10 ∧ cs.take k ++ putL q = putL n ∧
   Bytes wr w.heap.size cs ∧ Below w.heap.size w wr) (fun m i _=>(intOf m).toNat)
 case atStart =>
  exact ⟨0,n,List.replicate 10 0,by omega,rfl,rfl,h2,hl.out,rfl,rfl,Bytes.fresh w 111 10,(Below.refl _ _).alloc (Nat.le_refl _) _⟩
 case round =>
  obtain ⟨k,q,cs,hk,rfl,rfl,hq,hql,hcs,hput,hb,hbel⟩:=hrel
  have Hput:=Lib.hid hput;clear hput
  have Hcs:=Lib.hid hcs;clear hcs
  have Hq:=Lib.hid hq;clear hq
  have Hl:=Lib.hid hql;clear hql
  have H2:=Lib.hid h2;clear h2
  by_cases h:128 ≤ q
  ·obtain ⟨j,hj,hl2⟩:=lim_pred _ _ Hl.out h
   have Hj:=Lib.hid hj;clear hj
   have hk8:k ≤ 8:=by have:=Hj.out;omega
   have Hl2:=Lib.hid hl2;clear hl2
   obtain ⟨c,hck⟩:∃ c:Int,wr.cell? ⟨w.heap.size,k,none⟩ = some (.int .u8 c):=⟨_,hb.1 k (by have:=Hcs.out;omega)⟩
   have hfk:=hb.2 k (by have:=Hcs.out;omega)
   have Hb:=Lib.hid hb;clear hb
   go_wp2
   refine ⟨⟨k + 1,q / 128,cs.set k (UInt8.ofNat (q % 128 + 128)),by omega,by go_num,by go_num,?_,?_,?_,?_,?_,?_⟩,?_⟩
   ·have:=Hq.out;omega
   ·rw [show 10 - (k + 1) = j + 1 by have:=Hj.out;omega];exact Hl2.out
   ·simp [Hcs.out]
   ·rw [← Hput.out,putL_step q h (lim10 _ Hq.out),take_set_succ _ _ _ (by have:=Hcs.out;omega)];simp
   ·exact Hb.out.set k (by have:=Hcs.out;omega) _ _ (u8_or128' q)
   ·exact hbel.setCell (by simp) _
   ·simp [intOf];omega
  ·obtain ⟨c,hck⟩:∃ c:Int,wr.cell? ⟨w.heap.size,k,none⟩ = some (.int .u8 c):=⟨_,hb.1 k (by have:=Hcs.out;omega)⟩
   have hfk:=hb.2 k (by have:=Hcs.out;omega)
   have hsl:∀ w',(Instr.sliceAt 111 (.pointer (some ⟨w.heap.size,0,none⟩)) none (some (.int .i64 ((k:Int) + 1))) none).run Tryz.prog w' = .ok (.slice (some ⟨w.heap.size,0,none⟩) (k + 1) 10) w':=fun w'=>by
    rw [run_sliceAt_array_h w' 111 ⟨w.heap.size,0,none⟩ Tryz.underlying111 .i64 ((k:Int) + 1) (by omega) (by show (k:Int) + 1 ≤ 10;omega)]
    rfl
   have hcv:(convert 113 9 (.slice (some ⟨w.heap.size,0,none⟩) (k + 1) 10)).run Tryz.prog (wr.setCell ⟨w.heap.size,k,none⟩ (.int .u8 q)) = .ok (.string ⟨(putL n).toArray⟩) (wr.setCell ⟨w.heap.size,k,none⟩ (.int .u8 q)):=by
    have hb':=hb.set k (by have:=Hcs.out;omega) (UInt8.ofNat q) q (by simp;omega)
    have hln:(List.take (k + 1) (cs.set k (UInt8.ofNat q))).length = k + 1:=by simp [Hcs.out];omega
    have:=run_convert_bytes_back (P:=Tryz.prog) (wr.setCell ⟨w.heap.size,k,none⟩ (.int .u8 q)) 113 9 5 ⟨w.heap.size,0,none⟩ 10 (List.take (k + 1) (cs.set k (UInt8.ofNat q))) Tryz.underlying113 Tryz.underlying5 Tryz.underlying9 (fun j hj=>by
     have:=hb'.1 j (by simp [Hcs.out];omega)
     simp only [List.getElem_take]
     by_cases h0:j = 0
     ·subst h0;exact this
     ·simp [Addr.add,h0] at this ⊢;exact this)
    rw [hln] at this
    rw [this,← Hput.out,putL_last q (by omega),take_set_succ _ _ _ (by have:=Hcs.out;omega)]
   have Hb:=Lib.hid hb;clear hb
   go_wp2
   go_ret
   exact ⟨rfl,hbel.setCell (by simp) _⟩

end Go.Proofs.YtphfaekpckbepaaGreat

open Go Go.RowKit
set_option linter.unusedVariables false
namespace Go.Proofs.YtphfaekpckbepaaGreat
theorem xor_u32 (a b:Nat) (ha:a < 4294967296) (hb:b < 4294967296):bits BinOp.xor IntKind.u32 (a:Int) (b:Int) = ((a ^^^ b:Nat):Int):=by
 show IntKind.u32.wrap ((BitVec.ofInt 32 (a:Int) ^^^ BitVec.ofInt 32 (b:Int)).toNat:Int) = _
 have e:∀ n:Nat,BitVec.ofInt 32 (n:Int) = BitVec.ofNat 32 n:=fun n=>by apply BitVec.eq_of_toNat_eq;rw [BitVec.toNat_ofInt,BitVec.toNat_ofNat];omega
 rw [e,e,BitVec.toNat_xor,BitVec.toNat_ofNat,BitVec.toNat_ofNat,Nat.mod_eq_of_lt (by omega),Nat.mod_eq_of_lt (by omega),IntKind.wrap_u32]
 have:=Nat.xor_lt_two_pow (n:=32) (by omega:a < _) (by omega:b < _)
 omega
def tabL (k:Nat):List Value:=(List.range k).map fun i=>.int .u32 (crcK 8 i:Int)
def tab0:List Value:=List.replicate 256 (.int .u32 0)
theorem tab0_len:tab0.length = 256:=by unfold tab0;rw [List.length_replicate]
theorem tab_size:(Tryz.prog.info? 159).map (·.size) = some (tabL 256).length:=by kernel_rfl
theorem tab_one:(tabL 256).toArray.all (·.oneCell') = true:=all_oneCell_toArray (fun v hv=>by unfold tabL at hv;simp only [List.mem_map] at hv;obtain ⟨i,_,rfl⟩:=hv;rfl)
theorem and_u32_one (x:Nat) (h:x < 4294967296):bits BinOp.and IntKind.u32 (x:Int) 1 = ((x % 2:Nat):Int):=by
 show IntKind.u32.wrap ((BitVec.ofInt 32 (x:Int) &&& BitVec.ofInt 32 1).toNat:Int) = _
 have e:BitVec.ofInt 32 (x:Int) = BitVec.ofNat 32 x:=by apply BitVec.eq_of_toNat_eq;rw [BitVec.toNat_ofInt,BitVec.toNat_ofNat];omega
 have e1:BitVec.ofInt 32 1 = BitVec.ofNat 32 1:=rfl
 rw [e,e1,BitVec.toNat_and,BitVec.toNat_ofNat,BitVec.toNat_ofNat,Nat.mod_eq_of_lt (by omega),show 1 % 2 ^ 32 = 1 from rfl,Nat.and_one_is_mod,IntKind.wrap_u32]
 omega
theorem tab_zero (w:World):Sem.run Tryz.prog (zeroValue 159) w = .ok (.agg tab0.toArray) w:=by
 have h:(Tryz.prog.info? 159).map (·.zero) = some (some (.agg tab0.toArray)):=by kernel_rfl
 cases hq:Tryz.prog.info? 159 with
 | none=>simp [hq] at h
 | some i=>simp [hq] at h;simp [zeroValue,typeInfo,hq,h,Sem.run_bind]
theorem table_any (w:World) :
  Calls Tryz.prog 60 #[] w fun e w'=>e = .returned (.agg (tabL 256).toArray) ∧ Below w.heap.size w w':=by
 have hz:=tab_zero
 go_enter Tryz.func60,Tryz.ntmps60
 go_wp2_with fail
 go_loopw [2,3,4] (fun i x c wr=>∃ k:Nat,k ≤ 256 ∧ c = .int .i64 k ∧ Hid (Blk wr w.heap.size tab0 ∧ (∃ cs,cs.length = 256 ∧ cs.take k = tabL k ∧ Blk wr (w.heap.size + 1) cs) ∧ Below w.heap.size w wr)) (fun i x c _=>256 - (intOf c).toNat)
 case atStart =>
  exact ⟨0,by omega,rfl,⟨(Blk.mk w tab0 _ _ rfl).alloc _,⟨tab0,tab0_len,rfl,Blk.mk _ tab0 _ _ (by simp)⟩,((Below.refl _ _).alloc (Nat.le_refl _) _).alloc (by simp) _⟩⟩
 case round =>
  obtain ⟨k,hk,rfl,hr⟩:=hrel
  by_cases hlt:k < 256
  ·obtain ⟨hc0,⟨cs,hcl,hct,hc1⟩,hbel⟩:=hr.out
   obtain ⟨g1,g2⟩:=hc1.at k (by omega)
   generalize cs[k] = cv at g1
   have Hcl:=Lib.hid hcl;clear hcl
   have Hct:=Lib.hid hct;clear hct
   have H0:=Lib.hid hc0;clear hc0
   have H1:=Lib.hid hc1;clear hc1
   have Hb:=Lib.hid hbel;clear hbel hr
   have hkm:((k:Int) % 4294967296) = k:=by omega
   go_wp2_with fail
   go_loopw [3,9] (fun x c wi=>∃ j X:Nat,j ≤ 8 ∧ X < 4294967296 ∧ x = .int .u32 X ∧ c = .int .i64 j ∧ wi = wr ∧ Hid (X = crcK j k)) (fun x c _=>8 - (intOf c).toNat)
   case atStart=>exact ⟨0,k,by omega,by omega,rfl,rfl,rfl,rfl⟩
   case round =>
    obtain ⟨j,X,hj,hX,rfl,rfl,rfl,Hj⟩:=hrel
    by_cases hj2:j < 8
    ·by_cases ho:X % 2 = 1
     ·have ha:bits BinOp.and IntKind.u32 (X:Int) 1 = 1:=by rw [and_u32_one X hX];omega
      have HN:Hid (crcK (j + 1) k = X / 2 ^^^ 3988292384):=Lib.hid (by rw [crcK,← Hj.out,crcL,if_pos ho])
      clear ho
      go_wp2
      refine ⟨⟨j + 1,X / 2 ^^^ 3988292384,by omega,Nat.xor_lt_two_pow (n:=32) (by omega) (by omega),?_,by go_num,trivial,HN.out.symm⟩,by simp [intOf];omega⟩
      rw [show ((X:Int) / 2) = ((X / 2:Nat):Int) by omega];exact congrArg (Value.int .u32) (xor_u32 (X / 2) 3988292384 (by omega) (by omega))
     ·have ha:bits BinOp.and IntKind.u32 (X:Int) 1 = 0:=by rw [and_u32_one X hX];omega
      have HN:Hid (crcK (j + 1) k = X / 2):=Lib.hid (by rw [crcK,← Hj.out,crcL,if_neg ho])
      clear ho
      go_wp2
      refine ⟨⟨j + 1,X / 2,by omega,by omega,?_,by go_num,trivial,HN.out.symm⟩,by simp [intOf];omega⟩
      rw [show ((X:Int) / 2) = ((X / 2:Nat):Int) by omega];exact congrArg (Value.int .u32) ((xor_u32 (X / 2) 0 (by omega) (by omega)).trans (by rw [Nat.xor_zero]))
    ·obtain rfl:j = 8:=by omega
     go_wp2
     refine ⟨⟨k + 1,by omega,by go_num,H0.out.setFar (by omega),⟨cs.set k (.int .u32 X),by rw [List.length_set];exact Hcl.out,?_,H1.out.set k _⟩,Hb.out.setCell (by simp) _⟩,by simp [intOf];omega⟩
     rw [take_set_succ _ _ _ (by have:=Hcl.out;omega),Hct.out]
     unfold tabL
     rw [List.range_succ,List.map_append,Hj.out];rfl
  ·obtain rfl:k = 256:=by omega
   obtain ⟨hc0,⟨cs,hcl,hct,hc1⟩,hbel⟩:=hr.out
   rw [List.take_of_length_le (by omega)] at hct
   subst hct
   have hl:=hc1.range
   have ht:=hc0.there 256 (by rw [tab0_len];omega)
   clear hr
   go_wp2_with (first | (with_reducible refine wpList_load_mid rfl _ _ rfl _ _ rfl _ _ hl Tryz.underlying159 rfl tab_size ?_) | (with_reducible refine wpList_store_mid rfl _ _ _ rfl _ _ _ rfl rfl ht tab_size tab_one ?_))
   have hl2:=World.rangeAt_setCells_same wr w.heap.size 0 (tabL 256) (by rw [show (tabL 256).length = 256 from hcl];exact ht)
   refine bodyPost_ret (v:=.agg (tabL 256).toArray) ?_ rfl ⟨rfl,below_setCells hbel _ (Nat.le_refl _) _ _⟩
   have hL:=run_loadVar_mid (P:=Tryz.prog) _ _ 0 _ (tabL 256) _ hl2 Tryz.underlying159 rfl tab_size
   exact results_cell Tryz.results60 _ ⟨_,0,none⟩ rfl hL
def catL (l:List ByteArray):List UInt8:=l.flatMap (·.data.toList)
theorem catL_snoc (l:List ByteArray) (k:Nat) (h:k < l.length):catL (l.take (k + 1)) = catL (l.take k) ++ l[k].data.toList:=by
 unfold catL;rw [List.take_succ_eq_append_getElem h,List.flatMap_append];simp
def crcA (x:Nat) (l:List UInt8):Nat:=4294967295 - crcF l (4294967295 - x)
theorem crcA_zero (l:List UInt8):crcA 0 l = crcSum l:=rfl

theorem xor_u8 (a b:Nat) (ha:a < 256) (hb:b < 256):bits BinOp.xor IntKind.u8 (a:Int) (b:Int) = ((a ^^^ b:Nat):Int):=by
 show IntKind.u8.wrap ((BitVec.ofInt 8 (a:Int) ^^^ BitVec.ofInt 8 (b:Int)).toNat:Int) = _
 have e:∀ n:Nat,BitVec.ofInt 8 (n:Int) = BitVec.ofNat 8 n:=fun n=>by apply BitVec.eq_of_toNat_eq;rw [BitVec.toNat_ofInt,BitVec.toNat_ofNat];omega
 rw [e,e,BitVec.toNat_xor,BitVec.toNat_ofNat,BitVec.toNat_ofNat,Nat.mod_eq_of_lt (by omega),Nat.mod_eq_of_lt (by omega),IntKind.wrap_u8]
 have:=Nat.xor_lt_two_pow (n:=8) (by omega:a < _) (by omega:b < _)
 omega
theorem not_u32 (x:Nat) (h:x < 4294967296):bits BinOp.xor IntKind.u32 IntKind.u32.max (x:Int) = ((4294967295 - x:Nat):Int):=by
 have e:IntKind.u32.max = ((4294967295:Nat):Int):=by decide
 rw [e,xor_u32 _ _ (by omega) h,Nat.xor_comm]
 congr 1
 have h2:(BitVec.ofNat 32 x ^^^ BitVec.allOnes 32).toNat = (~~~ (BitVec.ofNat 32 x)).toNat:=by rw [BitVec.xor_allOnes]
 rw [BitVec.toNat_xor,BitVec.toNat_not,BitVec.toNat_ofNat,BitVec.toNat_allOnes,Nat.mod_eq_of_lt (by simpa using h)] at h2
 simpa using h2
theorem tabL_len (k:Nat):(tabL k).length = k:=by unfold tabL;rw [List.length_map,List.length_range]
theorem tabL_at (k i:Nat) (h:i < k):(tabL k)[i]? = some (.int .u32 (crcK 8 i:Int)):=by
 unfold tabL;rw [List.getElem?_map,List.getElem?_range h];rfl

theorem addAll_any (x cap:Nat) (a:Option Addr) (l:List ByteArray) (w:World) (hx:x < 4294967296) (hl:l.length ≤ 1000) (ha:StrsAt w a l) (hs:∀ s ∈ l,s.size ≤ maxLen) :
  Calls Tryz.prog 51 #[.agg #[.int .u32 x],.slice a l.length cap] w fun e w'=>e = .returned (.agg #[.int .u32 (crcA x (catL l):Int)]) ∧ Below w.heap.size w w':=by
 have hz:=tab_zero
 have Ha:=Lib.hid ha;clear ha
 have Hs:=Lib.hid hs;clear hs
 obtain ⟨m,hm⟩:∃ m,m = l.length:=⟨_,rfl⟩
 rw [← hm] at hl ⊢
 have Hm:=Lib.hid hm;clear hm
 go_enter Tryz.func51,Tryz.ntmps51
 go_wp2_with fail
 refine (table_any _).mono ?_
 rintro e w1 ⟨rfl,hb⟩
 obtain ⟨T,hT⟩:∃ T,T = tabL 256:=⟨_,rfl⟩
 obtain ⟨T0,hT0⟩:∃ T0,T0 = tab0:=⟨_,rfl⟩
 rw [← hT]
 rw [← hT0] at hz
 have hsz:=hb.size
 simp at hsz
 have c0:w1.cell? ⟨w.heap.size,0,none⟩ = some (.int .u32 x):=by rw [hb.cell (p:=⟨w.heap.size,0,none⟩) (by simp;omega)];simp
 have c1:Blk w1 (w.heap.size + 1) [.int .u32 0]:=(Blk.mk _ [.int .u32 0] _ _ (by simp)).below hb
 have HA1:Hid (StrsAt w1 a l):=Lib.hid (((Ha.out.below ((Below.refl _ _).alloc (Nat.le_refl _) _)).below ((Below.refl _ _).alloc (Nat.le_refl _) _)).below hb)
 have HB1:Hid (Below w.heap.size w w1):=Lib.hid (((((Below.refl _ _).alloc (Nat.le_refl _) _).alloc (by simp) _)).trans (hb.mono (by simp;omega)))
 have C1:=Lib.hid c1
 have hl0:T0.length = 256:=by rw [hT0];exact tab0_len
 have ht:(w1.alloc (.cells T0.toArray 159)).there w1.heap.size 0 256:=(Blk.mk w1 T0 159 _ rfl).there 256 (by rw [hl0];omega)
 have ht':∀ j,j < 256 → ((w1.alloc (.cells T0.toArray 159)).cell? ⟨w1.heap.size,j,none⟩).isSome = true ∧ (w1.alloc (.cells T0.toArray 159)).frozen? ⟨w1.heap.size,j,none⟩ = false:=fun j hj=>by have:=ht j hj;rw [Nat.zero_add] at this;exact this
 have hlen:T.length = 256:=by rw [hT];exact tabL_len 256
 have hst:Sem.run Tryz.prog (storeCells ⟨w1.heap.size,0,none⟩ T) (w1.alloc (.cells T0.toArray 159)) = .ok () ((w1.alloc (.cells T0.toArray 159)).setCells w1.heap.size 0 T):=by
  have:=run_storeCells_cells (P:=Tryz.prog) w1.heap.size 0 T 0 (w1.alloc (.cells T0.toArray 159)) (fun j hj=>by simp only [Nat.zero_add] at *;exact (ht' j (by omega)).1) (fun j hj=>by simp only [Nat.zero_add] at *;exact (ht' j (by omega)).2) (fun v hv=>by rw [hT] at hv;unfold tabL at hv;simp only [List.mem_map] at hv;obtain ⟨i,_,rfl⟩:=hv;rfl)
  exact this
 have hTT:Blk ((w1.alloc (.cells T0.toArray 159)).setCells w1.heap.size 0 T) w1.heap.size T:=(Blk.mk w1 T0 159 _ rfl).setCells (by omega)
 have hbx:((w1.alloc (.cells T0.toArray 159)).setCells w1.heap.size 0 T).cell? ⟨w.heap.size,0,none⟩ = some (.int .u32 x):=by
  rw [World.cell?_setCells_out _ _ _ _ _ (fun hb _=>absurd hb (by simp;omega)),World.cell?_alloc_past _ _ _ (by omega)];exact c0
 have hb2:Below w1.heap.size w1 ((w1.alloc (.cells T0.toArray 159)).setCells w1.heap.size 0 T):=below_setCells ((Below.refl _ _).alloc (Nat.le_refl _) _) _ (Nat.le_refl _) _ _
 obtain ⟨w2,hw2⟩:∃ w2,w2 = (w1.alloc (.cells T0.toArray 159)).setCells w1.heap.size 0 T:=⟨_,rfl⟩
 rw [← hw2] at hst hTT hbx hb2
 have HC2:=Lib.hid (C1.out.below hb2)
 have HA2:=Lib.hid (HA1.out.below hb2)
 have HB2:=Lib.hid (below_on HB1.out hb2)
 have HTT:=Lib.hid hTT
 have HT:=Lib.hid hT;clear hT
 clear hb c1 hT0 ht ht' hTT hb2 hw2 C1 HA1 HB1
 have hsg:IntKind.u32.signed = false:=rfl
 have hnx:=not_u32 x hx
 obtain ⟨y0,hy0⟩:∃ y0,y0 = 4294967295 - x:=⟨_,rfl⟩
 rw [← hy0] at hnx
 have hy0':y0 < 4294967296:=by omega
 have HY0:=Lib.hid hy0;clear hy0
 go_wp2_with fail
 obtain ⟨gt,hgt⟩:∃ gt,gt = w1.heap.size:=⟨_,rfl⟩
 rw [← hgt] at HTT ⊢
 clear hst hz hgt hl0 hlen hnx c0
 go_loopw [6,8,16] (fun xv pv iv wr=>∃ k y:Nat,k ≤ m ∧ y < 4294967296 ∧ iv = .int .i64 k ∧ xv = .int .u32 y ∧ wr = w2 ∧ Hid (y = crcF (catL (l.take k)) y0)) (fun _ _ iv _=>m - (intOf iv).toNat)
 case atStart=>exact ⟨0,y0,by omega,hy0',rfl,rfl,rfl,rfl⟩
 case round =>
  obtain ⟨k,y,hk,hy,rfl,rfl,rfl,Hy⟩:=hrel
  by_cases hlt:k < m
  ·obtain ⟨b,off,rfl,hcell⟩:=HA2.out k (by have:=Hm.out;omega)
   have hsl:=Hs.out _ (List.getElem_mem (by have:=Hm.out;omega:k < l.length))
   have hsn:=catL_snoc l k (by have:=Hm.out;omega)
   generalize l[k]'(by have:=Hm.out;omega) = s at hcell hsl hsn
   unfold maxLen at hsl
   have Hsn:=Lib.hid hsn;clear hsn
   go_wp2_with fail
   go_loopw [6,9,22] (fun xv iv cv wi=>∃ j z:Nat,j ≤ s.size ∧ z < 4294967296 ∧ cv = .int .i64 j ∧ xv = .int .u32 z ∧ wi = wr ∧ Hid (z = crcF (s.data.toList.take j) y)) (fun _ _ cv _=>s.size - (intOf cv).toNat)
   case atStart=>exact ⟨0,y,by omega,hy,rfl,rfl,rfl,rfl⟩
   case round =>
    obtain ⟨j,z,hj,hz,rfl,rfl,rfl,Hz⟩:=hrel
    by_cases hjl:j < s.size
    ·obtain ⟨c,hc⟩:∃ c:Nat,c = s[j].toNat:=⟨_,rfl⟩
     have hc2:c < 256:=by rw [hc];exact s[j].toNat_lt
     obtain ⟨i,hi⟩:∃ i:Nat,i = (z % 256) ^^^ c:=⟨_,rfl⟩
     have hi2:i < 256:=by rw [hi];exact Nat.xor_lt_two_pow (n:=8) (by omega) hc2
     have hidx:bits BinOp.xor IntKind.u8 ((z:Int) % 256) (s[j].toNat:Int) = (i:Int):=by
      rw [show ((z:Int) % 256) = ((z % 256:Nat):Int) by omega,← hc,xor_u8 _ _ (by omega) hc2,hi]
     have htc:wr.cell? ⟨gt,i,none⟩ = some (.int .u32 (crcK 8 i:Int)):=(HTT.out i _ (by rw [HT.out];exact tabL_at 256 i hi2)).1
     have hq:=crcK_lt 8 i (by omega)
     have hnew:crcB z c = crcK 8 i ^^^ z / 256:=by rw [crcB_table z c hc2,hi]
     generalize crcK 8 i = q at htc hq hnew
     have Hnew:=Lib.hid hnew;clear hnew hi
     have Hc:=Lib.hid hc;clear hc
     go_wp2
     refine ⟨⟨j + 1,z / 256 ^^^ q,by omega,Nat.xor_lt_two_pow (n:=32) (by omega) (by omega),by go_num,?_,trivial,?_⟩,by simp [intOf];omega⟩
     ·rw [show ((z:Int) / 256) = ((z / 256:Nat):Int) by omega];exact congrArg (Value.int .u32) (xor_u32 (z / 256) q (by omega) hq)
     ·show _ = _
      rw [crcF_snoc _ j (by simpa using hjl),← Hz.out]
      have:=Hc.out
      rw [Nat.xor_comm,← Hnew.out,this];rfl
    ·obtain rfl:j = s.size:=by omega
     go_wp2
     refine ⟨⟨k + 1,z,by omega,hz,by go_num,rfl,trivial,?_⟩,by simp [intOf];omega⟩
     show z = _
     rw [Hsn.out,crcF_app,← Hy.out,Hz.out,List.take_of_length_le (by simp)]
  ·obtain rfl:k = m:=by omega
   obtain ⟨d1,d2⟩:=HC2.out.at 0 (by simp)
   have hny:=not_u32 y hy
   have hres:4294967295 - y = crcA x (catL l):=by
    unfold crcA
    rw [Hy.out,HY0.out,Hm.out,List.take_length]
   have Hres:=Lib.hid hres;clear hres
   go_wp2
   refine bodyPost_ret (v:=.agg #[.int .u32 ((4294967295 - y:Nat):Int)]) ?_ rfl ⟨by rw [Hres.out],HB2.out.setCell (by simp) _⟩
   simp [results,Tryz.results51,go_sem,d1]

theorem strs_one {w:World} {b:Nat} {s:ByteArray} (h:w.cell? ⟨b,0,none⟩ = some (.string s)):StrsAt w (some ⟨b,0,none⟩) [s]:=fun i hi=>by
 obtain rfl:i = 0:=by simpa using hi
 exact ⟨b,0,rfl,h⟩
theorem catL_one (s:ByteArray):catL [s] = s.data.toList:=by simp [catL]
theorem sum_any (x:Nat) (w:World):Calls Tryz.prog 52 #[.agg #[.int .u32 x]] w fun e w'=>e = .returned (.int .u32 x) ∧ Below w.heap.size w w':=by
 go_enter Tryz.func52,Tryz.ntmps52
 go_wp2
 go_ret
 exact ⟨rfl,(Below.refl _ _).alloc (Nat.le_refl _) _⟩
theorem of_any (cap:Nat) (a:Option Addr) (l:List ByteArray) (w:World) (hl:l.length ≤ 1000) (ha:StrsAt w a l) (hs:∀ s ∈ l,s.size ≤ maxLen) :
  Calls Tryz.prog 38 #[.slice a l.length cap] w fun e w'=>e = .returned (.int .u32 (crcSum (catL l):Int)) ∧ Below w.heap.size w w':=by
 obtain ⟨m,hm⟩:∃ m,m = l.length:=⟨_,rfl⟩
 rw [← hm] at hl ⊢
 have Hm:=Lib.hid hm;clear hm
 go_enter Tryz.func38,Tryz.ntmps38
 go_wp2_with fail
 rw [Hm.out]
 refine (addAll_any 0 cap a l _ (by omega) (by rw [← Hm.out];exact hl) ha hs).mono ?_
 rintro e w1 ⟨rfl,hb⟩
 rw [crcA_zero]
 have hb2:=Lib.hid hb;clear hb
 go_wp2_with fail
 refine (sum_any _ _).mono ?_
 rintro e w2 ⟨rfl,hb3⟩
 go_wp2
 go_ret
 exact ⟨rfl,below_on hb2.out hb3⟩
theorem of1_any (cap b:Nat) (s:ByteArray) (w:World) (h:w.cell? ⟨b,0,none⟩ = some (.string s)) (hs:s.size ≤ maxLen) :
  Calls Tryz.prog 38 #[.slice (some ⟨b,0,none⟩) 1 cap] w fun e w'=>e = .returned (.int .u32 (crcSum s.data.toList:Int)) ∧ Below w.heap.size w w':=by
 have:=of_any cap (some ⟨b,0,none⟩) [s] w (by simp) (strs_one h) (by simpa using hs)
 rw [catL_one] at this
 exact this
theorem sum_byte (n k:Nat) (hk:k < 4):(sumL n)[k]'(by rw [sumL_len];exact hk) = UInt8.ofNat (n / 2 ^ (8 * k)):=by
 match k,hk with
 | 0,_=>simp [sumL]
 | 1,_=>simp [sumL]
 | 2,_=>simp [sumL]
 | 3,_=>simp [sumL]
theorem sum_step {w wr:World} {n k g:Nat} {cs:List UInt8} {v:Int} (h:cs.length = 4 ∧ cs.take k = (sumL n).take k ∧ Bytes wr g cs ∧ Below w.heap.size w wr) (hk:k < 4) (hg:w.heap.size ≤ g)
  (hv:v = ((UInt8.ofNat (n / 2 ^ (8 * k))).toNat:Int)) :
  (cs.set k (UInt8.ofNat (n / 2 ^ (8 * k)))).length = 4 ∧ (cs.set k (UInt8.ofNat (n / 2 ^ (8 * k)))).take (k + 1) = (sumL n).take (k + 1) ∧ Bytes (wr.setCell ⟨g,k,none⟩ (.int .u8 v)) g (cs.set k (UInt8.ofNat (n / 2 ^ (8 * k)))) ∧ Below w.heap.size w (wr.setCell ⟨g,k,none⟩ (.int .u8 v)):=by
 obtain ⟨h1,h2,h3,h4⟩:=h
 refine ⟨by simp [h1],?_,h3.set k (by omega) _ _ hv,h4.setCell hg _⟩
 rw [take_set_succ _ _ _ (by omega),h2,List.take_succ_eq_append_getElem (by rw [sumL_len];exact hk),sum_byte n k hk]
theorem sumb_any (t:ByteArray) (w:World) (ht:t.size ≤ maxLen) :
  Calls Tryz.prog 27 #[.string t] w fun e w'=>e = .returned (.string ⟨(sumL (crcSum t.data.toList)).toArray⟩) ∧ Below w.heap.size w w':=by
 have hlt:=crcSum_lt t.data.toList
 obtain ⟨n,hn⟩:∃ n,n = crcSum t.data.toList:=⟨_,rfl⟩
 rw [← hn] at hlt ⊢
 have Hn:=Lib.hid hn;clear hn
 obtain ⟨l,hl⟩:∃ l,l = sumL n:=⟨_,rfl⟩
 rw [← hl]
 have Hl:=Lib.hid hl;clear hl
 go_enter Tryz.func27,Tryz.ntmps27
 go_wp2_with fail
 refine (of1_any 1 w.heap.size t _ (by simp) ht).mono ?_
 rintro e w1 ⟨rfl,hb⟩
 rw [← Hn.out]
 have Hb:=Lib.hid (((Below.refl _ _).alloc (Nat.le_refl _) _).trans (hb.mono (by simp)));clear hb
 go_wp2_with fail
 go_loopw [5,9] (fun _ i wr=>∃ k:Nat,∃ cs:List UInt8,k ≤ 4 ∧ i = .int .i64 k ∧ Hid (cs.length = 4 ∧ cs.take k = (sumL n).take k ∧ Bytes wr w1.heap.size cs ∧ Below w.heap.size w wr)) (fun _ i _=>4 - (intOf i).toNat)
 case atStart=>exact ⟨0,List.replicate 4 0,by omega,rfl,rfl,rfl,Bytes.fresh w1 116 4,Hb.out.alloc Hb.out.size _⟩
 case round =>
  obtain ⟨k,cs,hk,rfl,hr⟩:=hrel
  by_cases hlt4:k < 4
  ·obtain ⟨h1,h2,h3,h4⟩:=hr.out
   have hck:(wr.cell? ⟨w1.heap.size,k,none⟩) = some (.int .u8 (cs[k].toNat:Int)):=h3.1 k (by omega)
   have hfk:=h3.2 k (by omega)
   generalize (cs[k].toNat:Int) = c at hck
   clear h1 h2 h3 h4
   have hx:k = 0 ∨ k = 1 ∨ k = 2 ∨ k = 3:=by omega
   have hsz:w.heap.size ≤ w1.heap.size:=Hb.out.size
   rcases hx with rfl | rfl | rfl | rfl
   all_goals
    go_wp2
    refine ⟨⟨_,_,?_,?_,Lib.hid (sum_step hr.out (by omega) hsz ?_)⟩,?_⟩
    ·omega
    ·go_num
    ·simp;try omega
    ·simp [intOf]
  ·obtain rfl:k = 4:=by omega
   obtain ⟨h1,h2,h3,h4⟩:=hr.out
   have hsl:∀ w',(Instr.sliceAt 116 (.pointer (some ⟨w1.heap.size,0,none⟩)) none none none).run Tryz.prog w' = .ok (.slice (some ⟨w1.heap.size,0,none⟩) 4 4) w':=fun w'=>by
    rw [run_sliceAt_array_all w' 116 ⟨w1.heap.size,0,none⟩ Tryz.underlying116]
    rfl
   have hcs:cs = l:=by rw [Hl.out];rw [List.take_of_length_le (by omega),List.take_of_length_le (by rw [sumL_len];omega)] at h2;exact h2
   rw [hcs] at h3
   have hcv:=conv_back (P:=Tryz.prog) (n:=4) (cap:=4) h3 (by rw [Hl.out];rfl) 113 9 5 Tryz.underlying113 Tryz.underlying5 Tryz.underlying9
   clear h1 h2 h3 hcs
   have H4:=Lib.hid h4;clear h4 hr
   go_wp2
   go_ret
   exact ⟨rfl,H4.out⟩
theorem size_list (s:ByteArray):s.size = s.data.toList.length:=by simp
theorem app_list (a b:ByteArray):(a ++ b).data.toList = a.data.toList ++ b.data.toList:=by simp
theorem ret_pair {a a':ByteArray} {k k':Int} (h:a = a') (h2:k = k'):Ending.returned (.tuple #[.string a,.int .i64 k]) = .returned (.tuple #[.string a',.int .i64 k']):=by rw [h,h2]
theorem frame_any (q:Nat) (b:ByteArray) (w:World) (hq:q < 18446744073709551616) (hb:b.size ≤ 4096) :
  Calls Tryz.prog 14 #[.int .u64 q,.string b] w fun e w'=>e = .returned (.tuple #[.string ⟨(frameL q b.data.toList).toArray⟩,.int .i64 0]) ∧ Below w.heap.size w w':=by
 have hpl:=putL_len q
 have hpl2:=putL_len b.size
 have Hq:=Lib.hid hq
 have hbl:b.data.toList.length = b.size:=by simp
 have Hbl:=Lib.hid hbl;clear hbl
 go_enter Tryz.func14,Tryz.ntmps14
 go_wp2_with fail
 refine (put_any q _ Hq.out).mono ?_
 rintro e w1 ⟨rfl,hb1⟩
 have Hb1:=Lib.hid hb1;clear hb1
 go_wp2_with fail
 refine (put_any b.size _ (by omega)).mono ?_
 rintro e w2 ⟨rfl,hb2⟩
 have Hb2:=Lib.hid (below_on Hb1.out hb2);clear hb2 Hb1
 obtain ⟨P1,hP1⟩:∃ P1,P1 = putL q:=⟨_,rfl⟩
 obtain ⟨P2,hP2⟩:∃ P2,P2 = putL b.size:=⟨_,rfl⟩
 rw [← hP1] at hpl ⊢
 rw [← hP2] at hpl2 ⊢
 have HP:=Lib.hid (And.intro hP1 hP2);clear hP1 hP2
 obtain ⟨T,hT⟩:∃ T,T = ByteArray.mk #[83,103] ++ ByteArray.mk P1.toArray ++ ByteArray.mk P2.toArray ++ b:=⟨_,rfl⟩
 have hTl:T.data.toList = textL q b.data.toList:=by
  obtain ⟨e1,e2⟩:=HP.out
  rw [hT,app_list,app_list,app_list,textL,Hbl.out,e1,e2];simp
 have hTs:T.size ≤ 10000:=by
  have e:T.size = T.data.toList.length:=by simp
  rw [e,hTl,textL_len,Hbl.out]
  have:=putL_len q;have:=putL_len b.size
  omega
 have HT:=Lib.hid hT
 have HTl:=Lib.hid hTl;clear hTl
 go_wp2_with fail
 rw [← HT.out]
 refine (sumb_any T _ (by unfold maxLen;omega)).mono ?_
 rintro e w3 ⟨rfl,hb3⟩
 rw [HTl.out]
 have Hb3:=Lib.hid (below_on Hb2.out hb3);clear hb3 Hb2 hT
 have hfin:T ++ ByteArray.mk (sumL (crcSum (textL q b.data.toList))).toArray = ByteArray.mk (frameL q b.data.toList).toArray:=by
  apply bytes_ext;rw [app_list,HTl.out];simp [frameL]
 have HF:=Lib.hid hfin;clear hfin
 have hSL:=sumL_len (crcSum (textL q b.data.toList))
 generalize sumL (crcSum (textL q b.data.toList)) = SL at HF hSL ⊢
 go_wp2
 go_ret2
 exact ⟨ret_pair HF.out rfl,Hb3.out⟩
theorem num_int {r:Rec} (h:Rec.ok r):((r.2:Int) * 4 + (r.1 - 1)) = (r.num:Int):=by unfold Rec.num;obtain ⟨h1,h2,h3⟩:=h;omega
theorem bytes1_any (k:Int) (n:Nat) (w:World) (h:Rec.ok (k,n)) :
  Calls Tryz.prog 15 #[.agg #[.int .i64 k,.int .u64 (n:Int)]] w fun e w'=>e = .returned (.string ⟨(putL (Rec.num (k,n))).toArray⟩) ∧ Below w.heap.size w w':=by
 have hnum:=num_int h
 have hlt:=Rec.num_lt h
 obtain ⟨h1,h2,h3⟩:=h
 simp only at h1 h2 h3 hnum
 have h4:(n:Int) ≤ 4611686018427387903:=by omega
 have Hn:=Lib.hid hnum;clear hnum h3
 have Hl:=Lib.hid hlt;clear hlt
 go_enter Tryz.func15,Tryz.ntmps15
 go_wp2_with fail
 rw [Hn.out]
 refine (put_any _ _ Hl.out).mono ?_
 rintro e w' ⟨rfl,hb⟩
 have Hb:=Lib.hid hb;clear hb
 go_wp2
 go_ret
 exact ⟨rfl,below_on ((Below.refl _ _).alloc (Nat.le_refl _) _) Hb.out⟩
theorem awake_bytes:putL (Rec.num (1,3)) = [12]:=by decide +kernel
theorem live_b:(frameL 0 []).length = 8:=by rw [frameL_len];rfl
theorem live_any (w:World):Calls Tryz.prog 6 #[] w fun e w'=>e = .returned (.bool true) ∧ Below w.heap.size w w':=by
 have h8:=live_b
 obtain ⟨F,hF⟩:∃ F,F = ByteArray.mk (frameL 0 []).toArray:=⟨_,rfl⟩
 have hFs:F.size = 8:=by rw [hF,size_list];exact h8
 have HF:=Lib.hid hF;clear hF h8
 go_enter Tryz.func6,Tryz.ntmps6
 go_wp2_with fail
 refine (frame_any 0 ⟨#[]⟩ _ (by omega) (by decide)).mono ?_
 rintro e w1 ⟨rfl,hb1⟩
 rw [show (ByteArray.mk #[]).data.toList = [] from rfl,← HF.out]
 have Hb1:=Lib.hid hb1;clear hb1
 go_wp2_with fail
 refine (bytes1_any 1 3 _ (by decide)).mono ?_
 rintro e w2 ⟨rfl,hb2⟩
 rw [awake_bytes]
 have Hb2:=Lib.hid (below_on Hb1.out hb2);clear hb2
 go_wp2
 go_ret
 exact ⟨rfl,Hb2.out⟩
theorem nums_of {w:World} {a:Option Addr} {len cap:Nat} {zs:List Int} (h:IsRow .u64 w a len cap zs) :
  ∃ l:List Nat,l.length = len ∧ len ≤ cap ∧ CellsAt w a (numc l) ∧ (∀ n ∈ l,n < 18446744073709551616) ∧ (a = none → len = 0 ∧ cap = 0):=by
 have h0:a = none → len = 0 ∧ cap = 0:=by
  intro ha
  rcases h with ⟨_,h1,h2,_⟩ | ⟨x,h1,_⟩
  ·exact ⟨h1,h2⟩
  ·rw [ha] at h1;cases h1
 obtain ⟨h1,h2,h3,h4⟩:=h.cells
 refine ⟨(zs.take len).map Int.toNat,by rw [List.length_map];exact h3,h1,fun j v hj=>?_,fun n hn=>?_,h0⟩
 ·have hl:j < (zs.take len).length:=by have:=(List.getElem?_eq_some_iff.1 hj).1;simpa [numc] using this
  obtain ⟨b,off,h5,h6,h7⟩:=h4 j hl
  have b1:=bounds_u64 h7
  have e:(numc ((zs.take len).map Int.toNat))[j]? = some (.int .u64 (((zs.take len)[j].toNat:Nat):Int)):=by
   unfold numc;rw [List.map_map,List.getElem?_map,List.getElem?_eq_getElem hl];rfl
  rw [e] at hj
  cases hj
  exact ⟨b,off,h5,by rw [h6,Int.toNat_of_nonneg b1.1]⟩
 ·obtain ⟨z,hz,rfl⟩:=List.mem_map.1 hn
  obtain ⟨i,hi,rfl⟩:=List.mem_iff_getElem.1 hz
  obtain ⟨_,_,_,_,h7⟩:=h4 i hi
  have b1:=bounds_u64 h7
  omega
end Go.Proofs.YtphfaekpckbepaaGreat
open Go Go.RowKit
set_option linter.unusedVariables false
namespace Go.Proofs.YtphfaekpckbepaaGreat.shunterSum
theorem mk_app (l m:List In4):i4s (l ++ m) = i4s l ++ i4s m:=by unfold i4s;rw [List.flatMap_append]
theorem mk_cells {w:World} {b:Nat} {cs:List Value} (h:Blk w b cs):CellsAt w (some ⟨b,0,none⟩) cs:=fun j v hj=>⟨b,0,rfl,by rw [Nat.zero_add];exact (h j v hj).1⟩
theorem mk_ins:(Tryz.prog.info? 29).map (fun i=>(i.zero,i.size,i.bytes)) = some (some (.agg #[.int .i64 0,.int .i64 0,.int .i64 0,.int .i64 0]),4,32):=by kernel_rfl
theorem smHead_app:∀ (l m:List Int),smHead (l ++ m) = smHead l ++ smHead m
 | [],m=>rfl
 | v :: t,m=>by simp only [List.cons_append,smHead,smHead_app t m]
theorem smTail_snoc:∀ n,smTail (n + 1) = smTail n ++ [(14,0,3,4),(3,5,5,3)]
 | 0=>rfl
 | n + 1=>congrArg (fun l=>((14:Int),(0:Int),(3:Int),(4:Int)) :: (3,5,5,3) :: l) (smTail_snoc n)
theorem iSum_take {vs:List Int} {i:Nat} {v:Int} (h:vs[i]? = some v):iSum iId (vs.take (i + 1)) = iSum iId (vs.take i) + v:=by
 rw [List.take_add_one,h,iSum_app]
 simp [iSum,iId]
theorem iSum_bd:∀ (l:List Int),(∀ v ∈ l,-1000000 ≤ v ∧ v ≤ 1000000) → -(1000000 * (l.length:Int)) ≤ iSum iId l ∧ iSum iId l ≤ 1000000 * (l.length:Int)
 | [],_=>by simp [iSum]
 | v :: t,h=>by
  have h1:=iSum_bd t (fun x hx=>h x (List.mem_cons_of_mem _ hx))
  have h2:=h v (List.mem_cons_self ..)
  simp only [iSum,iId,List.length_cons]
  omega
theorem sm_prog {w:World} {a:Option Addr} {cap c1 cf ch M:Nat} {vs:List Int} {room:Int} (h0:CellsAt w a (i4s (smMain vs))) (hn:a = none → cap = 0) (h1:CellsAt w (some ⟨c1,0,none⟩) (i4s smChild))
  (hf:CellsAt w (some ⟨cf,0,none⟩) [.slice a M cap,.slice (some ⟨c1,0,none⟩) 2 2]) (hM:M = 4 * vs.length + 2) (hc:CellsAt w (some ⟨ch,0,none⟩) [.int .i64 room]) (hN:vs.length ≤ 40) :
  ProgIn w (some ⟨cf,0,none⟩) [(a,cap),(some ⟨c1,0,none⟩,2)] (smFs vs) (some ⟨ch,0,none⟩) [room] none 0 []:=by
 have e:(smMain vs).length = 4 * vs.length + 2:=by unfold smMain;rw [List.length_append,List.length_append,smHead_len,smTail_len];simp [smEnd];omega
 refine ⟨?_,rfl,fun i r l hr hl=>?_,hc,CellsAt.nil _ _,fun _=>rfl,by decide,by show 2 ≤ 1000;omega,by show 1 ≤ 1000;omega⟩
 ·show CellsAt w _ [.slice a (smMain vs).length cap,.slice (some ⟨c1,0,none⟩) smChild.length 2]
  rw [e,← hM];exact hf
 ·match i with
  | 0=>simp [smFs] at hr hl;subst hr hl;exact ⟨h0,hn,by omega⟩
  | 1=>simp [smFs] at hr hl;subst hr hl;exact ⟨h1,(fun h=>by cases h),by decide⟩
  | i + 2=>simp at hr
theorem walk (a0:Option Addr) (len0 cap0:Nat) (z0:List Int) (a1:Int) (p m r s:Int) (a3:Option Addr) (len3 cap3:Nat) (z3:List Int) (w:World) (w0:IsRow .i64 w a0 len0 cap0 z0) (w1:(Lit.int .i64 a1).wf = true) (wp:(Lit.int .i64 p).wf = true) (wm:(Lit.int .i64 m).wf = true) (wr:(Lit.int .i64 r).wf = true) (ws:(Lit.int .i64 s).wf = true) (w3:IsRow .u64 w a3 len3 cap3 z3) :
  Calls Tryz.prog 3 #[.slice a0 len0 cap0,.int .i64 a1,.agg #[.int .i64 p,.int .i64 m,.int .i64 r,.int .i64 s],.slice a3 len3 cap3] w fun e w'=>e = .returned (.bool true) ∧ Below w.heap.size w w':=by
 obtain ⟨a,ha⟩:=smC_of p 5 (by omega) (by omega)
 obtain ⟨b,hb⟩:=smC_of m 5 (by omega) (by omega)
 obtain ⟨c,hc⟩:=smC_of r 5 (by omega) (by omega)
 obtain ⟨d,hd⟩:=smC_of s 12 (by omega) (by omega)
 obtain ⟨np,hnp⟩:∃ np:Nat,1 + (a:Int) = (np:Int):=⟨1 + a,by omega⟩
 obtain ⟨nm,hnm⟩:∃ nm:Nat,1 + (b:Int) = (nm:Int):=⟨1 + b,by omega⟩
 have KS:Hid (∀ wx,Calls Tryz.prog 8 #[.agg #[.int .i64 p,.int .i64 m,.int .i64 r,.int .i64 s]] wx fun e w'=>e = .returned (.agg #[.int .i64 (np:Int),.int .i64 (nm:Int),.int .i64 (2 + (c:Int)),.int .i64 (1 + (d:Int))]) ∧ Below wx.heap.size wx w'):=Lib.hid (fun wx=>by
  have h:=some18_any wx p m r s a b c d ha hb hc hd
  rw [hnp,hnm] at h
  exact h)
 have ha5:=ha.2.2.2
 have hb5:=hb.2.2.2
 have hd5:=hd.2.2.2.1
 have HCD:Hid ((1 ≤ np ∧ np ≤ 64) ∧ (1 ≤ nm ∧ nm ≤ 64) ∧ d < 12):=Lib.hid ⟨by omega,by omega,hd5⟩
 obtain ⟨rm,hrm',hrm2,-⟩:=small_of a1 5 (by omega)
 have hrm:(bits BinOp.and IntKind.i64 a1 255).tmod 5 = (rm:Int):=hrm'
 obtain ⟨hl0,hm0',hz0',hcz⟩:=w0.cells
 obtain ⟨n,hn⟩:∃ n:Nat,n = min len0 12:=⟨_,rfl⟩
 have hnif:(if 12 < (len0:Int) then (12:Int) else (len0:Int)) = (n:Int):=by split <;> omega
 have hn12:n ≤ 12:=by omega
 have hnl0:n ≤ len0:=by omega
 generalize hvs:((z0.take len0).take n).map (fun z=>z.tmod 1000000) = vs at *
 have hvl:vs.length = n:=by rw [← hvs,List.length_map,List.length_take,hz0'];omega
 have HVC:Hid (∀ i,i < n → ∃ (z v:Int) (b off:Nat),a0 = some ⟨b,off,none⟩ ∧ w.cell? ⟨b,off + i,none⟩ = some (.int .i64 z) ∧ z.tmod 1000000 = v ∧ vs[i]? = some v):=Lib.hid (fun i hi=>by
  have hil:i < (z0.take len0).length:=by rw [hz0'];omega
  obtain ⟨b,off,h1,h2,-⟩:=hcz i hil
  refine ⟨_,_,b,off,h1,h2,rfl,?_⟩
  rw [← hvs,List.getElem?_map,List.getElem?_take,if_pos hi,List.getElem?_eq_getElem hil]
  rfl)
 have HVB:Hid (∀ v ∈ vs,-1000000 ≤ v ∧ v ≤ 1000000):=Lib.hid (fun v hv=>by
  rw [← hvs] at hv
  obtain ⟨z,-,rfl⟩:=List.mem_map.1 hv
  have h1:=Int.tmod_lt_of_pos z (show (0:Int) < 1000000 by omega)
  have h2:=Int.lt_tmod_of_pos z (show (0:Int) < 1000000 by omega)
  omega)
 obtain ⟨l,rfl,hlc,hcl,hlu,hn0⟩:=nums_of w3
 obtain ⟨k,hk⟩:∃ k:Nat,k = min l.length 1000:=⟨_,rfl⟩
 have hkif:(if 1000 < (l.length:Int) then (1000:Int) else (l.length:Int)) = (k:Int):=by split <;> omega
 have hkl:k ≤ l.length:=by omega
 have hk1:k ≤ 1000:=by omega
 have hNl:(l.take k).length = k:=by rw [List.length_take];omega
 have hNc:CellsAt w a3 (numc (l.take k)):=fun j v hj=>by
  refine hcl j v ?_
  unfold numc at hj ⊢
  rw [List.getElem?_map,List.getElem?_take] at hj
  rw [List.getElem?_map]
  split at hj
  ·exact hj
  ·simp at hj
 have hNu:∀ y ∈ l.take k,y < 18446744073709551616:=fun y hy=>hlu y (List.mem_of_mem_take hy)
 have hsl:=fun w=>slice_head (P:=Tryz.prog) (t:=25) w Tryz.underlying25 (fun w=>by first | rfl | kernel_rfl) a3 l.length cap3 k (by omega)
 have hm0:a3 = none → k = 0 ∧ cap3 = 0:=fun h=>by obtain ⟨h1,h2⟩:=hn0 h;omega
 generalize hNN:l.take k = nums at *
 have HNS:Hid (CellsAt w a3 (numc nums) ∧ nums.length = k ∧ (∀ y ∈ nums,y < 18446744073709551616) ∧ (a3 = none → k = 0 ∧ cap3 = 0) ∧ k ≤ 1000):=Lib.hid ⟨hNc,hNl,hNu,hm0,hk1⟩
 obtain ⟨nl,hnl⟩:∃ nl,nl = l.length:=⟨_,rfl⟩
 rw [← hnl] at hkif hsl hkl hlc ⊢
 have HSL:=Lib.hid (And.intro hsl hkif)
 have HVL:=Lib.hid hvl
 clear hrm' w0 w1 wp wm wr ws ha hb hc hd ha5 hb5 hd5 hNc hNl hNu hm0 hNN hcl hlu hn0 w3 hk hnl hsl hkif hnp hnm hkl hk1 hvs hcz hm0' hz0' hn hvl
 obtain ⟨i0,hi0,hz0,hz1,hz2⟩:=info_parts mk_ins
 have Hi:=Lib.hid hi0;clear hi0
 have Hz0:=Lib.hid hz0;clear hz0
 have Hz1:=Lib.hid hz1;clear hz1
 have Hz2:=Lib.hid hz2;clear hz2
 go_enter Tryz.func3,Tryz.ntmps3
 go_upto_region 1 with fail
 have o0:Own w (w.alloc (.cells #[.int .i64 p,.int .i64 m,.int .i64 r,.int .i64 s] 24)) [CelA w.heap.size [.int .i64 p,.int .i64 m,.int .i64 r,.int .i64 s]]:=by
  have h:=(Own.nil (Below.refl _ w)).alloc [.int .i64 p,.int .i64 m,.int .i64 r,.int .i64 s] 24 (b:=w.heap.size) rfl
  exact h
 generalize (w.alloc (.cells #[.int .i64 p,.int .i64 m,.int .i64 r,.int .i64 s] 24)) = wa at *
 generalize hq:w.heap.size = q at *
 have HQ:=Lib.hid hq
 have O1:=Lib.hid o0
 clear hq o0
 go_upto_region 2 with fail
 try rw [hnif]
 clear hnif
 go_upto_region 4 with fail
 have ho0:=(O1.out.add (below_alloc1 wa (.cells #[] 29)) (A:=RowGA 4 (some ⟨wa.heap.size,0,none⟩) 0 0 []) (F:=[wa.heap.size]) ⟨rfl,RowG.zero (by simp)⟩ (by intro x hx;simp at hx;omega))
 have HO:=Lib.hid ho0;clear ho0
 go_wp2_with fail
 go_loopw [10,11,22] (fun sv tv iv wr=>∃ i:Nat,∃ ra cap,i ≤ n ∧ iv = .int .i64 i ∧ sv = .slice ra (2 * i) cap ∧ tv = .int .i64 (iSum iId (vs.take i)) ∧ Hid (Own w wr [RowGA 4 ra cap (2 * i) (i4s (smHead (vs.take i))),CelA q [.int .i64 p,.int .i64 m,.int .i64 r,.int .i64 s]])) (fun _ _ iv _=>n - (intOf iv).toNat)
 case atStart=>exact ⟨0,some ⟨wa.heap.size,0,none⟩,0,by omega,rfl,rfl,(by rw [List.take_zero];rfl),Lib.hid (by rw [List.take_zero];exact HO.out)⟩
 case round =>
  obtain ⟨i,ra,cap,hi,rfl,rfl,rfl,hr⟩:=hrel
  by_cases hlt:i < n
  ·have hlt2:(i:Int) < (n:Int):=by omega
   have hi0:(0:Int) ≤ (i:Int):=by omega
   have hlt3:(i:Int) < (len0:Int):=by omega
   obtain ⟨z,v,gb,off,rfl,hz,hzv,hvi⟩:=HVC.out i hlt
   have hz1:=cell_below hz hr.out.bel
   have hvb:=HVB.out v (List.mem_of_getElem? hvi)
   have hsb:=iSum_bd (vs.take i) (fun x hx=>HVB.out x (List.mem_of_mem_take hx))
   rw [List.length_take] at hsb
   have hs1:=iSum_take hvi
   have htk:smHead (vs.take (i + 1)) = smHead (vs.take i) ++ [(1,1,v,0),(11,1,1,2)]:=by
    rw [List.take_add_one,hvi,smHead_app];rfl
   have hsr:-100000000 ≤ iSum iId (vs.take i) ∧ iSum iId (vs.take i) ≤ 100000000:=by omega
   have HS1:=Lib.hid hs1
   have HTK:=Lib.hid htk
   have HVI:=Lib.hid hvi
   generalize iSum iId (vs.take i) = sm at *
   have o1:=hr.out.step (below_alloc1 wr (.cells #[.int .i64 1,.int .i64 1,.int .i64 v,.int .i64 0,.int .i64 11,.int .i64 1,.int .i64 1,.int .i64 2] 29))
   have H1:=Lib.hid o1
   clear o1 hr hsb hs1 htk hvi hz
   go_wp2_with (at_builtin;go_loud (refine wpList_append_rowG rfl _ _ 26 rfl 29 i0 _ Tryz.underlying26 Hi.out Hz0.out Hz1.out Hz2.out rfl (by decide) (by decide) (n:=2 * i) (m:=2) (cs:=i4s (smHead (vs.take i))) (ds:=[.int .i64 1,.int .i64 1,.int .i64 v,.int .i64 0,.int .i64 11,.int .i64 1,.int .i64 1,.int .i64 2]) (by rfl) (by rfl) (H1.out.rowG 0 rfl) (CellsAt.new _ [.int .i64 1,.int .i64 1,.int .i64 v,.int .i64 0,.int .i64 11,.int .i64 1,.int .i64 1,.int .i64 2] _ rfl) rfl (by simp [Value.oneCell']) (by omega) ?_))
   intro a9 c9 w9 k9 ch9 f9
   have o2:=Own.rowTurn H1.out k9 ch9 (fun x hx=>by simpa using f9 x hx)
   have H2:Hid (Own w w9 [RowGA 4 a9 c9 (2 * (i + 1)) (i4s (smHead (vs.take (i + 1)))),CelA q [.int .i64 p,.int .i64 m,.int .i64 r,.int .i64 s]]):=Lib.hid (by rw [HTK.out,mk_app];exact o2)
   clear o2 k9 ch9 f9 H1
   go_wp2
   exact ⟨⟨i + 1,a9,c9,by omega,by go_num,rfl,by rw [HS1.out],H2⟩,by simp [intOf];omega⟩
  ·obtain rfl:i = n:=by omega
   have hge:¬ ((i:Int) < (i:Int)):=by omega
   have htk:vs.take i = vs:=List.take_of_length_le (by rw [HVL.out];omega)
   have hr2:=hr.out
   rw [htk] at hr2
   have H2:=Lib.hid hr2
   have hsb:=iSum_bd vs HVB.out
   rw [HVL.out] at hsb
   rw [htk]
   go_upto_region 11 with fail
   clear hlt hi hge HO O1 hr hr2 htk
   go_wp2_with fail
   go_loopw [10,41] (fun sv iv wr=>∃ j:Nat,∃ ra cap,j ≤ i ∧ iv = .int .i64 j ∧ sv = .slice ra (2 * i + 2 * j) cap ∧ Hid (Own w wr [RowGA 4 ra cap (2 * i + 2 * j) (i4s (smHead vs ++ smTail j)),CelA q [.int .i64 p,.int .i64 m,.int .i64 r,.int .i64 s]])) (fun _ iv _=>i - (intOf iv).toNat)
   case atStart=>exact ⟨0,ra,cap,by omega,rfl,rfl,Lib.hid (by show Own w _ [RowGA 4 ra cap (2 * i) (i4s (smHead vs ++ [])),_];rw [List.append_nil];exact H2.out)⟩
   case round =>
    obtain ⟨j,rb,cap9,hj,rfl,rfl,hr⟩:=hrel
    clear H2
    by_cases hlt:j < i
    ·have hlt2:(j:Int) < (i:Int):=by omega
     have o1:=hr.out.step (below_alloc1 wr (.cells #[.int .i64 14,.int .i64 0,.int .i64 3,.int .i64 4,.int .i64 3,.int .i64 5,.int .i64 5,.int .i64 3] 29))
     have H1:=Lib.hid o1
     clear o1 hr
     go_wp2_with (at_builtin;go_loud (refine wpList_append_rowG rfl _ _ 26 rfl 29 i0 _ Tryz.underlying26 Hi.out Hz0.out Hz1.out Hz2.out rfl (by decide) (by decide) (n:=2 * i + 2 * j) (m:=2) (cs:=i4s (smHead vs ++ smTail j)) (ds:=[.int .i64 14,.int .i64 0,.int .i64 3,.int .i64 4,.int .i64 3,.int .i64 5,.int .i64 5,.int .i64 3]) (by rfl) (by rfl) (H1.out.rowG 0 rfl) (CellsAt.new _ [.int .i64 14,.int .i64 0,.int .i64 3,.int .i64 4,.int .i64 3,.int .i64 5,.int .i64 5,.int .i64 3] _ rfl) rfl (by simp [Value.oneCell']) (by omega) ?_))
     intro a9 c9 w9 k9 ch9 f9
     have o2:=Own.rowTurn H1.out k9 ch9 (fun x hx=>by simpa using f9 x hx)
     have H2:Hid (Own w w9 [RowGA 4 a9 c9 (2 * i + 2 * (j + 1)) (i4s (smHead vs ++ smTail (j + 1))),CelA q [.int .i64 p,.int .i64 m,.int .i64 r,.int .i64 s]]):=Lib.hid (by rw [smTail_snoc,← List.append_assoc,mk_app];exact o2)
     clear o2 k9 ch9 f9 H1
     go_wp2
     exact ⟨⟨j + 1,a9,c9,by omega,by go_num,rfl,H2⟩,by simp [intOf];omega⟩
    ·obtain rfl:j = i:=by omega
     have hge:¬ ((j:Int) < (j:Int)):=by omega
     go_upto_region 15 with fail
     clear hlt hj hge
     have o1:=hr.out.step (below_alloc1 wr (.cells #[.int .i64 20,.int .i64 5,.int .i64 0,.int .i64 0,.int .i64 10,.int .i64 5,.int .i64 0,.int .i64 0] 29))
     have H1:=Lib.hid o1
     clear o1 hr
     go_wp2_with (at_builtin;go_loud (refine wpList_append_rowG rfl _ _ 26 rfl 29 i0 _ Tryz.underlying26 Hi.out Hz0.out Hz1.out Hz2.out rfl (by decide) (by decide) (n:=2 * j + 2 * j) (m:=2) (cs:=i4s (smHead vs ++ smTail j)) (ds:=[.int .i64 20,.int .i64 5,.int .i64 0,.int .i64 0,.int .i64 10,.int .i64 5,.int .i64 0,.int .i64 0]) (by rfl) (by rfl) (H1.out.rowG 0 rfl) (CellsAt.new _ [.int .i64 20,.int .i64 5,.int .i64 0,.int .i64 0,.int .i64 10,.int .i64 5,.int .i64 0,.int .i64 0] _ rfl) rfl (by simp [Value.oneCell']) (by omega) ?_))
     intro a9 c9 w9 k9 ch9 f9
     have o2:=Own.rowTurn H1.out k9 ch9 (fun x hx=>by simpa using f9 x hx)
     have H2:Hid (Own w w9 [RowGA 4 a9 c9 (2 * j + 2 * j + 2) (i4s (smMain vs)),CelA q [.int .i64 p,.int .i64 m,.int .i64 r,.int .i64 s]]):=Lib.hid (by unfold smMain;rw [HVL.out,← List.append_assoc,mk_app];exact o2)
     clear o2 k9 ch9 f9 H1
     have hbig:¬ (60 < ((2 * j + 2 * j + 2:Nat):Int)):=by omega
     go_upto_region 19 with fail
     have o3:Own w ((((w9.alloc (.cells #[.int .i64 13,.int .i64 0,.int .i64 0,.int .i64 0,.int .i64 10,.int .i64 0,.int .i64 0,.int .i64 0] 29)).alloc (.cells #[.slice a9 (2 * j + 2 * j + 2) c9,.slice (some ⟨w9.heap.size,0,none⟩) 2 2] 26)).alloc (.cells #[.int .i64 (rm:Int)] 3)).alloc (.cells #[.slice (some ⟨w9.heap.size + 1,0,none⟩) 2 2,.slice (some ⟨w9.heap.size + 1 + 1,0,none⟩) 1 1,.int .i64 0,.slice none 0 0] 34)) [CelA (w9.heap.size + 1 + 1 + 1) [.slice (some ⟨w9.heap.size + 1,0,none⟩) 2 2,.slice (some ⟨w9.heap.size + 1 + 1,0,none⟩) 1 1,.int .i64 0,.slice none 0 0],CelA (w9.heap.size + 1 + 1) [.int .i64 (rm:Int)],CelA (w9.heap.size + 1) [.slice a9 (2 * j + 2 * j + 2) c9,.slice (some ⟨w9.heap.size,0,none⟩) 2 2],CelA w9.heap.size (i4s smChild),RowGA 4 a9 c9 (2 * j + 2 * j + 2) (i4s (smMain vs)),CelA q [.int .i64 p,.int .i64 m,.int .i64 r,.int .i64 s]] :=
      (((H2.out.alloc _ 29 rfl).alloc _ 26 (by simp)).alloc _ 3 (by simp)).alloc _ 34 (by simp)
     generalize ((((w9.alloc (.cells #[.int .i64 13,.int .i64 0,.int .i64 0,.int .i64 0,.int .i64 10,.int .i64 0,.int .i64 0,.int .i64 0] 29)).alloc (.cells #[.slice a9 (2 * j + 2 * j + 2) c9,.slice (some ⟨w9.heap.size,0,none⟩) 2 2] 26)).alloc (.cells #[.int .i64 (rm:Int)] 3)).alloc (.cells #[.slice (some ⟨w9.heap.size + 1,0,none⟩) 2 2,.slice (some ⟨w9.heap.size + 1 + 1,0,none⟩) 1 1,.int .i64 0,.slice none 0 0] 34)) = w13 at *
     generalize w9.heap.size + 1 + 1 + 1 = pg at *
     generalize w9.heap.size + 1 + 1 = qh at *
     generalize w9.heap.size + 1 = cf at *
     generalize w9.heap.size = qc at *
     have HSB:Hid (∀ (wx:World) (As:List Asr),Own w wx (As ++ [CelA pg [.slice (some ⟨cf,0,none⟩) 2 2,.slice (some ⟨qh,0,none⟩) 1 1,.int .i64 0,.slice none 0 0],CelA qh [.int .i64 (rm:Int)],CelA cf [.slice a9 (2 * j + 2 * j + 2) c9,.slice (some ⟨qc,0,none⟩) 2 2],CelA qc (i4s smChild),RowGA 4 a9 c9 (2 * j + 2 * j + 2) (i4s (smMain vs)),CelA q [.int .i64 p,.int .i64 m,.int .i64 r,.int .i64 s]]) → wx.cell? ⟨pg,0,none⟩ = some (.slice (some ⟨cf,0,none⟩) 2 2) ∧ wx.cell? ⟨pg,1,none⟩ = some (.slice (some ⟨qh,0,none⟩) 1 1) ∧ wx.cell? ⟨pg,2,none⟩ = some (.int .i64 0) ∧ wx.cell? ⟨pg,3,none⟩ = some (.slice none 0 0) ∧ wx.cell? ⟨q,0,none⟩ = some (.int .i64 p) ∧ wx.cell? ⟨q,1,none⟩ = some (.int .i64 m) ∧ wx.cell? ⟨q,2,none⟩ = some (.int .i64 r) ∧ wx.cell? ⟨q,3,none⟩ = some (.int .i64 s)):=Lib.hid (fun wx As hx=>by
      have h:=Own.dropL hx
      exact ⟨(h.cel 0 rfl 0 _ rfl).1,(h.cel 0 rfl 1 _ rfl).1,(h.cel 0 rfl 2 _ rfl).1,(h.cel 0 rfl 3 _ rfl).1,(h.cel 5 rfl 0 _ rfl).1,(h.cel 5 rfl 1 _ rfl).1,(h.cel 5 rfl 2 _ rfl).1,(h.cel 5 rfl 3 _ rfl).1⟩)
     have o4:=o3.step (below_drew1 w13)
     obtain ⟨hsl,hkif⟩:=HSL.out
     clear o3 H2 hbig
     refine wp_region_lexH (fun wx=>wx.cell? ⟨pg,0,none⟩ = some (.slice (some ⟨cf,0,none⟩) 2 2) ∧ wx.cell? ⟨pg,1,none⟩ = some (.slice (some ⟨qh,0,none⟩) 1 1) ∧ wx.cell? ⟨pg,2,none⟩ = some (.int .i64 0) ∧ wx.cell? ⟨pg,3,none⟩ = some (.slice none 0 0) ∧ wx.cell? ⟨q,0,none⟩ = some (.int .i64 p) ∧ wx.cell? ⟨q,1,none⟩ = some (.int .i64 m) ∧ wx.cell? ⟨q,2,none⟩ = some (.int .i64 r) ∧ wx.cell? ⟨q,3,none⟩ = some (.int .i64 s)) 10 (Array.replicate 10 false) (by kernel_rfl) (by kernel_rfl) ?_
     generalize w13.drew = w14 at *
     refine wpAnyH_seg 0 2 _ #[true,true,false,false,false,false,false,false,false,false] 8 (by kernel_rfl) noPanic_put (HSB.out _ [] o4) (by kernel_rfl) ?_
     simp only [List.take_succ_cons,List.take_zero,List.drop_zero]
     repeat ((first | refine wpSegH_no (by rfl) ?_ | (refine wpSegH_yes (by rfl) ?_;apply Exists.intro;apply And.intro;(· (intro wx hS;(try dsimp only at hS);go_simp;first | done | with_reducible rfl))));simp only [Act.put,List.setIfInBounds_toArray,List.set_cons_zero,List.set_cons_succ])
     refine wpSegH_nil ?_
     refine wpAnyH_seg 3 4 _ #[true,true,false,true,true,true,true,false,false,false] 4 (by kernel_rfl) noPanic_put (HSB.out _ [] o4) (by kernel_rfl) ?_
     simp only [List.take_succ_cons,List.take_zero,List.drop_succ_cons,List.drop_zero]
     repeat ((first | refine wpSegH_no (by rfl) ?_ | (refine wpSegH_yes (by rfl) ?_;apply Exists.intro;apply And.intro;(· (intro wx hS;(try dsimp only at hS);go_simp;first | done | with_reducible rfl))));simp only [Act.put,List.setIfInBounds_toArray,List.set_cons_zero,List.set_cons_succ])
     refine wpSegH_nil ?_
     try rw [hkif]
     refine wpAnyH_seg 7 1 _ #[true,true,false,true,true,true,true,true,false,false] 3 (by kernel_rfl) noPanic_put (HSB.out _ [] o4) (by kernel_rfl) ?_
     simp only [List.take_succ_cons,List.take_zero,List.drop_succ_cons,List.drop_zero]
     repeat ((first | refine wpSegH_no (by rfl) ?_ | (refine wpSegH_yes (by rfl) ?_;apply Exists.intro;apply And.intro;(· (intro wx hS;(try dsimp only at hS);go_simp;first | done | with_reducible rfl))));simp only [Act.put,List.setIfInBounds_toArray,List.set_cons_zero,List.set_cons_succ])
     refine wpSegH_nil ?_
     clear hsl hkif
     refine wpAnyH_one 2 _ #[true,true,true,true,true,true,true,true,false,false] 2 (by kernel_rfl) (fun K hK=>?_)
     have HKK:=Lib.hid hK
     clear hK
     simp only [List.drop_succ_cons,List.drop_zero]
     refine headH_mk (by rfl) ?_
     go_simp
     refine (KS.out _).mono ?_
     rintro rr w15 ⟨rfl,hb5⟩
     have o5:=o4.step hb5
     clear o4 hb5
     refine HKK.out _ _ (HSB.out _ [] o5) ?_
     clear HKK K
     have hrun:=trun_any o5 a3 cap3 1000 nums (some ⟨cf,0,none⟩) 2 [(a9,c9),(some ⟨qc,0,none⟩,2)] (smFs vs) (some ⟨qh,0,none⟩) 1 [(rm:Int)] 0 none 0 [] (fun wx Q hx=>by
       have h:=Own.dropL hx
       exact ⟨sm_prog (h.rowG 4 rfl).cells (h.rowG 4 rfl).none0 (mk_cells (h.cel 3 rfl)) (mk_cells (h.cel 2 rfl)) (by rw [HVL.out];omega) (mk_cells (h.cel 1 rfl)) (by rw [HVL.out];omega),HNS.out.1.below hx.bel⟩) (by decide) np nm (2 + (c:Int)) (1 + (d:Int)) (by have:=HCD.out;omega) (by have:=HCD.out;omega)
      (by rw [HNS.out.2.1];exact HNS.out.2.2.2.1) (by rw [HNS.out.2.1];have:=HNS.out.2.2.2.2;omega) HNS.out.2.2.1 (by omega) (fun k' Y hY hk'=>by
       obtain ⟨h1,h2⟩:=sm_keeps_all (by rw [HVL.out];omega) HVB.out HCD.out.1 HCD.out.2.1 (by have:=HCD.out.2.2;omega) (by omega) hY
       obtain ⟨A,cs,C,out,ck,en,rc,got,h3⟩:=h1
       refine ⟨h2,?_⟩
       rw [h3.e]
       show en = 0 ∨ en = 1 ∨ en = 2
       rcases h3.ph with ⟨-,-,-,-,-,-,-,p⟩ | ⟨_,-,-,-,-,-,-,-,p⟩ | ⟨_,-,-,-,-,-,-,-,p⟩ | ⟨_,-,-,-,-,-,-,-,p⟩ | ⟨-,-,-,-,-,-,p⟩ | ⟨-,-,-,-,-,-,p⟩
       all_goals omega)
     rw [HNS.out.2.1] at hrun
     have HRUN:=Lib.hid hrun
     clear hrun
     refine wpAnyH_one 8 _ #[true,true,true,true,true,true,true,true,true,false] 1 (by kernel_rfl) (fun K hK=>?_)
     have HKK:=Lib.hid hK
     clear hK
     simp only [List.drop_succ_cons,List.drop_zero]
     refine headH_mk (by rfl) ?_
     go_simp
     refine HRUN.out.mono ?_
     rintro rr w16 ⟨bs,sp,kk,Y,rfl,hrch,hkk,o6⟩
     refine HKK.out _ _ (HSB.out _ [_] o6) ?_
     clear HKK K
     refine wpAnyH_seg 9 1 _ #[true,true,true,true,true,true,true,true,true,true] 0 (by kernel_rfl) noPanic_put (HSB.out _ [_] o6) (by kernel_rfl) ?_
     simp only [List.take_succ_cons,List.take_zero,List.drop_succ_cons,List.drop_zero]
     repeat ((first | refine wpSegH_no (by rfl) ?_ | (refine wpSegH_yes (by rfl) ?_;apply Exists.intro;apply And.intro;(· (intro wx hS;(try dsimp only at hS);go_simp;first | done | with_reducible rfl))));simp only [Act.put,List.setIfInBounds_toArray,List.set_cons_zero,List.set_cons_succ])
     refine wpSegH_nil ?_
     refine wpAnyH_done (by kernel_rfl) (NoPanic.normal ?_) _
     obtain ⟨hfit,hwf⟩:=sm_keeps_all (by rw [HVL.out];omega) HVB.out HCD.out.1 HCD.out.2.1 (by have:=HCD.out.2.2;omega) (by omega) hrch
     have H6:Hid (Own w w16 [SchA bs sp Y]):=Lib.hid ((o6.perm (List.perm_append_comm (l₁:=[SchA bs sp Y]) (l₂:=[_,_,_,_,_,_]))).dropL)
     obtain ⟨L,hs⟩:=H6.out.sat
     obtain ⟨T,Q,hw,-⟩:=hs.world
     have HW:=Lib.hid (sworld_any hs)
     have ho:=out_w hw hwf.wf
     have hsees:=sm_sees hfit
     have hgs:Y.W.gs.length ≤ 1000000:=by have:=hwf.wf.g1.2;omega
     have HGS:=Lib.hid hgs
     clear o5 o6 hrch HSB HRUN KS hs hw hfit hwf hgs
     go_wp2_with fail
     refine HW.out.mono ?_
     rintro rr w17 ⟨rfl,rfl⟩
     rcases hsees with ⟨hov,hol⟩ | ⟨hov,hoe⟩
     ·generalize Y.W.out.length = no at *
      have HOUT:=Lib.hid ho
      have HOV:=Lib.hid hov
      clear ho hov
      go_wp2_with fail
      refine HOUT.out.mono ?_
      rintro rr w18 ⟨ao,co,rfl,-,-,hb⟩
      have o7:=H6.out.step hb
      obtain ⟨L2,hs2⟩:=o7.sat
      have hst:=stat_any hs2 HGS.out
      rw [HOV.out] at hst
      have HST:=Lib.hid hst
      have HB7:=Lib.hid o7.bel
      clear o7 hs2 hst hb HOUT HW H6
      go_wp2_with fail
      refine HST.out.mono ?_
      rintro rr w19 ⟨rfl,hb8⟩
      have HB8:=Lib.hid (below_on HB7.out hb8)
      clear hb8 HST
      go_wp2_with fail
      refine (live_any _).mono ?_
      rintro rr w20 ⟨rfl,hb9⟩
      have HB9:=Lib.hid (below_on HB8.out hb9)
      clear hb9
      have hol2:(no:Int) < 2:=by omega
      go_wp2
      go_ret
      exact ⟨rfl,HB9.out⟩
     ·rw [hoe] at ho
      have HOUT:=Lib.hid ho
      have HOV:=Lib.hid hov
      clear ho hov hoe
      go_wp2_with fail
      refine HOUT.out.mono ?_
      rintro rr w18 ⟨ao,co,rfl,hor,-,hb⟩
      have o7:=H6.out.step hb
      obtain ⟨L2,hs2⟩:=o7.sat
      have hst:=stat_any hs2 HGS.out
      rw [HOV.out] at hst
      have HST:=Lib.hid hst
      have HB7:=Lib.hid o7.bel
      obtain ⟨gb,off,rfl,c0⟩:=hor.cells 0 (.int .i64 (iSum iId vs)) rfl
      rw [Nat.add_zero] at c0
      have HC:=Lib.hid c0
      clear o7 hs2 hst hb HOUT HW H6 hor c0
      go_wp2_with fail
      refine HST.out.mono ?_
      rintro rr w19 ⟨rfl,hb8⟩
      have HC8:=Lib.hid (cell_below HC.out hb8)
      have HB8:=Lib.hid (below_on HB7.out hb8)
      clear hb8 HST
      go_wp2_with fail
      refine (live_any _).mono ?_
      rintro rr w20 ⟨rfl,hb9⟩
      have c9:=cell_below HC8.out hb9
      have HB9:=Lib.hid (below_on HB8.out hb9)
      clear hb9
      generalize iSum iId vs = sv at *
      go_wp2
      go_ret
      exact ⟨rfl,HB9.out⟩
end Go.Proofs.YtphfaekpckbepaaGreat.shunterSum
