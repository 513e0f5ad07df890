/-
  Texts put together: SdNewW, SdAwk, SdPk, SdWk, SdShow, SdChk, SdMk, SdWkA, SdWkB, SdWkC, SdWkD, SdWkN, SdPk2, SdSrt, WpItems, WpSo, WpSrt, WdSlr, SdWkL, SegH3, W18Wakes.
-/
import Derived.Test.YtodjgipiomnnfaaGreatMy7
import Derived.Test.YtodjgipiomnnfaaGreatMy6
import Derived.OpenShut
import Derived.Test.YtodjgipiomnnfaaGreatMy2
import Derived.Maps.OwnOps
import Derived.Maps.OwnSet
import Derived.Shelf.SlSortCmp.WholeK
import Derived.Shelf.SlSortCmp.NoneTotal
import Derived.Test.YtodjgipiomnnfaaGreatMy5
import Derived.Test.YtodjgipiomnnfaaGreatMy1
set_option maxRecDepth 100000
set_option maxHeartbeats 16000000
open Go Go.RowKit
set_option linter.unusedVariables false
namespace Go.Proofs.YtodjgipiomnnfaaGreat
theorem ProgIn.below {w w':World} {fa:Option Addr} {fr:List (Option Addr × Nat)} {fs:List (List In4)} {ra:Option Addr} {rooms:List Int} {ca:Option Addr} {cc:Nat} {ks:List Cs3} (h:ProgIn w fa fr fs ra rooms ca cc ks) (hb:Below w.heap.size w w'):ProgIn w' fa fr fs ra rooms ca cc ks :=
 ⟨h.f.below hb,h.fl,fun i r l hr hl=>by obtain ⟨a,b⟩:=h.each i r l hr hl;exact ⟨a.below hb,b⟩,h.c.below hb,h.k.below hb,h.kn,h.kl,h.nf,h.nc⟩
theorem info_proc:(Tryz.prog.info? 89).map (fun i=>(i.zero,i.size,i.bytes)) = some (some (.agg #[.pointer none,.int .i64 0,.int .i64 0]),3,24):=by kernel_rfl
theorem info_mach:(Tryz.prog.info? 66).map (fun i=>(i.zero,i.size,i.bytes)) = some (some (.agg #[.int .i64 0,.int .i64 0,.int .i64 0]),3,24):=by kernel_rfl
def midSd (W:Wd) (i j:Nat) (ring sl:Int) (gl:List Int):Sd :=
 { W:=W,ps:=List.replicate i ⟨roomOf ring,⟨none,[]⟩,0,-1⟩,ms:=List.replicate j ⟨-1,-1,0⟩,gl:=gl,sl:=sl,st:=0 }
theorem pcs_app {ld:List (Nat × Nat)} {ps:List Pm} (h:ld.length = ps.length) (l:Nat × Nat) (P:Pm):pcs (ld ++ [l]) (ps ++ [P]) = pcs ld ps ++ pc1 (l,P):=by
 unfold pcs;rw [List.zip_append h,List.flatMap_append];simp
theorem qds_app {ld:List (Nat × Nat)} {ps:List Pm} (h:ld.length = ps.length) (l:Nat × Nat) (P:Pm):qds (ld ++ [l]) (ps ++ [P]) = qds ld ps ++ [qd1 l P]:=by
 unfold qds;rw [List.zipWith_append h];rfl
theorem mcs_app (ms:List Mm) (M:Mm):mcs (ms ++ [M]) = mcs ms ++ mc1 M:=by unfold mcs;rw [List.flatMap_append];simp
theorem snew_any {w0 w:World} {R:List Asr} (h:Own w0 w R) (fa:Option Addr) (fc:Nat) (fr:List (Option Addr × Nat)) (fs:List (List In4)) (ra:Option Addr) (rc:Nat) (rooms:List Int) (locks:Nat) (ca:Option Addr) (cc:Nat) (ks:List Cs3) (hp:ProgIn w fa fr fs ra rooms ca cc ks) (hlk:locks ≤ 1000) (np nm:Nat) (ring sl:Int) (hnp:np ≤ 1000) (hnm:nm ≤ 1000) (sp:Nat) :
  Calls Tryz.prog 11 #[.agg #[.slice fa fs.length fc,.slice ra rooms.length rc,.int .i64 (locks:Int),.slice ca ks.length cc],.agg #[.int .i64 (np:Int),.int .i64 (nm:Int),.int .i64 ring,.int .i64 sl],.pointer (some ⟨sp,0,none⟩)] w fun r w'=>∃ b,r = .returned (.pointer (some ⟨b,0,none⟩)) ∧ Own w0 w' (SchA b sp (newSd (newM fs ks rooms locks) np nm ring sl) :: R):=by
 have h1:=h.alloc [.slice fa fs.length fc,.slice ra rooms.length rc,.int .i64 (locks:Int),.slice ca ks.length cc] 41 (b:=w.heap.size) rfl
 have b1:=below_alloc1 w (.cells [.slice fa fs.length fc,.slice ra rooms.length rc,.int .i64 (locks:Int),.slice ca ks.length cc].toArray 41)
 have h2:=h1.alloc [.int .i64 (np:Int),.int .i64 (nm:Int),.int .i64 ring,.int .i64 sl] 26 (b:=w.heap.size + 1) (by simp)
 have b2:=below_on b1 (below_alloc1 _ (.cells [.int .i64 (np:Int),.int .i64 (nm:Int),.int .i64 ring,.int .i64 sl].toArray 26))
 have H2:=Lib.hid h2
 have HNW:=Lib.hid (fun (wx:World) (hb:Below w.heap.size w wx)=>new_w wx fa fc fr fs ra rc rooms locks ca cc ks (hp.below hb) hlk)
 have B2:=Lib.hid b2
 generalize hW:newM fs ks rooms locks = W0 at *
 have HWhp:Hid (W0.hp = []):=Lib.hid (by rw [← hW];rfl)
 clear h h1 h2 b1 b2 hp hlk hW
 go_enter Tryz.func11,Tryz.ntmps11
 go_upto_region 1 with fail
 generalize ((w.alloc (.cells [.slice fa fs.length fc,.slice ra rooms.length rc,.int .i64 (locks:Int),.slice ca ks.length cc].toArray 41)).alloc (.cells [.int .i64 (np:Int),.int .i64 (nm:Int),.int .i64 ring,.int .i64 sl].toArray 26)) = w2 at *
 have hB2:=B2.out
 have hB3:=below_on hB2 (below_drew1 w2)
 generalize hqb:w.heap.size + 1 = qb at *
 generalize hpb:w.heap.size = pb at *
 have h3:=H2.out.step (below_drew1 w2)
 have HSB:Hid (∀ (wx:World) (As:List Asr),Own w0 wx (As ++ (CelA qb [.int .i64 (np:Int),.int .i64 (nm:Int),.int .i64 ring,.int .i64 sl] :: CelA pb [.slice fa fs.length fc,.slice ra rooms.length rc,.int .i64 (locks:Int),.slice ca ks.length cc] :: R)) → wx.cell? ⟨qb,3,none⟩ = some (.int .i64 sl) ∧ wx.cell? ⟨pb,0,none⟩ = some (.slice fa fs.length fc) ∧ wx.cell? ⟨pb,1,none⟩ = some (.slice ra rooms.length rc) ∧ wx.cell? ⟨pb,2,none⟩ = some (.int .i64 (locks:Int)) ∧ wx.cell? ⟨pb,3,none⟩ = some (.slice ca ks.length cc)):=Lib.hid (fun wx As hx=>by
  have h:=Own.dropL hx
  exact ⟨(h.cel 0 rfl 3 _ rfl).1,(h.cel 1 rfl 0 _ rfl).1,(h.cel 1 rfl 1 _ rfl).1,(h.cel 1 rfl 2 _ rfl).1,(h.cel 1 rfl 3 _ rfl).1⟩)
 clear hB2 B2
 refine wp_region_lexH (fun wx=>wx.cell? ⟨qb,3,none⟩ = some (.int .i64 sl) ∧ wx.cell? ⟨pb,0,none⟩ = some (.slice fa fs.length fc) ∧ wx.cell? ⟨pb,1,none⟩ = some (.slice ra rooms.length rc) ∧ wx.cell? ⟨pb,2,none⟩ = some (.int .i64 (locks:Int)) ∧ wx.cell? ⟨pb,3,none⟩ = some (.slice ca ks.length cc)) 10 (Array.replicate 10 false) (by kernel_rfl) (by kernel_rfl) ?_
 generalize w2.drew = w3 at *
 refine wpAnyH_seg 0 1 _ #[true,false,false,false,false,false,false,false,false,false] 9 (by kernel_rfl) noPanic_put (HSB.out _ [] h3) (by kernel_rfl) ?_
 simp only [List.take_succ_cons,List.take_zero,List.drop_zero]
 repeat ((first | refine wpSegH_no (by rfl) ?_ | (refine wpSegH_yes (by rfl) ?_;apply Exists.intro;apply And.intro;(· (intro wx hS;(try dsimp only at hS);go_simp;first | done | with_reducible rfl))));simp only [Act.put,List.setIfInBounds_toArray,List.set_cons_zero,List.set_cons_succ])
 refine wpSegH_nil ?_
 refine wpAnyH_seg 4 3 _ #[true,false,false,false,true,true,true,false,false,false] 6 (by kernel_rfl) noPanic_put (HSB.out _ [] h3) (by kernel_rfl) ?_
 simp only [List.take_succ_cons,List.take_zero,List.drop_succ_cons,List.drop_zero]
 repeat ((first | refine wpSegH_no (by rfl) ?_ | (refine wpSegH_yes (by rfl) ?_;apply Exists.intro;apply And.intro;(· (intro wx hS;(try dsimp only at hS);go_simp;first | done | with_reducible rfl))));simp only [Act.put,List.setIfInBounds_toArray,List.set_cons_zero,List.set_cons_succ])
 refine wpSegH_nil ?_
 refine wpAnyH_one 1 _ #[true,true,false,false,true,true,true,false,false,false] 5 (by kernel_rfl) (fun K hK=>?_)
 have HKK:=Lib.hid hK
 clear hK
 simp only [List.drop_succ_cons,List.drop_zero]
 refine headH_mk (by rfl) ?_
 go_simp
 refine (HNW.out _ hB3).mono ?_
 rintro r w4 ⟨b0,rfl,hk⟩
 have h4:=h3.join hk
 obtain ⟨D,hD,h5⟩:=h4.wld
 have e5:=HSB.out _ _ h5
 refine HKK.out _ _ (e5) ?_
 clear HKK K
 obtain ⟨Fi,⟨-,hit⟩,-⟩:=h5.fact 8 (A:=ItemsA D.sv W0.hp) rfl
 obtain ⟨a5,c5,hv5,hc5⟩:=hit.slice
 rw [HWhp.out] at hv5
 simp only [List.length_nil] at hv5
 have y0:=(h5.cel 0 rfl 0 _ rfl).1
 have y1:=(h5.cel 0 rfl 1 _ rfl).1
 have y2:=(h5.cel 0 rfl 2 _ rfl).1
 have y3:=(h5.cel 0 rfl 3 _ rfl).1
 have y4:=(h5.cel 0 rfl 4 _ rfl).1
 have y5:=(h5.cel 0 rfl 5 _ rfl).1
 have y6:=(h5.cel 0 rfl 6 _ rfl).1
 have y7:=(h5.cel 0 rfl 7 _ rfl).1
 have y8:=(h5.cel 0 rfl 8 _ rfl).1
 have y9:=(h5.cel 0 rfl 9 _ rfl).1
 have y10:=(h5.cel 0 rfl 10 _ rfl).1
 rw [hv5] at y5
 refine wpAnyH_one 2 _ #[true,true,true,false,true,true,true,false,false,false] 4 (by kernel_rfl) (fun K hK=>?_)
 have HKK:=Lib.hid hK
 clear hK
 simp only [List.drop_succ_cons,List.drop_zero]
 refine headH_mk (by rfl) ?_
 go_simp
 refine HKK.out _ _ (e5) ?_
 clear HKK K
 refine wpAnyH_one 3 _ #[true,true,true,true,true,true,true,false,false,false] 3 (by kernel_rfl) (fun K hK=>?_)
 have HKK:=Lib.hid hK
 clear hK
 simp only [List.drop_succ_cons,List.drop_zero]
 refine headH_mk (by rfl) ?_
 go_simp
 refine HKK.out _ _ (e5) ?_
 clear HKK K
 refine wpAnyH_one 7 _ #[true,true,true,true,true,true,true,true,false,false] 2 (by kernel_rfl) (fun K hK=>?_)
 have HKK:=Lib.hid hK
 clear hK
 simp only [List.drop_succ_cons,List.drop_zero]
 refine headH_mk (by rfl) ?_
 go_simp
 refine HKK.out _ _ (e5) ?_
 clear HKK K
 refine wpAnyH_one 8 _ #[true,true,true,true,true,true,true,true,true,false] 1 (by kernel_rfl) (fun K hK=>?_)
 have HKK:=Lib.hid hK
 clear hK
 simp only [List.drop_succ_cons,List.drop_zero]
 refine headH_mk (by rfl) ?_
 go_simp
 have h6:=h5.drop
 have h7:Own w0 w4 (LstA (swr W0 D) :: CelA qb [.int .i64 (np:Int),.int .i64 (nm:Int),.int .i64 ring,.int .i64 sl] :: CelA pb [.slice fa fs.length fc,.slice ra rooms.length rc,.int .i64 (locks:Int),.slice ca ks.length cc] :: R):=Own.lst h6
 have h8:=((((((h7.pick 2 rfl).drop).rowNil 1).rowNil 3).lst (l:=[])).rowNil 3).alloc [.slice D.fa W0.fs.length D.fc,.slice D.ca W0.ks.length D.cc,.slice D.aa W0.gs.length D.ac,.slice D.ha W0.Cs.length D.hc,.slice D.la W0.Ls.length D.lc,.slice a5 0 c5,.int .u64 (W0.nx:Int),.int .u64 (W0.clock:Int),.slice D.oa W0.out.length D.oc,.int .i64 W0.en,.int .i64 W0.why,.pointer (some ⟨sp,0,none⟩),.slice none 0 0,.slice none 0 0,.slice none 0 0,.int .i64 sl,.int .i64 0] 85 (b:=w4.heap.size) rfl
 have hbx:=below_alloc1 w4 (.cells [.slice D.fa W0.fs.length D.fc,.slice D.ca W0.ks.length D.cc,.slice D.aa W0.gs.length D.ac,.slice D.ha W0.Cs.length D.hc,.slice D.la W0.Ls.length D.lc,.slice a5 0 c5,.int .u64 (W0.nx:Int),.int .u64 (W0.clock:Int),.slice D.oa W0.out.length D.oc,.int .i64 W0.en,.int .i64 W0.why,.pointer (some ⟨sp,0,none⟩),.slice none 0 0,.slice none 0 0,.slice none 0 0,.int .i64 sl,.int .i64 0].toArray 85)
 have e6:=HSB.out _ _ (h5.step hbx)
 refine HKK.out _ _ (e6) ?_
 clear HKK K
 refine wpAnyH_seg 9 1 _ #[true,true,true,true,true,true,true,true,true,true] 0 (by kernel_rfl) noPanic_put (e6) (by kernel_rfl) ?_
 simp only [List.take_succ_cons,List.take_zero,List.drop_succ_cons,List.drop_zero]
 repeat ((first | refine wpSegH_no (by rfl) ?_ | (refine wpSegH_yes (by rfl) ?_;apply Exists.intro;apply And.intro;(· (intro wx hS;(try dsimp only at hS);go_simp;first | done | with_reducible rfl))));simp only [Act.put,List.setIfInBounds_toArray,List.set_cons_zero,List.set_cons_succ])
 refine wpSegH_nil ?_
 refine wpAnyH_done (by kernel_rfl) (NoPanic.normal ?_) _
 obtain ⟨S0,hS0⟩:∃ S0:Sa,S0 = ⟨D,none,0,[],none,0,none,0⟩:=⟨_,rfl⟩
 have HS:Hid (S0.fits (midSd W0 0 0 ring sl []) ∧ Own w0 (w4.alloc (.cells [.slice D.fa W0.fs.length D.fc,.slice D.ca W0.ks.length D.cc,.slice D.aa W0.gs.length D.ac,.slice D.ha W0.Cs.length D.hc,.slice D.la W0.Ls.length D.lc,.slice a5 0 c5,.int .u64 (W0.nx:Int),.int .u64 (W0.clock:Int),.slice D.oa W0.out.length D.oc,.int .i64 W0.en,.int .i64 W0.why,.pointer (some ⟨sp,0,none⟩),.slice none 0 0,.slice none 0 0,.slice none 0 0,.int .i64 sl,.int .i64 0].toArray 85)) (schP w4.heap.size sp (midSd W0 0 0 ring sl []) S0 ++ (CelA qb [.int .i64 (np:Int),.int .i64 (nm:Int),.int .i64 ring,.int .i64 sl] :: R))):=Lib.hid (by
  subst hS0
  refine ⟨⟨hD,rfl⟩,?_⟩
  have e:[Value.slice D.fa W0.fs.length D.fc,.slice D.ca W0.ks.length D.cc,.slice D.aa W0.gs.length D.ac,.slice D.ha W0.Cs.length D.hc,.slice D.la W0.Ls.length D.lc,.slice a5 0 c5,.int .u64 (W0.nx:Int),.int .u64 (W0.clock:Int),.slice D.oa W0.out.length D.oc,.int .i64 W0.en,.int .i64 W0.why,.pointer (some ⟨sp,0,none⟩),.slice none 0 0,.slice none 0 0,.slice none 0 0,.int .i64 sl,.int .i64 0] = wcells W0 D ++ stl sp (midSd W0 0 0 ring sl []) ⟨D,none,0,[],none,0,none,0⟩:=by
   unfold wcells;rw [hv5];rfl
  have h9:=h8
  rw [e] at h9
  rw [e]
  exact h9)
 generalize w4.alloc (.cells [.slice D.fa W0.fs.length D.fc,.slice D.ca W0.ks.length D.cc,.slice D.aa W0.gs.length D.ac,.slice D.ha W0.Cs.length D.hc,.slice D.la W0.Ls.length D.lc,.slice a5 0 c5,.int .u64 (W0.nx:Int),.int .u64 (W0.clock:Int),.slice D.oa W0.out.length D.oc,.int .i64 W0.en,.int .i64 W0.why,.pointer (some ⟨sp,0,none⟩),.slice none 0 0,.slice none 0 0,.slice none 0 0,.int .i64 sl,.int .i64 0].toArray 85) = w5 at *
 generalize w4.heap.size = b at *
 clear hk h4 h5 h6 h7 h8 hbx e5 e6 hit hv5 hc5 y0 y1 y2 y3 y4 y5 y6 y7 y8 y9 y10 h3 hB3 HNW H2 HSB HWhp hqb hpb hS0 hD
 have g0:=(HS.out.2.cel 6 rfl 0 _ rfl).1
 go_wp2_with fail
 go_loopw [19] (fun iv wr=>∃ i:Nat,∃ S:Sa,i ≤ np ∧ iv = .int .i64 i ∧ Hid (S.fits (midSd W0 i 0 ring sl []) ∧ Own w0 wr (schP b sp (midSd W0 i 0 ring sl []) S ++ (CelA qb [.int .i64 (np:Int),.int .i64 (nm:Int),.int .i64 ring,.int .i64 sl] :: R)))) (fun iv _=>np - (intOf iv).toNat)
 case atStart=>exact ⟨0,S0,by omega,rfl,HS⟩
 case round =>
  obtain ⟨i,S,hi,rfl,hr⟩:=hrel
  clear HS g0
  by_cases hlt:i < np
  ·have hlt2:(i:Int) < (np:Int):=by omega
   have hi0:(0:Int) ≤ (i:Int):=by omega
   have HSB:Hid (∀ (wx:World) (As:List Asr) (k k2:Nat),Own w0 wx As → As[k]? = some (CelA b (wcells W0 S.D ++ stl sp (midSd W0 i 0 ring sl []) S)) → As[k2]? = some (CelA qb [.int .i64 (np:Int),.int .i64 (nm:Int),.int .i64 ring,.int .i64 sl]) → wx.cell? ⟨b,12,none⟩ = some (.slice S.pa i S.pc) ∧ wx.cell? ⟨qb,2,none⟩ = some (.int .i64 ring)):=Lib.hid (fun wx As k k2 hx h1 h2=>by
    have h3:=(hx.cel k h1 12 _ rfl).1
    have e:(midSd W0 i 0 ring sl []).ps.length = i:=by simp [midSd]
    rw [e] at h3
    exact ⟨h3,(hx.cel k2 h2 2 _ rfl).1⟩)
   have HFI:=Lib.hid hr.out.1
   have o1:=hr.out.2.step (below_drew1 wr)
   have HLN:=Lib.hid (fun wx=>lnew_any ring wx)
   have hpl:(pcs S.ld (midSd W0 i 0 ring sl []).ps).length = i * 3:=by rw [pcs_len _ _ hr.out.1.l];simp [midSd]
   obtain ⟨i0,hi1,hz0,hz1,hz2⟩:=info_parts info_proc
   have Hi:=Lib.hid hi1;clear hi1
   have Hz0:=Lib.hid hz0;clear hz0
   have Hz1:=Lib.hid hz1;clear hz1
   have Hz2:=Lib.hid hz2;clear hz2
   clear hr
   go_upto_region 4 with fail
   refine wp_region_lexY (fun wx=>wx.cell? ⟨b,12,none⟩ = some (.slice S.pa i S.pc) ∧ wx.cell? ⟨qb,2,none⟩ = some (.int .i64 ring)) 13 14 (Array.replicate 14 false) (by kernel_rfl) (by kernel_rfl) ?_
   generalize wr.drew = w6 at *
   refine wpAnyY_seg 0 7 _ #[true,true,true,true,true,true,true,false,false,false,false,false,false,false] 7 (by kernel_rfl) noPanic_put (HSB.out _ _ 0 6 o1 rfl rfl) (by kernel_rfl) ?_
   simp only [List.take_succ_cons,List.take_zero,List.drop_zero]
   repeat ((first | refine wpSegH_no (by rfl) ?_ | (refine wpSegH_yes (by rfl) ?_;apply Exists.intro;apply And.intro;(· (intro wx hS;(try dsimp only at hS);go_simp;first | done | with_reducible rfl))));simp only [Act.put,List.setIfInBounds_toArray,List.set_cons_zero,List.set_cons_succ])
   refine wpSegH_nil ?_
   refine wpAnyY_one 7 _ #[true,true,true,true,true,true,true,true,false,false,false,false,false,false] 6 (by kernel_rfl) (fun K hK=>?_)
   have HKK:=Lib.hid hK
   clear hK
   simp only [List.drop_succ_cons,List.drop_zero]
   refine headH_mk (by rfl) ?_
   go_simp
   refine (HLN.out _).mono ?_
   rintro r w7 ⟨p,g,rfl,hloc,hpp,hgg,hb7⟩
   have o2:=o1.add hb7 (A:=locA ⟨p,g,roomOf ring,⟨none,[]⟩,none,0⟩) (F:=[p,g]) ⟨rfl,hloc⟩ (by intro x hx;simp at hx;rcases hx with rfl | rfl <;> assumption)
   refine HKK.out _ _ (HSB.out _ _ 1 7 o2 rfl rfl) ?_
   clear HKK K
   refine wpAnyY_seg 8 1 _ #[true,true,true,true,true,true,true,true,true,false,false,false,false,false] 5 (by kernel_rfl) noPanic_put (HSB.out _ _ 1 7 o2 rfl rfl) (by kernel_rfl) ?_
   simp only [List.take_succ_cons,List.take_zero,List.drop_succ_cons,List.drop_zero]
   repeat ((first | refine wpSegH_no (by rfl) ?_ | (refine wpSegH_yes (by rfl) ?_;apply Exists.intro;apply And.intro;(· (intro wx hS;(try dsimp only at hS);go_simp;first | done | with_reducible rfl))));simp only [Act.put,List.setIfInBounds_toArray,List.set_cons_zero,List.set_cons_succ])
   refine wpSegH_nil ?_
   have o3:=o2.step (below_alloc1 w7 (.cells #[.pointer (some ⟨p,0,none⟩),.int .i64 0,.int .i64 (-1)] 89))
   refine wpAnyY_one 9 _ #[true,true,true,true,true,true,true,true,true,true,false,false,false,false] 4 (by kernel_rfl) (fun K hK=>?_)
   have HKK:=Lib.hid hK
   clear hK
   simp only [List.drop_succ_cons,List.drop_zero]
   refine headH_mk (by rfl) ?_
   go_simp
   refine HKK.out _ _ (HSB.out _ _ 1 7 o3 rfl rfl) ?_
   clear HKK K
   refine wpAnyY_one 10 _ #[true,true,true,true,true,true,true,true,true,true,true,false,false,false] 3 (by kernel_rfl) (fun K hK=>?_)
   have HKK:=Lib.hid hK
   clear hK
   simp only [List.drop_succ_cons,List.drop_zero]
   refine headH_mk (by rfl) ?_
   have hrow3:=o3.rowG 2 rfl
   rw [show (midSd W0 i 0 ring sl []).ps.length = i by simp [midSd]] at hrow3
   refine wp_append_rowG (n:=i) (m:=1) (cs:=pcs S.ld (midSd W0 i 0 ring sl []).ps) (ds:=[.pointer (some ⟨p,0,none⟩),.int .i64 0,.int .i64 (-1)]) _ _ 81 (by rfl) 89 i0 _ Tryz.underlying81 Hi.out Hz0.out Hz1.out Hz2.out rfl (by omega) (by omega) (by rfl) (by rfl) hrow3 (CellsAt.new _ [.pointer (some ⟨p,0,none⟩),.int .i64 0,.int .i64 (-1)] _ rfl) rfl (by simp [Value.oneCell']) (by omega) ?_
   intro a9 c9 w9 k9 ch9 f9
   have o4:=Own.rowTurn (o3.pick 2 rfl) k9 ch9 f9
   refine HKK.out _ _ (HSB.out _ _ 2 7 o4 rfl rfl) ?_
   clear HKK K
   refine wpAnyY_segT 11 1 _ #[true,true,true,true,true,true,true,true,true,true,true,true,false,false] 2 (by kernel_rfl) noPanic_put (by kernel_rfl) ?_
   simp only [List.take_succ_cons,List.take_zero,List.drop_succ_cons,List.drop_zero]
   repeat ((first | refine wpSegH_no (by rfl) ?_ | (refine wpSegH_yes (by rfl) ?_;apply Exists.intro;apply And.intro;(· (intro wx hS;(try dsimp only at hS);go_simp;first | done | with_reducible rfl))));simp only [Act.put,List.setIfInBounds_toArray,List.set_cons_zero,List.set_cons_succ])
   refine wpSegH_nil ?_
   refine wpAnyY_seg 12 1 _ #[true,true,true,true,true,true,true,true,true,true,true,true,true,false] 1 (by kernel_rfl) noPanic_put (HSB.out _ _ 2 7 o4 rfl rfl) (by kernel_rfl) ?_
   simp only [List.take_succ_cons,List.take_zero,List.drop_succ_cons,List.drop_zero]
   repeat ((first | refine wpSegH_no (by rfl) ?_ | (refine wpSegH_yes (by rfl) ?_;apply Exists.intro;apply And.intro;(· (intro wx hS;(try dsimp only at hS);go_simp;first | done | with_reducible rfl))));simp only [Act.put,List.setIfInBounds_toArray,List.set_cons_zero,List.set_cons_succ])
   refine wpSegH_nil ?_
   obtain ⟨z8,f8⟩:=o4.cel 2 rfl 12 _ rfl
   have o5:=((((((o4.setAt 2 rfl 12 (.slice a9 (i + 1) c9)).pick 1 rfl).pick 3 rfl).pick 1 rfl).lstAdd).pick 1 rfl).pick 2 rfl
   have H5:=Lib.hid o5
   clear o1 o2 o3 o4 o5 k9 ch9 f9 hrow3 hloc hpp hgg hb7 HSB HLN
   refine wpAnyY_late 13 _ #[true,true,true,true,true,true,true,true,true,true,true,true,true,true] 0 (by kernel_rfl) (fun K hK=>?_)
   have HKK:=Lib.hid hK
   clear hK
   simp only [List.drop_succ_cons,List.drop_zero]
   refine headH_mk (by rfl) ?_
   go_simp
   refine HKK.out _ _ ?_
   clear HKK K
   refine wpAnyY_done (by kernel_rfl) (NoPanic.normal ?_) _
   have HFIN:Hid (Sa.fits { S with pa:=a9,pc:=c9,ld:=S.ld ++ [(p,g)] } (midSd W0 (i + 1) 0 ring sl []) ∧ Own w0 (w9.setCell ⟨b,12,none⟩ (.slice a9 (i + 1) c9)) (schP b sp (midSd W0 (i + 1) 0 ring sl []) { S with pa:=a9,pc:=c9,ld:=S.ld ++ [(p,g)] } ++ (CelA qb [.int .i64 (np:Int),.int .i64 (nm:Int),.int .i64 ring,.int .i64 sl] :: R))):=Lib.hid (by
    have hl:=HFI.out.l
    have e1:(midSd W0 (i + 1) 0 ring sl []).ps = (midSd W0 i 0 ring sl []).ps ++ [⟨roomOf ring,⟨none,[]⟩,0,-1⟩]:=by unfold midSd;exact List.replicate_succ'
    have e2:(midSd W0 (i + 1) 0 ring sl []).ps.length = i + 1:=by simp [midSd]
    refine ⟨⟨HFI.out.w,by simp only [List.length_append,List.length_singleton];rw [hl,e2];simp [midSd]⟩,?_⟩
    unfold schP stl
    simp only
    rw [e2,e1,pcs_app hl,qds_app hl,locs,List.map_append]
    exact H5.out)
   clear H5 HFI hpl
   generalize w9.setCell ⟨b,12,none⟩ (.slice a9 (i + 1) c9) = w10 at *
   go_wp2
   exact ⟨⟨i + 1,_,by omega,by go_num,HFIN⟩,by simp [intOf];omega⟩
  ·have hge:¬ (i:Int) < (np:Int):=by omega
   obtain rfl:i = np:=by omega
   have g1:=(hr.out.2.cel 6 rfl 1 _ rfl).1
   go_wp2_with fail
   go_loopw [37] (fun iv wr=>∃ j:Nat,∃ S:Sa,j ≤ nm ∧ iv = .int .i64 j ∧ Hid (S.fits (midSd W0 i j ring sl []) ∧ Own w0 wr (schP b sp (midSd W0 i j ring sl []) S ++ (CelA qb [.int .i64 (i:Int),.int .i64 (nm:Int),.int .i64 ring,.int .i64 sl] :: R)))) (fun iv _=>nm - (intOf iv).toNat)
   case atStart=>exact ⟨0,S,by omega,rfl,hr⟩
   case round =>
    obtain ⟨j,S1,hj,rfl,hq⟩:=hrel
    clear hr g1
    by_cases hlt2:j < nm
    ·have hlt3:(j:Int) < (nm:Int):=by omega
     have hj0:(0:Int) ≤ (j:Int):=by omega
     have em:(midSd W0 i j ring sl []).ms.length = j:=by simp [midSd]
     have z13:=(hq.out.2.cel 0 rfl 13 _ rfl).1
     rw [em] at z13
     have o3:=hq.out.2.step (below_alloc1 wr (.cells #[.int .i64 (-1),.int .i64 (-1),.int .i64 0] 66))
     have z14:=(o3.cel 0 rfl 13 _ rfl)
     rw [em] at z14
     have hrow3:=o3.rowG 3 rfl
     rw [em] at hrow3
     have hpl:(mcs (midSd W0 i j ring sl []).ms).length = j * 3:=by rw [mcs_len];simp [midSd]
     have O3:=Lib.hid (And.intro o3 hrow3)
     have HFI:=Lib.hid hq.out.1
     obtain ⟨i0,hi1,hz0,hz1,hz2⟩:=info_parts info_mach
     have Hi:=Lib.hid hi1;clear hi1
     have Hz0:=Lib.hid hz0;clear hz0
     have Hz1:=Lib.hid hz1;clear hz1
     have Hz2:=Lib.hid hz2;clear hz2
     clear o3 hrow3 hq
     go_wp2_with (at_builtin;go_loud (refine wpList_append_rowG rfl _ _ 67 rfl 66 i0 _ Tryz.underlying67 Hi.out Hz0.out Hz1.out Hz2.out rfl (by decide) (by decide) (n:=j) (m:=1) (cs:=mcs (midSd W0 i j ring sl []).ms) (ds:=[.int .i64 (-1),.int .i64 (-1),.int .i64 0]) (by rfl) (by rfl) O3.out.2 (CellsAt.new _ [.int .i64 (-1),.int .i64 (-1),.int .i64 0] _ rfl) rfl (by simp [Value.oneCell']) (by omega) ?_))
     intro a9 c9 w9 k9 ch9 f9
     have o4:=Own.rowTurn (O3.out.1.pick 3 rfl) k9 ch9 (fun x hx=>by simpa using f9 x hx)
     obtain ⟨z8,f8⟩:=o4.cel 1 rfl 13 _ rfl
     have o5:=(((o4.setAt 1 rfl 13 (.slice a9 (j + 1) c9)).pick 3 rfl).pick 3 rfl).pick 3 rfl
     have HFIN:Hid (Sa.fits { S1 with ma:=a9,mc:=c9 } (midSd W0 i (j + 1) ring sl []) ∧ Own w0 (w9.setCell ⟨b,13,none⟩ (.slice a9 (j + 1) c9)) (schP b sp (midSd W0 i (j + 1) ring sl []) { S1 with ma:=a9,mc:=c9 } ++ (CelA qb [.int .i64 (i:Int),.int .i64 (nm:Int),.int .i64 ring,.int .i64 sl] :: R))):=Lib.hid (by
      have e1:(midSd W0 i (j + 1) ring sl []).ms = (midSd W0 i j ring sl []).ms ++ [⟨-1,-1,0⟩]:=by unfold midSd;exact List.replicate_succ'
      have e2:(midSd W0 i (j + 1) ring sl []).ms.length = j + 1:=by simp [midSd]
      refine ⟨⟨HFI.out.w,HFI.out.l⟩,?_⟩
      unfold schP stl
      simp only
      rw [e2,e1,mcs_app]
      exact o5)
     clear o4 o5 k9 ch9 f9 O3 HFI hpl z13 z14 em
     go_wp2
     exact ⟨⟨j + 1,_,by omega,by go_num,HFIN⟩,by simp [intOf];omega⟩
    ·have hge3:¬ (j:Int) < (nm:Int):=by omega
     obtain rfl:j = nm:=by omega
     have HP:=Lib.hid (fun (wx:World) (hx:Own w0 wx (schP b sp (midSd W0 i j ring sl []) S1 ++ (CelA qb [.int .i64 (i:Int),.int .i64 (j:Int),.int .i64 ring,.int .i64 sl] :: R))) (a:Option Addr) (hm:IntsAt wx a [0])=>sd_gput (L:=⟨S1.pa,S1.ma,S1.ld,S1.mc⟩) ⟨S1,hq.out.1,⟨rfl,⟨rfl,rfl⟩,rfl⟩,hx⟩ a 1 1 [0] rfl hm (by simp [midSd]))
     have HO:=Lib.hid (hq.out.2.step (below_alloc1 wr (.cells #[.int .i64 0] 3)))
     clear hq
     go_wp2_with fail
     refine (HP.out _ HO.out _ (RowAt.one wr 0 3 rfl).ints).mono ?_
     rintro r w9 ⟨rfl,h9⟩
     have HF:Hid (Own w0 w9 (SchA b sp (newSd W0 i j ring sl) :: R)):=Lib.hid (h9.less.to)
     clear h9 HP HO
     go_wp2
     go_ret
     exact ⟨b,rfl,HF.out⟩
theorem oracle_draw {S:Src} (h:S.tape = []) (kind:Int) (n:Nat) (hn:1 ≤ n):drawAt S S.taken.length kind (cnt (n:Int)) = some (S.nums.getD S.taken.length 0 % n):=by
 have hc:cnt (n:Int) = n:=by unfold cnt;omega
 unfold drawAt
 rw [h,hc]
 simp
theorem StepP.pick {w0:World} {b sp:Nat} {L:Sl} {S:Src} {X:Sd} {R:List Asr} {j:Nat} {r:Ending} {w':World} (h:StepP w0 b sp L (srcD sp 0) S X R j r w') (ht:S.tape = []) (hlt:S.taken.length < S.nums.length) (m:Nat) (hm:m = S.nums.getD S.taken.length 0 % (X.ms.length + 1)) (ha:asks2 X m = none) :
  ∃ ra rc,r = .returned (evV (stepM X m 0).2 ra rc) ∧ SAt w0 w' b sp L (stepM X m 0).1 (RowGA 1 ra rc (stepM X m 0).2.rd.length (intc (stepM X m 0).2.rd) :: SrcA sp 0 (S.take 1 m) .nilFunc :: R):=by
 have hmany:S.many = S.nums.length:=by unfold Src.many;rw [ht];simp
 have hd:=oracle_draw ht 1 (X.ms.length + 1) (by omega)
 rw [← hm] at hd
 have hd':drawAt S S.taken.length 1 (cnt ((X.ms.length:Int) + 1)) = some m:=hd
 have hdv:∀ (m':Nat) s1,(srcD sp 0).Dv S 1 ((X.ms.length:Int) + 1) (m':Int) s1 → m' = m ∧ s1 = S.take 1 m:=fun m' s1 hh=>by
  obtain ⟨-,u,e1,e2,e3⟩:=hh
  rw [hd'] at e2
  cases e2
  exact ⟨by omega,e3⟩
 rcases h with ⟨m',v,s1,s',ra,rc,h1,h2,h3,h4,h5,h6⟩ | ⟨ch,s',h1,h2,h3,h4⟩
 ·obtain ⟨rfl,rfl⟩:=hdv _ _ h2
  rcases h3 with ⟨-,rfl,rfl⟩ | ⟨k,n,e,-⟩
  ·exact ⟨ra,rc,h5,h6⟩
  ·rw [ha] at e;cases e
 ·rcases h2 with h2 | ⟨m',s1,kd,n,-,k1,k2,-⟩
  ·obtain ⟨-,h2⟩:=h2
   rcases h2 with ⟨e,-⟩ | ⟨-,e,-⟩
   ·omega
   ·rw [hd'] at e;cases e
  ·obtain ⟨rfl,-⟩:=hdv _ _ k1
   rw [ha] at k2;cases k2
def a18W:Wd:=newM [[(20,0,0,0),(10,0,0,0)]] [] [] 0
def a18X0:Sd:=newSd a18W 1 1 2 9
def a18S (k:Nat):Src:=⟨[],[0,0,0,0],List.replicate k (1,0)⟩
def a18X1:Sd:=(stepM a18X0 0 0).1
def a18X2:Sd:=(stepM a18X1 0 0).1
def a18X3:Sd:=(stepM a18X2 0 0).1
def a18X4:Sd:=(stepM a18X3 0 0).1
theorem a18_pw:PW [[(20,0,0,0),(10,0,0,0)]] [] 0 0:=⟨by decide,by decide,by decide,by decide,fun k hk=>by simp at hk,by decide,by decide⟩
theorem a18_wf0:SdWF 0 a18X0:=newSd_wf (rooms:=[]) a18_pw (by omega) (by omega) (by omega)
theorem a18_1:(stepM a18X0 0 0).2 = ⟨2,0,-1,[]⟩ ∧ asks2 a18X0 0 = none ∧ overM a18X0 = 0 ∧ a18X0.W.en = 0 ∧ a18X0.ms.length = 1:=⟨rfl,rfl,rfl,rfl,rfl⟩
theorem a18_2:(stepM a18X1 0 0).2 = ⟨4,0,0,[]⟩ ∧ asks2 a18X1 0 = none ∧ overM a18X1 = 0 ∧ a18X1.W.en = 0 ∧ a18X1.ms.length = 1:=⟨rfl,rfl,rfl,rfl,rfl⟩
theorem a18_3:(stepM a18X2 0 0).2 = ⟨7,0,0,[]⟩ ∧ asks2 a18X2 0 = none ∧ overM a18X2 = 0 ∧ a18X2.W.en = 0 ∧ a18X2.ms.length = 1:=⟨rfl,rfl,rfl,rfl,rfl⟩
theorem a18_4:(stepM a18X3 0 0).2 = ⟨7,0,0,[]⟩ ∧ asks2 a18X3 0 = none ∧ overM a18X3 = 0 ∧ a18X3.W.en = 0 ∧ a18X3.ms.length = 1 ∧ overM a18X4 = 1 ∧ a18X4.st = 4:=⟨rfl,rfl,rfl,rfl,rfl,rfl,rfl⟩
theorem a18_wf1:SdWF 1 a18X1:=a18_wf0.step (by omega) (by decide) rfl (fun k n e=>by cases e)
theorem a18_wf2:SdWF 2 a18X2:=a18_wf1.step (by omega) (by decide) rfl (fun k n e=>by cases e)
theorem a18_wf3:SdWF 3 a18X3:=a18_wf2.step (by omega) (by decide) rfl (fun k n e=>by cases e)
theorem a18_ok (sp k j:Nat) (h:k ≤ 4) (hj:j ≤ 100):(srcD sp 0).ok j (a18S k):=by
 refine ⟨⟨fun r hr=>by simp [a18S] at hr,fun n hn=>by simp [a18S] at hn;omega⟩,(by first | exact ⟨fun _=>rfl,(fun e=>by cases e),by omega⟩ | exact ⟨fun _=>rfl,fun e=>by cases e⟩),by simp [a18S,Src.many],by simp [a18S,Src.many];omega,by simp [a18S];omega⟩
theorem a18_take (k:Nat):(a18S k).take 1 0 = a18S (k + 1):=by unfold a18S Src.take;simp only;rw [← List.replicate_succ']
theorem a18_lt (k:Nat) (hk:k < 4):(a18S k).taken.length < (a18S k).nums.length:=by simp [a18S];omega
theorem a18_num (k n:Nat):0 = (a18S k).nums.getD (a18S k).taken.length 0 % (n + 1):=by
 have e:∀ i,([0,0,0,0]:List Nat).getD i 0 = 0:=fun i=>by rcases i with _ | _ | _ | _ | i <;> simp
 show 0 = ([0,0,0,0]:List Nat).getD _ 0 % (n + 1)
 rw [e];simp
theorem a18_go {w0 w:World} {b sp:Nat} {L:Sl} {X:Sd} {R:List Asr} {k B:Nat} (h:SAt w0 w b sp L X (SrcA sp 0 (a18S k) .nilFunc :: R)) (hk:k < 4) (wf:SdWF B X) (hB:B ≤ 80000) {e:Ev} (ha:(stepM X 0 0).2 = e ∧ asks2 X 0 = none ∧ overM X = 0 ∧ X.W.en = 0 ∧ X.ms.length = 1) :
  Calls Tryz.prog 22 #[.pointer (some ⟨b,0,none⟩)] w fun r w'=>∃ ra rc,r = .returned (evV e ra rc) ∧ SAt w0 w' b sp L (stepM X 0 0).1 (SrcA sp 0 (a18S (k + 1)) .nilFunc :: R):=by
 obtain ⟨h1,h2,h3,h4,h5⟩:=ha
 refine (step_any (D:=srcD sp 0) (s:=a18S k) (R:=R) (j:=0) h (a18_ok sp k 2 (by omega) (by omega)) wf hB h3 h4).mono (fun r w' hh=>?_)
 obtain ⟨ra,rc,k1,k2⟩:=StepP.pick (S:=a18S k) hh rfl (a18_lt k hk) 0 (a18_num k _) h2
 rw [a18_take] at k2
 exact ⟨ra,rc,by rw [k1,h1],k2.less⟩
theorem awake18_any (w:World):Calls Tryz.prog 7 #[] w fun r w'=>r = .returned (.bool true) ∧ Below w.heap.size w w':=by
 go_enter Tryz.func7,Tryz.ntmps7
 go_upto_region 2 with fail
 have o0:Own w ((w.alloc (.cells #[.int .i64 20,.int .i64 0,.int .i64 0,.int .i64 0,.int .i64 10,.int .i64 0,.int .i64 0,.int .i64 0] 34)).alloc (.cells #[.slice (some ⟨w.heap.size,0,none⟩) 2 2] 31)) []:=Own.nil (below_on (below_alloc1 _ _) (below_alloc1 _ _))
 have hp:ProgIn ((w.alloc (.cells #[.int .i64 20,.int .i64 0,.int .i64 0,.int .i64 0,.int .i64 10,.int .i64 0,.int .i64 0,.int .i64 0] 34)).alloc (.cells #[.slice (some ⟨w.heap.size,0,none⟩) 2 2] 31)) (some ⟨w.heap.size + 1,0,none⟩) [(some ⟨w.heap.size,0,none⟩,2)] [[(20,0,0,0),(10,0,0,0)]] none [] none 0 []:=by
  refine ⟨CellsAt.new _ [.slice (some ⟨w.heap.size,0,none⟩) 2 2] _ (by simp),rfl,fun i r l hr hl=>?_,CellsAt.nil _ _,CellsAt.nil _ _,fun _=>rfl,by decide,by decide,by decide⟩
  cases i with
  | zero =>
   simp at hr hl
   subst hr hl
   exact ⟨(CellsAt.new w [.int .i64 20,.int .i64 0,.int .i64 0,.int .i64 0,.int .i64 10,.int .i64 0,.int .i64 0,.int .i64 0] _ rfl).below (below_alloc1 _ _),(fun h=>by cases h),by decide⟩
  | succ i=>simp at hr
 have o1:=o0.alloc [.slice (some ⟨w.heap.size + 1,0,none⟩) 1 1,.slice none 0 0,.int .i64 0,.slice none 0 0] 41 (b:=w.heap.size + 1 + 1) (by simp)
 have hp1:=hp.below (below_alloc1 _ (.cells [.slice (some ⟨w.heap.size + 1,0,none⟩) 1 1,.slice none 0 0,.int .i64 0,.slice none 0 0].toArray 41))
 clear hp o0
 generalize ((w.alloc (.cells #[.int .i64 20,.int .i64 0,.int .i64 0,.int .i64 0,.int .i64 10,.int .i64 0,.int .i64 0,.int .i64 0] 34)).alloc (.cells #[.slice (some ⟨w.heap.size,0,none⟩) 2 2] 31)).alloc (.cells [.slice (some ⟨w.heap.size + 1,0,none⟩) 1 1,.slice none 0 0,.int .i64 0,.slice none 0 0].toArray 41) = w1 at *
 generalize hq2:w.heap.size + 1 + 1 = q2 at *
 generalize hq1:w.heap.size + 1 = q1 at *
 generalize hq0:w.heap.size = q0 at *
 have HQ0:=Lib.hid hq0
 clear hq0 hq1 hq2
 have h1:=o1.step (below_drew1 w1)
 have hp2:=hp1.below (below_drew1 w1)
 have HSB:Hid (∀ (wx:World) (As:List Asr),Own w wx (As ++ [CelA q2 [.slice (some ⟨q1,0,none⟩) 1 1,.slice none 0 0,.int .i64 0,.slice none 0 0]]) → wx.cell? ⟨q2,0,none⟩ = some (.slice (some ⟨q1,0,none⟩) 1 1) ∧ wx.cell? ⟨q2,1,none⟩ = some (.slice none 0 0) ∧ wx.cell? ⟨q2,2,none⟩ = some (.int .i64 0) ∧ wx.cell? ⟨q2,3,none⟩ = some (.slice none 0 0)):=Lib.hid (fun wx As hx=>by
  have h:=Own.dropL hx
  exact ⟨(h.cel 0 rfl 0 _ rfl).1,(h.cel 0 rfl 1 _ rfl).1,(h.cel 0 rfl 2 _ rfl).1,(h.cel 0 rfl 3 _ rfl).1⟩)
 refine wp_region_lexH (fun wx=>wx.cell? ⟨q2,0,none⟩ = some (.slice (some ⟨q1,0,none⟩) 1 1) ∧ wx.cell? ⟨q2,1,none⟩ = some (.slice none 0 0) ∧ wx.cell? ⟨q2,2,none⟩ = some (.int .i64 0) ∧ wx.cell? ⟨q2,3,none⟩ = some (.slice none 0 0)) 6 (Array.replicate 6 false) (by kernel_rfl) (by kernel_rfl) ?_
 generalize w1.drew = w2 at *
 refine wpAnyH_seg 0 2 _ #[true,true,false,false,false,false] 4 (by kernel_rfl) noPanic_put (HSB.out _ [] h1) (by kernel_rfl) ?_
 simp only [List.take_succ_cons,List.take_zero,List.drop_zero]
 repeat ((first | refine wpSegH_no (by rfl) ?_ | (refine wpSegH_yes (by rfl) ?_;apply Exists.intro;apply And.intro;(· (intro wx hS;(try dsimp only at hS);go_simp;first | done | with_reducible rfl))));simp only [Act.put,List.setIfInBounds_toArray,List.set_cons_zero,List.set_cons_succ])
 refine wpSegH_nil ?_
 have hba:=below_alloc1 w2 (.cells #[.int .u64 0,.int .u64 0,.int .u64 0,.int .u64 0] 55)
 have o2:=h1.step hba
 have hp3:=hp2.below hba
 refine wpAnyH_one 2 _ #[true,true,true,false,false,false] 3 (by kernel_rfl) (fun K hK=>?_)
 have HKK:=Lib.hid hK
 clear hK
 simp only [List.drop_succ_cons,List.drop_zero]
 refine headH_mk (by rfl) ?_
 go_simp
 refine HKK.out _ _ (HSB.out _ [] o2) ?_
 clear HKK K
 refine wpAnyH_one 3 _ #[true,true,true,true,false,false] 2 (by kernel_rfl) (fun K hK=>?_)
 have HKK:=Lib.hid hK
 clear hK
 simp only [List.drop_succ_cons,List.drop_zero]
 refine headH_mk (by rfl) ?_
 go_simp
 refine (onew_any o2 (some ⟨w2.heap.size,0,none⟩) 4 [0,0,0,0] (CellsAt.new w2 (numc [0,0,0,0]) _ rfl) (fun e=>by cases e) (by decide)).mono ?_
 rintro r w3 ⟨sp,rfl,o3,hb3⟩
 have hp4:=hp3.below hb3
 refine HKK.out _ _ (HSB.out _ [_] o3) ?_
 clear HKK K
 refine wpAnyH_one 4 _ #[true,true,true,true,true,false] 1 (by kernel_rfl) (fun K hK=>?_)
 have HKK:=Lib.hid hK
 clear hK
 simp only [List.drop_succ_cons,List.drop_zero]
 refine headH_mk (by rfl) ?_
 go_simp
 refine (snew_any o3 (some ⟨q1,0,none⟩) 1 [(some ⟨q0,0,none⟩,2)] [[(20,0,0,0),(10,0,0,0)]] none 0 [] 0 none 0 [] hp4 (by decide) 1 1 2 9 (by omega) (by omega) sp).mono ?_
 rintro r w4 ⟨b,rfl,o4⟩
 refine HKK.out _ _ (HSB.out _ [_,_] o4) ?_
 clear HKK K
 refine wpAnyH_seg 5 1 _ #[true,true,true,true,true,true] 0 (by kernel_rfl) noPanic_put (HSB.out _ [_,_] o4) (by kernel_rfl) ?_
 simp only [List.take_succ_cons,List.take_zero,List.drop_succ_cons,List.drop_zero]
 repeat ((first | refine wpSegH_no (by rfl) ?_ | (refine wpSegH_yes (by rfl) ?_;apply Exists.intro;apply And.intro;(· (intro wx hS;(try dsimp only at hS);go_simp;first | done | with_reducible rfl))));simp only [Act.put,List.setIfInBounds_toArray,List.set_cons_zero,List.set_cons_succ])
 refine wpSegH_nil ?_
 refine wpAnyH_done (by kernel_rfl) (NoPanic.normal ?_) _
 obtain ⟨L,h4⟩:=o4.sat
 have H4:Hid (SAt w w4 b sp L a18X0 (SrcA sp 0 (a18S 0) .nilFunc :: [CelA q2 [.slice (some ⟨q1,0,none⟩) 1 1,.slice none 0 0,.int .i64 0,.slice none 0 0]])):=Lib.hid h4
 clear h1 o1 o2 o3 o4 h4 hp1 hp2 hp3 hp4 hba hb3 HSB
 have heq:∀ w,(binOp .eql 35 (.pointer (some ⟨b,0,none⟩)) (.pointer none)).run Tryz.prog w = .ok (.bool false) w:=fun _=>rfl
 have HA:=Lib.hid (a18_go H4.out (by omega) a18_wf0 (by omega) a18_1)
 go_wp2_with fail
 refine HA.out.mono ?_
 rintro r w5 ⟨ra1,rc1,rfl,h5⟩
 have HA2:=Lib.hid (a18_go (X:=a18X1) h5 (by omega) a18_wf1 (by omega) a18_2)
 clear h5 HA H4
 unfold evV
 go_wp2_with fail
 refine HA2.out.mono ?_
 rintro r w6 ⟨ra2,rc2,rfl,h6⟩
 have HA3:=Lib.hid (a18_go (X:=a18X2) h6 (by omega) a18_wf2 (by omega) a18_3)
 clear h6 HA2
 unfold evV
 go_wp2_with fail
 refine HA3.out.mono ?_
 rintro r w7 ⟨ra3,rc3,rfl,h7⟩
 have HX7:Hid (SAt w w7 b sp L a18X3 (SrcA sp 0 (a18S 3) .nilFunc :: [CelA q2 [.slice (some ⟨q1,0,none⟩) 1 1,.slice none 0 0,.int .i64 0,.slice none 0 0]])):=Lib.hid h7
 clear h7 HA3
 unfold evV
 simp only [List.length_nil]
 go_upto_region 6 with fail
 have h8:=((HX7.out.box [.int .i64 2,.int .i64 0,.int .i64 (-1),.slice ra1 0 rc1] 46).box [.int .i64 4,.int .i64 0,.int .i64 0,.slice ra2 0 rc2] 46).box [.int .i64 7,.int .i64 0,.int .i64 0,.slice ra3 0 rc3] 46
 simp only [World.size_alloc] at h8
 generalize (((w7.alloc (.cells [.int .i64 2,.int .i64 0,.int .i64 (-1),.slice ra1 0 rc1].toArray 46)).alloc (.cells [.int .i64 4,.int .i64 0,.int .i64 0,.slice ra2 0 rc2].toArray 46)).alloc (.cells [.int .i64 7,.int .i64 0,.int .i64 0,.slice ra3 0 rc3].toArray 46)) = w8 at *
 generalize w7.heap.size = p0 at *
 have h9:=h8.perm (List.perm_middle (a:=SrcA sp 0 (a18S 3) .nilFunc) (l₁:=[CelA (p0 + 1 + 1) _,CelA (p0 + 1) _,CelA p0 _]))
 have HA4:=Lib.hid (a18_go (X:=a18X3) h9 (by omega) a18_wf3 (by omega) ⟨a18_4.1,a18_4.2.1,a18_4.2.2.1,a18_4.2.2.2.1,a18_4.2.2.2.2.1⟩)
 clear h8 h9 HX7
 go_wp2_with fail
 refine HA4.out.mono ?_
 rintro r w9 ⟨ra4,rc4,rfl,ha⟩
 have hb:=ha.perm (List.perm_middle (a:=SrcA sp 0 (a18S 4) .nilFunc) (l₁:=[CelA (p0 + 1 + 1) _,CelA (p0 + 1) _,CelA p0 _])).symm
 have y1:=(hb.less.less.cel 0 _ rfl).1
 have y2:=(hb.less.cel 0 _ rfl).1
 have y3:=(hb.less.cel 2 _ rfl).1
 have y4:=(hb.cel 0 _ rfl).1
 have HS1:=Lib.hid (stat_any hb (by decide))
 have HS2:=Lib.hid (fun (wx:World) (hx:Below w9.heap.size w9 wx)=>ssteps_any (hb.step hx))
 have HBL:=Lib.hid hb.bel
 rw [show overM (stepM a18X3 0 0).1 = 1 from a18_4.2.2.2.2.2.1] at HS1
 rw [show (stepM a18X3 0 0).1.st = 4 from a18_4.2.2.2.2.2.2] at HS2
 clear ha hb HA4
 go_wp2_with fail
 refine HS1.out.mono ?_
 rintro r wa ⟨rfl,hba⟩
 have HS3:=Lib.hid (HS2.out _ hba)
 have HBB:=Lib.hid (below_on HBL.out hba)
 clear hba HS1 HS2
 go_wp2_with fail
 refine HS3.out.mono ?_
 rintro r wb ⟨rfl,rfl⟩
 go_wp2
 go_ret
 exact ⟨rfl,HBB.out⟩
def itM:Sd → List Nat → Sd
 | X,[]=>X
 | X,p :: t=>itM (stepM X p 0).1 t
def okM:Sd → List Nat → Bool
 | X,[]=>true
 | X,p :: t=>(decide (p ≤ X.ms.length) && (decide (asks2 X p = none) && (decide (overM X = 0) && (decide (X.W.en = 0) && decide (X.W.ks = []))))) && okM (stepM X p 0).1 t
theorem itM_app:∀ (a c:List Nat) (X:Sd),itM X (a ++ c) = itM (itM X a) c
 | [],c,X=>rfl
 | p :: t,c,X=>itM_app t c _
theorem okM_app:∀ (a c:List Nat) (X:Sd),okM X (a ++ c) = (okM X a && okM (itM X a) c)
 | [],c,X=>rfl
 | p :: t,c,X=>by
  show (_ && okM _ (t ++ c)) = ((_ && okM _ t) && _)
  rw [okM_app t c,← Bool.and_assoc]
  rfl
theorem okM_at {X:Sd} {l:List Nat} (h:okM X l = true) {i p:Nat} (hi:l[i]? = some p) :
  let Y:=itM X (l.take i);p ≤ Y.ms.length ∧ asks2 Y p = none ∧ overM Y = 0 ∧ Y.W.en = 0 ∧ itM X (l.take (i + 1)) = (stepM Y p 0).1:=by
 have hl:=(List.getElem?_eq_some_iff.1 hi).1
 have e:l = l.take i ++ p :: l.drop (i + 1):=by
  have h1:=(List.getElem?_eq_some_iff.1 hi).2
  rw [← h1,List.getElem_cons_drop,List.take_append_drop]
 have e2:l.take (i + 1) = l.take i ++ [p]:=by rw [List.take_add_one,hi];rfl
 intro Y
 rw [e,okM_app] at h
 simp only [okM,Bool.and_eq_true,decide_eq_true_eq] at h
 exact ⟨h.2.1.1,h.2.1.2.1,h.2.1.2.2.1,h.2.1.2.2.2.1,by rw [e2,itM_app];rfl⟩
theorem SdWF.its:∀ (l:List Nat) {B:Nat} {X:Sd},SdWF B X → okM X l = true → B + l.length ≤ 80000 → SdWF (B + l.length) (itM X l)
 | [],B,X,h,_,_=>h
 | p :: t,B,X,h,ho,hB=>by
  simp only [okM,Bool.and_eq_true,decide_eq_true_eq] at ho
  simp only [List.length_cons] at hB
  have h1:=h.step (by omega) ho.1.1 ho.1.2.2.2.1 (d:=0) (fun k n e=>by rw [ho.1.2.1] at e;cases e)
  rw [ho.1.2.2.2.2] at h1
  have h2:=SdWF.its t h1 ho.2 (by simp;omega)
  have e:B + (p :: t).length = B + ([]:List Cs3).length + 1 + t.length:=by simp;omega
  rw [e]
  exact h2
theorem okM_take {X:Sd} {l:List Nat} (h:okM X l = true) (i:Nat):okM X (l.take i) = true:=by
 have h2:=h
 rw [← List.take_append_drop i l,okM_app,Bool.and_eq_true] at h2
 exact h2.1
theorem LStep.pick {sp:Nat} {S:Src} {X:Sd} {j:Nat} {e:Ev} {k:Int} {X':Sd} {s':Src} (h:LStep (srcD sp 0) S X j e k X' s') (ht:S.tape = []) (hlt:S.taken.length < S.nums.length) (hov:overM X = 0) (m:Nat) (hm:m = S.nums.getD S.taken.length 0 % (X.ms.length + 1)) (ha:asks2 X m = none) :
  e = (stepM X m 0).2 ∧ k = 0 ∧ X' = (stepM X m 0).1 ∧ s' = S.take 1 m:=by
 have hmany:S.many = S.nums.length:=by unfold Src.many;rw [ht];simp
 have hd:=oracle_draw ht 1 (X.ms.length + 1) (by omega)
 rw [← hm] at hd
 have hd':drawAt S S.taken.length 1 (cnt ((X.ms.length:Int) + 1)) = some m:=hd
 have hdv:∀ (m':Nat) s1,(srcD sp 0).Dv S 1 ((X.ms.length:Int) + 1) (m':Int) s1 → m' = m ∧ s1 = S.take 1 m:=fun m' s1 hh=>by
  obtain ⟨-,u,e1,e2,e3⟩:=hh
  rw [hd'] at e2
  cases e2
  exact ⟨by omega,e3⟩
 rcases h with ⟨h0,-⟩ | ⟨-,-,⟨m',v,s1,h1,h2,h3,h4,h5,h6⟩ | ⟨r,h2,-⟩⟩
 ·exact absurd hov h0
 ·obtain ⟨rfl,rfl⟩:=hdv _ _ h2
  rcases h3 with ⟨-,rfl,rfl⟩ | ⟨k,n,e,-⟩
  ·exact ⟨h4,h5,h6,rfl⟩
  ·rw [ha] at e;cases e
 ·rcases h2 with h2 | ⟨m',s1,kd,n,-,k1,k2,-⟩
  ·obtain ⟨-,h2⟩:=h2
   rcases h2 with ⟨e,-⟩ | ⟨-,e,-⟩
   ·omega
   ·rw [hd'] at e;cases e
  ·obtain ⟨rfl,-⟩:=hdv _ _ k1
   rw [ha] at k2;cases k2
theorem itM_ms:∀ (l:List Nat) (X:Sd),(itM X l).ms.length = X.ms.length
 | [],X=>rfl
 | p :: t,X=>(itM_ms t _).trans (ms_pick X p 0)
def orS (nums pk:List Nat):Src:=⟨[],nums,pk.map fun p=>((1:Int),p)⟩
theorem orS_take (nums pk:List Nat) (p:Nat):(orS nums pk).take 1 p = orS nums (pk ++ [p]):=by simp [orS,Src.take]
theorem orS_ok (sp:Nat) {nums pk:List Nat} {j:Nat} (hn:∀ n ∈ nums,n < 18446744073709551616) (hl:pk.length ≤ nums.length) (hm:nums.length ≤ 1000000) (hj:pk.length + j ≤ 1000001):(srcD sp 0).ok j (orS nums pk):=by
 have e1:(orS nums pk).many = nums.length:=by simp [orS,Src.many]
 have e2:(orS nums pk).taken.length = pk.length:=by simp [orS]
 refine ⟨⟨fun r hr=>by simp [orS] at hr,hn⟩,(by first | exact ⟨fun _=>rfl,(fun e=>by cases e),by omega⟩ | exact ⟨fun _=>rfl,fun e=>by cases e⟩),by rw [e1];omega,by rw [e1,e2];exact hl,by rw [e2];exact hj⟩
theorem srcD_pan (sp:Nat):∀ (s:(srcD sp 0).T) (kd n:Int) (r:Ending) (s':(srcD sp 0).T),(srcD sp 0).Dp s kd n r s' → ∃ k u,Ended r k u ∧ (k = 1 ∨ k = 2):=by
 rintro s kd n r s' ⟨-,h | h⟩
 ·exact ⟨1,uz,.inr (.inl ⟨h.2,rfl,rfl⟩),.inl rfl⟩
 ·exact ⟨2,_,.inr (.inr ⟨_,_,_,_,h.2.2,rfl,rfl⟩),.inr rfl⟩
theorem pk_step {w0 w:World} {b sp:Nat} {X0:Sd} {nums pk:List Nat} {R:List Asr} {k p:Nat} (h:Own w0 w (SchA b sp (itM X0 (pk.take k)) :: SrcA sp 0 (orS nums (pk.take k)) .nilFunc :: R)) (wf:SdWF 0 X0) (ok:okM X0 pk = true) (hk:pk[k]? = some p)
  (hp:p = nums.getD k 0 % (X0.ms.length + 1)) (hkn:k < nums.length) (hn:∀ n ∈ nums,n < 18446744073709551616) (hm:nums.length ≤ 70000) :
  Calls Tryz.prog 13 #[.pointer (some ⟨b,0,none⟩)] w fun r w'=>∃ ra rc,r = .returned (.tuple #[evV (stepM (itM X0 (pk.take k)) p 0).2 ra rc,.int .i64 0]) ∧
   Own w0 w' (SchA b sp (itM X0 (pk.take (k + 1))) :: SrcA sp 0 (orS nums (pk.take (k + 1))) .nilFunc :: R):=by
 have hkl:=(List.getElem?_eq_some_iff.1 hk).1
 obtain ⟨q1,q2,q3,q4,q5⟩:=okM_at ok hk
 have etl:(pk.take k).length = k:=by rw [List.length_take];omega
 have hwf:=SdWF.its (pk.take k) wf (okM_take ok k) (by omega)
 refine (lstep_any (D:=srcD sp 0) (s:=orS nums (pk.take k)) (R:=R) (j:=0) h (orS_ok sp hn (by omega) (by omega) (by omega)) hwf (by omega) (.inl q4) (srcD_pan sp)).mono (fun r w' hh=>?_)
 obtain ⟨e,ra,rc,kk,X',s',hl,rfl,ho⟩:=hh
 have e2:(orS nums (pk.take k)).taken.length = k:=by simp [orS];omega
 obtain ⟨rfl,rfl,rfl,rfl⟩:=LStep.pick hl rfl (by rw [e2];exact hkn) q3 p (by rw [e2,itM_ms];exact hp) q2
 refine ⟨ra,rc,rfl,?_⟩
 rw [orS_take] at ho
 rw [q5,List.take_add_one,hk]
 exact ho.drop
def idA (N:Nat) (W:Wd) (tu:Nat) (sl:Int) (st:Nat):Sd:=⟨W,[⟨N,⟨none,[]⟩,tu,-1⟩],[⟨-1,-1,0⟩],[],sl,st⟩
def idB (N:Nat) (W:Wd) (tu:Nat) (sl:Int) (st:Nat):Sd:=⟨W,[⟨N,⟨none,[]⟩,tu,0⟩],[⟨0,-1,0⟩],[],sl,st⟩
theorem idA_step (N:Nat) (W:Wd) (tu:Nat) (sl:Int) (st:Nat):(stepM (idA N W tu sl st) 0 0).1 = idB N W tu sl (st + 1):=rfl
theorem idB_step (N:Nat) (W:Wd) (tu:Nat) (sl:Int) (st:Nat):(stepM (idB N W tu sl st) 0 0).1 = idA N W tu sl (st + 1):=by
 simp [stepM,pickedM,idB,idA,Sd.m,Sd.p,lookM,newTurnM,turnM,nearM,mTurn,mGet,mFetch,Sd.setP,Sd.setM]
theorem idA_ok (N:Nat) (W:Wd) (tu:Nat) (sl:Int) (st:Nat):asks2 (idA N W tu sl st) 0 = none:=rfl
theorem idB_ok (N:Nat) (W:Wd) (tu:Nat) (sl:Int) (st:Nat):asks2 (idB N W tu sl st) 0 = none:=by
 simp [asks2,idB,Sd.m,Sd.p,asksV]
def isIdle (X:Sd):Bool :=
 (decide (X.ps.length = 1) && (decide (X.ms.length = 1) && decide (X.gl = []))) && ((decide ((X.p 0).q.nx = none) && (decide ((X.p 0).q.l = []) && decide ((X.p 0).by_ = -1))) && (decide ((X.m 0).P = -1) && (decide ((X.m 0).G = -1) && decide ((X.m 0).L = 0))))
theorem isIdle_eq {X:Sd} (h:isIdle X = true):X = idA (X.p 0).N X.W (X.p 0).tu X.sl X.st:=by
 obtain ⟨W,ps,ms,gl,sl,st⟩:=X
 simp only [isIdle,Bool.and_eq_true,decide_eq_true_eq] at h
 obtain ⟨⟨h1,h2,h3⟩,⟨h4,h5,h6⟩,h7,h8,h9⟩:=h
 match ps,h1 with
 | [⟨N,⟨nx,l⟩,tu,by_⟩],_ =>
  match ms,h2 with
  | [⟨P,G,L⟩],_ =>
   simp [Sd.p,Sd.m] at h4 h5 h6 h7 h8 h9
   subst h3 h4 h5 h6 h7 h8 h9
   rfl
def okS (X:Sd) (p:Nat):Bool:=decide (p ≤ X.ms.length) && (decide (asks2 X p = none) && (decide (overM X = 0) && (decide (X.W.en = 0) && decide (X.W.ks = []))))
theorem okM_cons (X:Sd) (p:Nat) (t:List Nat):okM X (p :: t) = (okS X p && okM (stepM X p 0).1 t):=rfl
def idN (N:Nat) (W:Wd) (tu:Nat) (sl:Int) (st:Nat) (m:Nat):Sd:=if m % 2 = 0 then idA N W tu sl (st + m) else idB N W tu sl (st + m)
theorem idA_run {N:Nat} {W:Wd} {tu:Nat} {sl:Int} (h1:overM (idA N W tu sl 0) = 0) (h2:W.en = 0) (h3:W.ks = []):∀ (m st:Nat),(okM (idA N W tu sl st) (List.replicate m 0) = true ∧ itM (idA N W tu sl st) (List.replicate m 0) = idN N W tu sl st m) ∧
  (okM (idB N W tu sl st) (List.replicate m 0) = true ∧ itM (idB N W tu sl st) (List.replicate m 0) = if m % 2 = 0 then idB N W tu sl (st + m) else idA N W tu sl (st + m))
 | 0,st=>⟨⟨rfl,rfl⟩,rfl,rfl⟩
 | m + 1,st=>by
  have hA:okS (idA N W tu sl st) 0 = true:=by
   simp only [okS,Bool.and_eq_true,decide_eq_true_eq]
   exact ⟨by simp,idA_ok _ _ _ _ _,h1,h2,h3⟩
  have hB:okS (idB N W tu sl st) 0 = true:=by
   simp only [okS,Bool.and_eq_true,decide_eq_true_eq]
   exact ⟨by simp,idB_ok _ _ _ _ _,h1,h2,h3⟩
  obtain ⟨⟨a1,a2⟩,b1,b2⟩:=idA_run h1 h2 h3 m (st + 1)
  have e:st + 1 + m = st + (m + 1):=by omega
  rw [List.replicate_succ]
  refine ⟨⟨?_,?_⟩,?_,?_⟩
  ·rw [okM_cons,hA,idA_step,b1];rfl
  ·show itM (stepM (idA N W tu sl st) 0 0).1 (List.replicate m 0) = _
   rw [idA_step,b2,e]
   unfold idN
   by_cases hm:m % 2 = 0
   ·rw [if_pos hm,if_neg (by omega)]
   ·rw [if_neg hm,if_pos (by omega)]
  ·rw [okM_cons,hB,idB_step,a1];rfl
  ·show itM (stepM (idB N W tu sl st) 0 0).1 (List.replicate m 0) = _
   rw [idB_step,a2]
   unfold idN
   by_cases hm:m % 2 = 0
   ·rw [if_pos hm,if_neg (by omega),e]
   ·rw [if_neg hm,if_pos (by omega),e]
def wkC:Nat → Nat → Nat → Sd → Bool
 | 0,_,_,_=>false
 | f + 1,n,k,X=>if overM X = 0 then decide (k < 1200) && (okS X 0 && wkC f n (k + 1) (stepM X 0 0).1) else decide (overM X = 3 ∧ X.W.out.length = n)
def wkB (n:Nat) (X:Sd):Bool :=
 (decide (X.W.hp.length = n ∧ X.gl = [] ∧ (X.W.hp.map (·.seq)).Nodup) && okS X 1) && ((decide ((stepM X 1 0).2.kind = 1 ∧ (stepM X 1 0).2.rd.length = n) && decide ((stepM X 1 0).1.gl = (stepM X 1 0).2.rd)) && wkC 300 n 601 (stepM X 1 0).1)
def wkA:Nat → Nat → Nat → Sd → Bool
 | 0,_,_,_=>false
 | f + 1,n,k,X =>
  if isIdle X then (decide (k ≤ 600) && okS X 0) && wkB n (idN (X.p 0).N X.W (X.p 0).tu X.sl X.st (600 - k))
  else okS X 0 && wkA f n (k + 1) (stepM X 0 0).1
theorem wkA_run:∀ (f n k:Nat) (X:Sd),wkA f n k X = true → k ≤ 600 ∧ okM X (List.replicate (600 - k) 0) = true ∧ wkB n (itM X (List.replicate (600 - k) 0)) = true
 | 0,_,_,_,h=>by simp [wkA] at h
 | f + 1,n,k,X,h=>by
  unfold wkA at h
  split at h
  ·rename_i hid
   simp only [Bool.and_eq_true,decide_eq_true_eq] at h
   obtain ⟨⟨hk,ho⟩,hb⟩:=h
   have e:=isIdle_eq hid
   simp only [okS,Bool.and_eq_true,decide_eq_true_eq] at ho
   obtain ⟨-,-,o3,o4,o5⟩:=ho
   have o3':overM (idA (X.p 0).N X.W (X.p 0).tu X.sl 0) = 0:=o3
   obtain ⟨⟨r1,r2⟩,-⟩:=idA_run o3' o4 o5 (600 - k) X.st
   generalize (X.p 0).N = N at *
   generalize (X.p 0).tu = tu at *
   generalize X.W = W at *
   generalize X.sl = sl at *
   generalize X.st = st at *
   rw [e]
   exact ⟨hk,r1,by rw [r2];exact hb⟩
  ·rw [Bool.and_eq_true] at h
   obtain ⟨h1,h2,h3⟩:=wkA_run f n (k + 1) _ h.2
   have e:600 - k = (600 - (k + 1)) + 1:=by omega
   rw [e,List.replicate_succ,okM_cons,h.1,h2]
   exact ⟨by omega,rfl,h3⟩
theorem wkC_run:∀ (f n k:Nat) (X:Sd),k ≤ 1200 → wkC f n k X = true → ∃ J,k + J ≤ 1200 ∧ okM X (List.replicate J 0) = true ∧ overM (itM X (List.replicate J 0)) = 3 ∧ (itM X (List.replicate J 0)).W.out.length = n
 | 0,_,_,_,_,h=>by simp [wkC] at h
 | f + 1,n,k,X,hk,h=>by
  unfold wkC at h
  split at h
  ·simp only [Bool.and_eq_true,decide_eq_true_eq] at h
   obtain ⟨J,h1,h2,h3,h4⟩:=wkC_run f n (k + 1) _ (by omega) h.2.2
   refine ⟨J + 1,by omega,?_,?_,?_⟩
   ·rw [List.replicate_succ,okM_cons,h.2.1,h2];rfl
   ·rw [List.replicate_succ];exact h3
   ·rw [List.replicate_succ];exact h4
  ·simp only [decide_eq_true_eq] at h
   exact ⟨0,by omega,rfl,h.1,h.2⟩
def wkHead (n:Nat):List In4:=(1,1,1,0) :: (List.replicate n [((11:Int),(1:Int),(3:Int),(2:Int)),(3,3,3,1)]).flatten
def wkMain (n:Nat):List In4:=wkHead n ++ [(14,0,4,5)]
def wkChild:List In4:=[(1,1,1,0),(17,1,0,0),(20,0,0,0),(10,0,0,0)]
def wkFs (n:Nat):List (List In4):=[wkMain n,wkChild]
def wkX0 (n r s:Nat):Sd:=newSd (newM (wkFs n) [] [0] 0) 1 1 ((2 + r:Nat):Int) ((1 + s:Nat):Int)
def wkOk (n r s:Nat):Bool:=wkA 600 n 0 (wkX0 n r s)
end Go.Proofs.YtodjgipiomnnfaaGreat

open Go Go.RowKit
set_option linter.unusedVariables false
namespace Go.Proofs.YtodjgipiomnnfaaGreat
theorem some1_any (w:World) (x:Int) (m n:Nat) (hm:0 < m) (hm2:m ≤ 1000) (hn:(bits BinOp.and IntKind.i64 x 255).tmod (m:Int) = (n:Int)) (hn2:n ≤ 255) :
  Calls Tryz.prog 25 #[.int .i64 x,.int .i64 (m:Int)] w fun r w'=>r = .returned (.int .i64 (n:Int)) ∧ w' = w:=by
 have hz:(m:Int) ≠ 0:=by omega
 have hw:IntKind.i64.wrap (n:Int) = n:=by rw [IntKind.wrap_i64];omega
 go_enter Tryz.func25,Tryz.ntmps25
 go_wp2
 go_ret
 exact ⟨rfl,rfl⟩
def SmC (x:Int) (m n:Nat):Prop:=0 < m ∧ m ≤ 1000 ∧ (bits BinOp.and IntKind.i64 x 255).tmod (m:Int) = (n:Int) ∧ n < m ∧ n ≤ 255
theorem smC_any {x:Int} {m n:Nat} (h:SmC x m n) (w:World):Calls Tryz.prog 25 #[.int .i64 x,.int .i64 (m:Int)] w fun r w'=>r = .returned (.int .i64 (n:Int)) ∧ w' = w :=
 some1_any w x m n h.1 h.2.1 h.2.2.1 h.2.2.2.2
theorem smC_of (x:Int) (m:Nat) (hm:0 < m) (hm2:m ≤ 1000):∃ n,SmC x m n:=by
 obtain ⟨n,h1,h2,h3⟩:=small_of x m hm
 exact ⟨n,hm,hm2,h1,h2,h3⟩
theorem cfg_get {w:World} {q:Nat} {a b c d:Int} (e0:w.cell? ⟨q,0,none⟩ = some (.int .i64 a)) (e1:w.cell? ⟨q,1,none⟩ = some (.int .i64 b)) (e2:w.cell? ⟨q,2,none⟩ = some (.int .i64 c)) (e3:w.cell? ⟨q,3,none⟩ = some (.int .i64 d)) :
  (loadVar 23 ⟨q,0,none⟩).run Tryz.prog w = .ok (.agg #[.int .i64 a,.int .i64 b,.int .i64 c,.int .i64 d]) w:=by
 simp [go_sem,e0,e1,e2,e3]
theorem some18_any (w:World) (p m r s:Int) (a b c d:Nat) (ha:SmC p 5 a) (hb:SmC m 5 b) (hc:SmC r 5 c) (hd:SmC s 12 d) :
  Calls Tryz.prog 10 #[.agg #[.int .i64 p,.int .i64 m,.int .i64 r,.int .i64 s]] w fun e w' =>
   e = .returned (.agg #[.int .i64 (1 + (a:Int)),.int .i64 (1 + (b:Int)),.int .i64 (2 + (c:Int)),.int .i64 (1 + (d:Int))]) ∧ Below w.heap.size w w':=by
 have a5:=ha.2.2.2.1
 have b5:=hb.2.2.2.1
 have c5:=hc.2.2.2.1
 have d5:=hd.2.2.2.1
 have ka:=Lib.hid (smC_any ha)
 have kb:=Lib.hid (smC_any hb)
 have kc:=Lib.hid (smC_any hc)
 have kd:=Lib.hid (smC_any hd)
 clear ha hb hc hd
 go_enter Tryz.func10,Tryz.ntmps10
 go_upto_region 2 with fail
 have o0:Own w ((w.alloc (.cells #[.int .i64 p,.int .i64 m,.int .i64 r,.int .i64 s] 23)).alloc (.cells #[.int .i64 0,.int .i64 0,.int .i64 0,.int .i64 0] 23))
   [CelA (w.heap.size + 1) [.int .i64 0,.int .i64 0,.int .i64 0,.int .i64 0],CelA w.heap.size [.int .i64 p,.int .i64 m,.int .i64 r,.int .i64 s]]:=by
  have h:=((Own.nil (Below.refl _ w)).alloc [.int .i64 p,.int .i64 m,.int .i64 r,.int .i64 s] 23 (b:=w.heap.size) rfl).alloc [.int .i64 0,.int .i64 0,.int .i64 0,.int .i64 0] 23 (b:=w.heap.size + 1) (by simp)
  exact h
 generalize ((w.alloc (.cells #[.int .i64 p,.int .i64 m,.int .i64 r,.int .i64 s] 23)).alloc (.cells #[.int .i64 0,.int .i64 0,.int .i64 0,.int .i64 0] 23)) = w1 at *
 generalize w.heap.size + 1 = q1 at *
 generalize hq:w.heap.size = q at *
 have HQ:=Lib.hid hq
 clear hq
 have o1:=o0.step (below_drew1 w1)
 clear o0
 have SB:Hid (∀ wx:World,Own w wx [CelA q1 [.int .i64 0,.int .i64 0,.int .i64 0,.int .i64 0],CelA q [.int .i64 p,.int .i64 m,.int .i64 r,.int .i64 s]] → wx.cell? ⟨q,0,none⟩ = some (.int .i64 p) ∧ wx.cell? ⟨q,1,none⟩ = some (.int .i64 m) ∧ wx.cell? ⟨q,2,none⟩ = some (.int .i64 r) ∧ wx.cell? ⟨q,3,none⟩ = some (.int .i64 s)) :=
  Lib.hid (fun wx h=>⟨(h.cel 1 rfl 0 _ rfl).1,(h.cel 1 rfl 1 _ rfl).1,(h.cel 1 rfl 2 _ rfl).1,(h.cel 1 rfl 3 _ rfl).1⟩)
 refine wp_region_lexZ (fun wx=>wx.cell? ⟨q,0,none⟩ = some (.int .i64 p) ∧ wx.cell? ⟨q,1,none⟩ = some (.int .i64 m) ∧ wx.cell? ⟨q,2,none⟩ = some (.int .i64 r) ∧ wx.cell? ⟨q,3,none⟩ = some (.int .i64 s)) 22 (Array.replicate 22 false) (by kernel_rfl) (by kernel_rfl) ?_
 generalize w1.drew = w2 at *
 refine wpAnyZ_seg 0 3 _ #[true,true,true,false,false,false,false,false,false,false,false,false,false,false,false,false,false,false,false,false,false,false] 19 (by kernel_rfl) noPanic_put (SB.out _ o1) (by kernel_rfl) ?_
 simp only [List.take_succ_cons,List.take_zero,List.drop_zero]
 repeat ((first | refine wpSegH_no (by rfl) ?_ | (refine wpSegH_yes (by rfl) ?_;apply Exists.intro;apply And.intro;(· (intro wx hS;(try dsimp only at hS);go_simp;first | done | with_reducible rfl))));simp only [Act.put,List.setIfInBounds_toArray,List.set_cons_zero,List.set_cons_succ])
 refine wpSegH_nil ?_
 refine wpAnyZ_seg 5 3 _ #[true,true,true,false,false,true,true,true,false,false,false,false,false,false,false,false,false,false,false,false,false,false] 16 (by kernel_rfl) noPanic_put (SB.out _ o1) (by kernel_rfl) ?_
 simp only [List.take_succ_cons,List.take_zero,List.drop_succ_cons,List.drop_zero]
 repeat ((first | refine wpSegH_no (by rfl) ?_ | (refine wpSegH_yes (by rfl) ?_;apply Exists.intro;apply And.intro;(· (intro wx hS;(try dsimp only at hS);go_simp;first | done | with_reducible rfl))));simp only [Act.put,List.setIfInBounds_toArray,List.set_cons_zero,List.set_cons_succ])
 refine wpSegH_nil ?_
 refine wpAnyZ_seg 10 3 _ #[true,true,true,false,false,true,true,true,false,false,true,true,true,false,false,false,false,false,false,false,false,false] 13 (by kernel_rfl) noPanic_put (SB.out _ o1) (by kernel_rfl) ?_
 simp only [List.take_succ_cons,List.take_zero,List.drop_succ_cons,List.drop_zero]
 repeat ((first | refine wpSegH_no (by rfl) ?_ | (refine wpSegH_yes (by rfl) ?_;apply Exists.intro;apply And.intro;(· (intro wx hS;(try dsimp only at hS);go_simp;first | done | with_reducible rfl))));simp only [Act.put,List.setIfInBounds_toArray,List.set_cons_zero,List.set_cons_succ])
 refine wpSegH_nil ?_
 refine wpAnyZ_seg 15 3 _ #[true,true,true,false,false,true,true,true,false,false,true,true,true,false,false,true,true,true,false,false,false,false] 10 (by kernel_rfl) noPanic_put (SB.out _ o1) (by kernel_rfl) ?_
 simp only [List.take_succ_cons,List.take_zero,List.drop_succ_cons,List.drop_zero]
 repeat ((first | refine wpSegH_no (by rfl) ?_ | (refine wpSegH_yes (by rfl) ?_;apply Exists.intro;apply And.intro;(· (intro wx hS;(try dsimp only at hS);go_simp;first | done | with_reducible rfl))));simp only [Act.put,List.setIfInBounds_toArray,List.set_cons_zero,List.set_cons_succ])
 refine wpSegH_nil ?_
 refine wpAnyZ_one 3 _ #[true,true,true,true,false,true,true,true,false,false,true,true,true,false,false,true,true,true,false,false,false,false] 9 (by kernel_rfl) (fun K hK=>?_)
 have HKK:=Lib.hid hK
 clear hK
 simp only [List.drop_succ_cons,List.drop_zero]
 refine headH_mk (by rfl) ?_
 go_simp
 refine (ka.out _).mono ?_
 rintro e w3 ⟨rfl,rfl⟩
 refine HKK.out _ _ (SB.out _ o1) ?_
 clear HKK K
 refine wpAnyZ_seg 4 1 _ #[true,true,true,true,true,true,true,true,false,false,true,true,true,false,false,true,true,true,false,false,false,false] 8 (by kernel_rfl) noPanic_put (SB.out _ o1) (by kernel_rfl) ?_
 simp only [List.take_succ_cons,List.take_zero,List.drop_succ_cons,List.drop_zero]
 repeat ((first | refine wpSegH_no (by rfl) ?_ | (refine wpSegH_yes (by rfl) ?_;apply Exists.intro;apply And.intro;(· (intro wx hS;(try dsimp only at hS);go_simp;first | done | with_reducible rfl))));simp only [Act.put,List.setIfInBounds_toArray,List.set_cons_zero,List.set_cons_succ])
 refine wpSegH_nil ?_
 refine wpAnyZ_one 8 _ #[true,true,true,true,true,true,true,true,true,false,true,true,true,false,false,true,true,true,false,false,false,false] 7 (by kernel_rfl) (fun K hK=>?_)
 have HKK:=Lib.hid hK
 clear hK
 simp only [List.drop_succ_cons,List.drop_zero]
 refine headH_mk (by rfl) ?_
 go_simp
 refine (kb.out _).mono ?_
 rintro e w3 ⟨rfl,rfl⟩
 refine HKK.out _ _ (SB.out _ o1) ?_
 clear HKK K
 refine wpAnyZ_seg 9 1 _ #[true,true,true,true,true,true,true,true,true,true,true,true,true,false,false,true,true,true,false,false,false,false] 6 (by kernel_rfl) noPanic_put (SB.out _ o1) (by kernel_rfl) ?_
 simp only [List.take_succ_cons,List.take_zero,List.drop_succ_cons,List.drop_zero]
 repeat ((first | refine wpSegH_no (by rfl) ?_ | (refine wpSegH_yes (by rfl) ?_;apply Exists.intro;apply And.intro;(· (intro wx hS;(try dsimp only at hS);go_simp;first | done | with_reducible rfl))));simp only [Act.put,List.setIfInBounds_toArray,List.set_cons_zero,List.set_cons_succ])
 refine wpSegH_nil ?_
 refine wpAnyZ_one 13 _ #[true,true,true,true,true,true,true,true,true,true,true,true,true,true,false,true,true,true,false,false,false,false] 5 (by kernel_rfl) (fun K hK=>?_)
 have HKK:=Lib.hid hK
 clear hK
 simp only [List.drop_succ_cons,List.drop_zero]
 refine headH_mk (by rfl) ?_
 go_simp
 refine (kc.out _).mono ?_
 rintro e w3 ⟨rfl,rfl⟩
 refine HKK.out _ _ (SB.out _ o1) ?_
 clear HKK K
 refine wpAnyZ_seg 14 1 _ #[true,true,true,true,true,true,true,true,true,true,true,true,true,true,true,true,true,true,false,false,false,false] 4 (by kernel_rfl) noPanic_put (SB.out _ o1) (by kernel_rfl) ?_
 simp only [List.take_succ_cons,List.take_zero,List.drop_succ_cons,List.drop_zero]
 repeat ((first | refine wpSegH_no (by rfl) ?_ | (refine wpSegH_yes (by rfl) ?_;apply Exists.intro;apply And.intro;(· (intro wx hS;(try dsimp only at hS);go_simp;first | done | with_reducible rfl))));simp only [Act.put,List.setIfInBounds_toArray,List.set_cons_zero,List.set_cons_succ])
 refine wpSegH_nil ?_
 refine wpAnyZ_one 18 _ #[true,true,true,true,true,true,true,true,true,true,true,true,true,true,true,true,true,true,true,false,false,false] 3 (by kernel_rfl) (fun K hK=>?_)
 have HKK:=Lib.hid hK
 clear hK
 simp only [List.drop_succ_cons,List.drop_zero]
 refine headH_mk (by rfl) ?_
 go_simp
 refine (kd.out _).mono ?_
 rintro e w3 ⟨rfl,rfl⟩
 refine HKK.out _ _ (SB.out _ o1) ?_
 clear HKK K
 refine wpAnyZ_seg 19 2 _ #[true,true,true,true,true,true,true,true,true,true,true,true,true,true,true,true,true,true,true,true,true,false] 1 (by kernel_rfl) noPanic_put (SB.out _ o1) (by kernel_rfl) ?_
 simp only [List.take_succ_cons,List.take_zero,List.drop_succ_cons,List.drop_zero]
 repeat ((first | refine wpSegH_no (by rfl) ?_ | (refine wpSegH_yes (by rfl) ?_;apply Exists.intro;apply And.intro;(· (intro wx hS;(try dsimp only at hS);go_simp;first | done | with_reducible rfl))));simp only [Act.put,List.setIfInBounds_toArray,List.set_cons_zero,List.set_cons_succ])
 refine wpSegH_nil ?_
 obtain ⟨x0,y0⟩:=o1.cel 0 rfl 0 _ rfl
 obtain ⟨x1,y1⟩:=o1.cel 0 rfl 1 _ rfl
 obtain ⟨x2,y2⟩:=o1.cel 0 rfl 2 _ rfl
 obtain ⟨x3,y3⟩:=o1.cel 0 rfl 3 _ rfl
 have o2:=(((o1.set 0 (.int .i64 (1 + (a:Int)))).set 1 (.int .i64 (1 + (b:Int)))).set 2 (.int .i64 (2 + (c:Int)))).set 3 (.int .i64 (1 + (d:Int)))
 have z0:=(o2.cel 0 rfl 0 _ rfl).1
 have z1:=(o2.cel 0 rfl 1 _ rfl).1
 have z2:=(o2.cel 0 rfl 2 _ rfl).1
 have z3:=(o2.cel 0 rfl 3 _ rfl).1
 have O2:=Lib.hid o2.bel
 clear o1 o2 SB ka kb kc kd
 refine wpAnyZ_end 21 _ #[true,true,true,true,true,true,true,true,true,true,true,true,true,true,true,true,true,true,true,true,true,true] (by kernel_rfl) (fun K hK=>?_)
 have HKK:=Lib.hid hK
 clear hK
 simp only [List.drop_succ_cons,List.drop_zero]
 refine headH_mk (by rfl) ?_
 go_simp
 refine HKK.out _ _ (NoPanic.normal ?_)
 clear HKK K
 have EG:=cfg_get z0 z1 z2 z3
 clear z0 z1 z2 z3
 have E1:Hid (∀ k:Nat,k < 12 → IntKind.i64.wrap (1 + (k:Int)) = 1 + k):=Lib.hid (fun k hk=>by rw [IntKind.wrap_i64];omega)
 have E2:Hid (∀ k:Nat,k < 12 → IntKind.i64.wrap (2 + (k:Int)) = 2 + k):=Lib.hid (fun k hk=>by rw [IntKind.wrap_i64];omega)
 go_wp2
 rw [E1.out a (by omega),E1.out b (by omega),E1.out d (by omega),E2.out c (by omega)]
 exact bodyPost_ret (results_cell Tryz.results10 _ ⟨q1,0,none⟩ rfl EG) rfl ⟨rfl,by rw [← HQ.out] at *;exact O2.out⟩
theorem mk_app (l m:List In4):i4s (l ++ m) = i4s l ++ i4s m:=by unfold i4s;rw [List.flatMap_append]
theorem mk_cells {w:World} {b:Nat} {cs:List Value} (h:Blk w b cs):CellsAt w (some ⟨b,0,none⟩) cs:=fun j v hj=>⟨b,0,rfl,by rw [Nat.zero_add];exact (h j v hj).1⟩
theorem mk_ins:(Tryz.prog.info? 34).map (fun i=>(i.zero,i.size,i.bytes)) = some (some (.agg #[.int .i64 0,.int .i64 0,.int .i64 0,.int .i64 0]),4,32):=by kernel_rfl
theorem mk_u64 (n:Nat):(madeCells #[Value.int .u64 0] (n * 1)).toList = numc (List.replicate n 0):=by
 rw [Nat.mul_one,toList_madeCells_one];simp [numc]
theorem mk_nums (w:World) (n:Nat) (hn:n ≤ 1000000):∃ w1,(Instr.makeSlice 44 (.int .i64 (n:Int)) (.int .i64 (n:Int))).run Tryz.prog w = .ok (.slice (some ⟨w.heap.size,0,none⟩) n n) w1 ∧ RowG 1 w1 (some ⟨w.heap.size,0,none⟩) n n (numc (List.replicate n 0)) ∧ Below w.heap.size w w1:=by
 obtain ⟨i0,hi,hz0,hz1,hz2⟩:=info_parts info_u6
 obtain ⟨w1,h1,h2,h3⟩:=run_make_full (P:=Tryz.prog) w w.heap.size 44 55 i0 _ 1 Tryz.underlying44 hi hz0 hz1 .i64 .i64 n (by rw [hz2];omega) (by unfold maxLen;omega) (Nat.le_refl _)
 obtain ⟨a,cap,e,hr,hb⟩:=RowG.of_own h2
 simp only [Value.slice.injEq] at e
 obtain ⟨e1,e2,e3⟩:=e
 subst e1
 rw [← e3] at hr
 rw [show (Value.int .u64 0).cells = #[Value.int .u64 0] from rfl,mk_u64] at hr
 exact ⟨w1,h1,hr,(grownBy_chg h3).to_below0⟩
theorem wkHead_len (n:Nat):(wkHead n).length = 2 * n + 1:=by
 unfold wkHead
 rw [List.length_cons,List.length_flatten,List.map_replicate,List.sum_replicate_nat]
 simp;omega
theorem wkHead_succ (n:Nat):wkHead (n + 1) = wkHead n ++ [(11,1,3,2),(3,3,3,1)]:=by
 unfold wkHead
 rw [List.replicate_succ',List.flatten_append]
 simp
theorem wk_1:∀ r,r < 5 → ∀ s,s < 12 → wkOk 1 r s = true:=by decide +kernel
theorem wk_2:∀ r,r < 5 → ∀ s,s < 12 → wkOk 2 r s = true:=by decide +kernel
theorem wk_3:∀ r,r < 5 → ∀ s,s < 12 → wkOk 3 r s = true:=by decide +kernel
theorem wk_4:∀ r,r < 5 → ∀ s,s < 12 → wkOk 4 r s = true:=by decide +kernel
theorem wk_5:∀ r,r < 5 → ∀ s,s < 12 → wkOk 5 r s = true:=by decide +kernel
theorem wk_6:∀ r,r < 5 → ∀ s,s < 12 → wkOk 6 r s = true:=by decide +kernel
theorem wk_7:∀ r,r < 5 → ∀ s,s < 12 → wkOk 7 r s = true:=by decide +kernel
theorem wk_8:∀ r,r < 5 → ∀ s,s < 12 → wkOk 8 r s = true:=by decide +kernel
theorem wk_9:∀ r,r < 5 → ∀ s,s < 12 → wkOk 9 r s = true:=by decide +kernel
theorem wk_10:∀ r,r < 5 → ∀ s,s < 12 → wkOk 10 r s = true:=by decide +kernel
theorem wk_11:∀ r,r < 5 → ∀ s,s < 12 → wkOk 11 r s = true:=by decide +kernel
theorem wk_12:∀ r,r < 5 → ∀ s,s < 12 → wkOk 12 r s = true:=by decide +kernel
theorem wk_all (n r s:Nat) (hn:n < 12) (hr:r < 5) (hs:s < 12):wkOk (n + 1) r s = true :=
 match n,hn with
 | 0,_=>wk_1 r hr s hs
 | 1,_=>wk_2 r hr s hs
 | 2,_=>wk_3 r hr s hs
 | 3,_=>wk_4 r hr s hs
 | 4,_=>wk_5 r hr s hs
 | 5,_=>wk_6 r hr s hs
 | 6,_=>wk_7 r hr s hs
 | 7,_=>wk_8 r hr s hs
 | 8,_=>wk_9 r hr s hs
 | 9,_=>wk_10 r hr s hs
 | 10,_=>wk_11 r hr s hs
 | 11,_=>wk_12 r hr s hs
 | n + 12,h=>absurd h (by omega)
def zoz (m J:Nat):List Nat:=List.replicate m 0 ++ 1 :: List.replicate J 0
theorem zoz_len (m J:Nat):(zoz m J).length = m + 1 + J:=by simp [zoz];omega
theorem zoz_at {m J J2 k:Nat} (hJ:J ≤ J2) (hk:k < m + 1 + J):∃ p,(zoz m J)[k]? = some p ∧ p = (zoz m J2).getD k 0 % (1 + 1):=by
 unfold zoz
 rw [List.getD_eq_getElem?_getD]
 by_cases h:k < m
 ·rw [List.getElem?_append_left (by rw [List.length_replicate];exact h),List.getElem?_append_left (by rw [List.length_replicate];exact h),List.getElem?_replicate,if_pos h]
  exact ⟨0,rfl,rfl⟩
 ·rw [List.getElem?_append_right (by rw [List.length_replicate];omega),List.getElem?_append_right (by rw [List.length_replicate];omega),List.length_replicate]
  cases hm:k - m with
  | zero=>exact ⟨1,rfl,rfl⟩
  | succ m =>
   simp only [List.getElem?_cons_succ,List.getElem?_replicate]
   rw [if_pos (by omega),if_pos (by omega)]
   exact ⟨0,rfl,rfl⟩
theorem zoz_64 (m J:Nat):∀ x ∈ zoz m J,x < 18446744073709551616:=fun x hx=>by
 unfold zoz at hx
 rcases List.mem_append.1 hx with h | h
 ·have:=(List.mem_replicate.1 h).2;omega
 ·rcases List.mem_cons.1 h with h | h
  ·omega
  ·have:=(List.mem_replicate.1 h).2;omega
def wkPk (J:Nat):List Nat:=zoz 600 J
def wkNum:List Nat:=zoz 600 599
theorem wkNum_len:wkNum.length = 1200:=zoz_len 600 599
theorem wkPk_len (J:Nat):(wkPk J).length = 601 + J:=zoz_len 600 J
theorem itM_zoz (X:Sd) (m J:Nat):itM X (zoz m J) = itM (stepM (itM X (List.replicate m 0)) 1 0).1 (List.replicate J 0):=by unfold zoz;rw [itM_app];rfl
theorem okM_zoz {X:Sd} {m J:Nat} (h1:okM X (List.replicate m 0) = true) (h2:okS (itM X (List.replicate m 0)) 1 = true) (h3:okM (stepM (itM X (List.replicate m 0)) 1 0).1 (List.replicate J 0) = true):okM X (zoz m J) = true:=by
 unfold zoz
 rw [okM_app,h1,okM_cons,h2,h3]
 rfl
def wkY (n r s:Nat):Sd:=itM (wkX0 n r s) (List.replicate 600 0)
structure WkOk (n r s J:Nat):Prop where
 wf:SdWF 0 (wkX0 n r s)
 ok:okM (wkX0 n r s) (wkPk J) = true
 hJ:J ≤ 599
 hp:(wkY n r s).W.hp.length = n
 gl:(wkY n r s).gl = []
 sq:((wkY n r s).W.hp.map (·.seq)).Nodup
 kd:(stepM (wkY n r s) 1 0).2.kind = 1
 rd:(stepM (wkY n r s) 1 0).2.rd.length = n
 gl2:(stepM (wkY n r s) 1 0).1.gl = (stepM (wkY n r s) 1 0).2.rd
 fin:overM (itM (wkX0 n r s) (wkPk J)) = 3
 out:(itM (wkX0 n r s) (wkPk J)).W.out.length = n
def wkGood (n:Nat):Bool:=(wkFs n).all fun l=>l.all fun x=>decide (0 ≤ x.1 ∧ goodB (wkFs n).length 1 ([]:List Cs3).length ((0:Nat):Int) l.length x = some true)
theorem wk_good:∀ n,n < 12 → wkGood (n + 1) = true:=by decide +kernel
theorem wk_pw {n:Nat} (h:wkGood n = true) (hn:n ≤ 40):PW (wkFs n) [] ([0]:List Int).length 0:=by
 refine ⟨by show 1 ≤ 2 ∧ 2 ≤ 1000;omega,fun l hl=>?_,fun l hl x hx=>?_,by decide,fun k hk=>by simp at hk,by decide,by decide⟩
 ·simp [wkFs] at hl
  rcases hl with rfl | rfl
  ·unfold wkMain;rw [List.length_append,wkHead_len];simp;omega
  ·decide
 ·have h1:=List.all_eq_true.1 h l hl
  have h2:=List.all_eq_true.1 h1 x hx
  simpa using h2
theorem wk_ok (n r s:Nat) (hn:n < 12) (hr:r < 5) (hs:s < 12):∃ J,WkOk (n + 1) r s J:=by
 have h:=wk_all n r s hn hr hs
 obtain ⟨-,h1,h2⟩:=wkA_run 600 (n + 1) 0 _ h
 rw [Nat.sub_zero] at h1 h2
 change wkB (n + 1) (wkY (n + 1) r s) = true at h2
 unfold wkB at h2
 simp only [Bool.and_eq_true,decide_eq_true_eq] at h2
 obtain ⟨⟨⟨b1,b2,b8⟩,b3⟩,⟨⟨b4,b5⟩,b6⟩,b7⟩:=h2
 obtain ⟨J,j1,j2,j3,j4⟩:=wkC_run 300 (n + 1) 601 _ (by omega) b7
 have e:itM (wkX0 (n + 1) r s) (wkPk J) = itM (stepM (wkY (n + 1) r s) 1 0).1 (List.replicate J 0):=itM_zoz _ 600 J
 exact ⟨J,newSd_wf (rooms:=[0]) (wk_pw (wk_good n hn) (by omega)) (by omega) (by omega) (by omega),okM_zoz h1 b3 j2,by omega,b1,b2,b8,b4,b5,b6,by rw [e];exact j3,by rw [e];exact j4⟩
theorem wk_num {J k:Nat} (hJ:J ≤ 599) (hk:k < 601 + J):∃ p,(wkPk J)[k]? = some p ∧ p = wkNum.getD k 0 % (1 + 1):=zoz_at hJ (by omega)
theorem wk_num64:∀ x ∈ wkNum,x < 18446744073709551616:=zoz_64 600 599
theorem pk_row {w0 w:World} {b sp:Nat} {X0:Sd} {nums pk:List Nat} {R:List Asr} {k p:Nat} (h:Own w0 w (SchA b sp (itM X0 (pk.take k)) :: SrcA sp 0 (orS nums (pk.take k)) .nilFunc :: R)) (wf:SdWF 0 X0) (ok:okM X0 pk = true) (hk:pk[k]? = some p)
  (hp:p = nums.getD k 0 % (X0.ms.length + 1)) (hkn:k < nums.length) (hn:∀ n ∈ nums,n < 18446744073709551616) (hm:nums.length ≤ 70000) :
  Calls Tryz.prog 13 #[.pointer (some ⟨b,0,none⟩)] w fun r w'=>∃ ra rc,r = .returned (.tuple #[evV (stepM (itM X0 (pk.take k)) p 0).2 ra rc,.int .i64 0]) ∧ itM X0 (pk.take (k + 1)) = (stepM (itM X0 (pk.take k)) p 0).1 ∧
   Own w0 w' (RowGA 1 ra rc (stepM (itM X0 (pk.take k)) p 0).2.rd.length (intc (stepM (itM X0 (pk.take k)) p 0).2.rd) :: SchA b sp (itM X0 (pk.take (k + 1))) :: SrcA sp 0 (orS nums (pk.take (k + 1))) .nilFunc :: R):=by
 have hkl:=(List.getElem?_eq_some_iff.1 hk).1
 obtain ⟨q1,q2,q3,q4,q5⟩:=okM_at ok hk
 have etl:(pk.take k).length = k:=by rw [List.length_take];omega
 have hwf:=SdWF.its (pk.take k) wf (okM_take ok k) (by omega)
 refine (lstep_any (D:=srcD sp 0) (s:=orS nums (pk.take k)) (R:=R) (j:=0) h (orS_ok sp hn (by omega) (by omega) (by omega)) hwf (by omega) (.inl q4) (srcD_pan sp)).mono (fun r w' hh=>?_)
 obtain ⟨e,ra,rc,kk,X',s',hl,rfl,ho⟩:=hh
 have e2:(orS nums (pk.take k)).taken.length = k:=by simp [orS];omega
 obtain ⟨rfl,rfl,rfl,rfl⟩:=LStep.pick hl rfl (by rw [e2];exact hkn) q3 p (by rw [e2,itM_ms];exact hp) q2
 refine ⟨ra,rc,rfl,q5,?_⟩
 rw [orS_take] at ho
 rw [q5,List.take_add_one,hk]
 exact ho
theorem itM_st:∀ (l:List Nat) (X:Sd),(itM X l).st = X.st + l.length
 | [],X=>rfl
 | p :: t,X=>by
  have h:=itM_st t (stepM X p 0).1
  have e:(stepM X p 0).1.st = X.st + 1:=rfl
  show (itM (stepM X p 0).1 t).st = _
  rw [h,e,List.length_cons];omega
theorem srt_ex (l:List It) (h:(l.map (·.seq)).Nodup):∃ L:List It,(L.Pairwise fun x y=>ltI x y = true) ∧ L.Perm l:=by
 refine ⟨l.mergeSort (fun x y=>!ltI y x),?_,List.mergeSort_perm l _⟩
 have h1:=List.pairwise_mergeSort (le:=fun x y=>!ltI y x) (fun a b c=>by
  unfold ltI
  simp only [Bool.not_eq_true',decide_eq_false_iff_not]
  omega) (fun a b=>by
  unfold ltI
  simp only [Bool.or_eq_true,Bool.not_eq_true',decide_eq_false_iff_not]
  omega) l
 have h2:((l.mergeSort (fun x y=>!ltI y x)).map (·.seq)).Nodup:=((List.mergeSort_perm l _).map _).nodup_iff.2 h
 have h3:=List.pairwise_map.1 h2
 refine (h1.and h3).imp ?_
 intro a b hab
 obtain ⟨h4,h5⟩:=hab
 unfold ltI at *
 simp only [Bool.not_eq_true',decide_eq_false_iff_not,decide_eq_true_eq] at *
 omega
def ItemsT (t:TypeId) (w:World) (v:Value) (l:List It):Prop:=w.ownsRow 0 t 3 v l.length (icells l)
theorem ItemsT.slice {t:TypeId} {w:World} {v:Value} {l:List It} (h:ItemsT t w v l):∃ a cap,v = .slice a l.length cap ∧ l.length ≤ cap:=by
 rcases h.2 with ⟨rfl,h0⟩ | ⟨g,cap,cur,rfl,_,_,h1,_⟩
 ·exact ⟨none,0,by rw [h0],by omega⟩
 ·exact ⟨_,cap,rfl,h1⟩
theorem ItemsT.nil (t:TypeId) (w:World):ItemsT t w (.slice none 0 0) []:=World.ownsRow_nil _ _ _ _
theorem strict_eq {L:List It} (h:L.Pairwise fun x y=>ltI x y = true):∀ a ∈ L,∀ b ∈ L,leI a b → leI b a → a = b:=by
 induction L with
 | nil=>intro a ha;simp at ha
 | cons x L ih =>
  rw [List.pairwise_cons] at h
  intro a ha b hb h1 h2
  rw [leI_iff] at h1 h2
  rcases List.mem_cons.1 ha with ha1 | ha2
  ·rcases List.mem_cons.1 hb with hb1 | hb2
   ·rw [ha1,hb1]
   ·have h3:=h.1 b hb2;rw [ltI_iff] at h3;rw [ha1] at h1 h2;omega
  ·rcases List.mem_cons.1 hb with hb1 | hb2
   ·have h3:=h.1 a ha2;rw [ltI_iff] at h3;rw [hb1] at h1 h2;omega
   ·exact ih h.2 a ha2 b hb2 (by rw [leI_iff];exact h1) (by rw [leI_iff];exact h2)
theorem sorted_is {L K:List It} (h:L.Pairwise fun x y=>ltI x y = true) (hp:K.Perm L) (hs:K.Pairwise leI):K = L:=by
 have hL:L.Pairwise leI:=h.imp fun hxy=>leI.of_lt hxy
 exact hp.eq_of_pairwise (fun a b ha hb h1 h2=>strict_eq h a (hp.subset ha) b hb h1 h2) hs hL
theorem append_items {P:Program} {w:World} (t ty e:TypeId) (i:TypeInfo) (z:Value) (ht:P.underlying t = some (.slice e)) (hi:P.info? e = some i) (hz:i.zero = some z) (hsize:i.size = 3) (hby:i.bytes = 24) (hzs:z.cells.size = 3)
  {a b:Option Addr} {n cap m c:Nat} {l l2:List It} (ha:ItemsT e w (.slice a n cap) l) (hn:n = l.length) (hm:m = l2.length) (hb:0 < m → ∃ ad,b = some ad ∧ ∀ j u,(icells l2)[j]? = some u → w.cell? (ad.add j) = some u) (hl:n + m ≤ 1000000) :
  ∃ a' cap' w',(Builtin.append_ #[t,t] ty #[.slice a n cap,.slice b m c]).run P w = .ok (.slice a' (n + m) cap') w' ∧ ItemsT e w' (.slice a' (n + m) cap') (l ++ l2) ∧ Chg ((Value.slice a n cap).ownBlock.toList) w w' ∧ ∀ x ∈ (Value.slice a' (n + m) cap').ownBlock.toList,x ∈ (Value.slice a n cap).ownBlock.toList ∨ w.heap.size ≤ x:=by
 obtain ⟨a0,c0,hv,hc0⟩:=ha.slice
 simp only [Value.slice.injEq] at hv
 obtain ⟨rfl,_,rfl⟩:=hv
 by_cases h0:m = 0
 ·subst h0
  have:l2 = []:=List.length_eq_zero_iff.1 hm.symm
  subst this
  refine ⟨a,cap,w,?_,by simpa using ha,Chg.refl _ _,fun x hx=>.inl hx⟩
  cases a <;> cases b <;> simp [Builtin.append_,run_underlying ht,sizeOf,typeInfo,hi,Builtin.lenOf,Builtin.firstCells,storeCells,loadCells,loadCellsFrom,hn ▸ hc0]
 ·obtain ⟨ad,rfl,hcell⟩:=hb (by omega)
  unfold ItemsT at ha
  rw [← hn] at ha
  obtain ⟨g,cap',w',hr,h2,h3,h4,h5⟩:=run_append_lies (P:=P) w t ty 0 e i z 3 24 ht hi hz hsize hby hzs (by decide) (.slice a n cap) n (icells l) ha ad m c (icells l2) (by rw [icells_len,hm]) hcell (icells_one l2) (by omega) (by unfold maxLen;omega) (by omega) (Nat.zero_le _) _ rfl
  refine ⟨_,cap',w',hr,?_,grownBy_chg h3,fun x hx=>?_⟩
  ·unfold ItemsT
   rw [List.length_append,← hn,← hm,icells_app];exact h2
  ·simp [Value.ownBlock] at hx
   subst hx
   rcases h4 with h | h
   ·left;rw [h];simp
   ·right;omega
end Go.Proofs.YtodjgipiomnnfaaGreat
set_option linter.unusedVariables false
namespace Go.Proofs
open Go.Shelf
def Tryz.sort_ren:Go.Shelf.Ren:=⟨fun | 6=>53 | 14=>64 | 15=>65 | 20=>76 | 21=>77 | 22=>78 | 23=>79 | 24=>80 | 25=>81 | 26=>82 | 27=>83 | 28=>84 | 29=>85 | 46=>99 | 47=>100 | 48=>101 | 49=>102 | 50=>103 | 57=>123 | n=>n,fun | 0=>0 | 3=>3 | 4=>4 | 5=>5 | 9=>9 | 22=>56 | 24=>136 | 25=>138 | 39=>154 | 45=>171 | 46=>172 | 50=>159 | 53=>178 | 55=>55 | 66=>192 | 70=>196 | 76=>215 | 77=>105 | n=>n,fun | n=>n⟩
theorem Tryz.sort_lays:Go.Proofs.SlLaysF0.n6 Tryz.prog Tryz.sort_ren:={
 mixed:=by kernel_rfl
 f6:=⟨Tryz.f53.name,by kernel_rfl,Tryz.func53.trans (congrArg some (by kernel_rfl))⟩
 f14:=⟨Tryz.f64.name,by kernel_rfl,Tryz.func64.trans (congrArg some (by kernel_rfl))⟩
 f15:=Tryz.func65.trans (congrArg some (by kernel_rfl))
 f20:=⟨Tryz.f76.name,by kernel_rfl,Tryz.func76.trans (congrArg some (by kernel_rfl))⟩
 f21:=⟨Tryz.f77.name,by kernel_rfl,Tryz.func77.trans (congrArg some (by kernel_rfl))⟩
 f22:=⟨Tryz.f78.name,by kernel_rfl,Tryz.func78.trans (congrArg some (by kernel_rfl))⟩
 f23:=⟨Tryz.f79.name,by kernel_rfl,Tryz.func79.trans (congrArg some (by kernel_rfl))⟩
 f24:=⟨Tryz.f80.name,by kernel_rfl,Tryz.func80.trans (congrArg some (by kernel_rfl))⟩
 f25:=⟨Tryz.f81.name,by kernel_rfl,Tryz.func81.trans (congrArg some (by kernel_rfl))⟩
 f26:=⟨Tryz.f82.name,by kernel_rfl,Tryz.func82.trans (congrArg some (by kernel_rfl))⟩
 f27:=⟨Tryz.f83.name,by kernel_rfl,Tryz.func83.trans (congrArg some (by kernel_rfl))⟩
 f28:=Tryz.func84.trans (congrArg some (by kernel_rfl))
 f29:=Tryz.func85.trans (congrArg some (by kernel_rfl))
 f46:=⟨Tryz.f99.name,by kernel_rfl,Tryz.func99.trans (congrArg some (by kernel_rfl))⟩
 f47:=Tryz.func100.trans (congrArg some (by kernel_rfl))
 f48:=Tryz.func101.trans (congrArg some (by kernel_rfl))
 f49:=⟨Tryz.f102.name,by kernel_rfl,Tryz.func102.trans (congrArg some (by kernel_rfl))⟩
 f50:=⟨Tryz.f103.name,by kernel_rfl,Tryz.func103.trans (congrArg some (by kernel_rfl))⟩
 f57:=⟨Tryz.f123.name,by kernel_rfl,Tryz.func123.trans (congrArg some (by kernel_rfl))⟩
 t0:=Tryz.underlying0
 a0:=Tryz.isAgg0
 z0:=Tryz.sizeOf0
 v0:=Tryz.zeroValue0
 t3:=Tryz.underlying3
 a3:=Tryz.isAgg3
 z3:=Tryz.sizeOf3
 v3:=Tryz.zeroValue3
 t4:=Tryz.underlying4
 a4:=Tryz.isAgg4
 z4:=Tryz.sizeOf4
 v4:=Tryz.zeroValue4
 t5:=Tryz.underlying5
 a5:=Tryz.isAgg5
 z5:=Tryz.sizeOf5
 v5:=Tryz.zeroValue5
 t9:=Tryz.underlying9
 a9:=Tryz.isAgg9
 z9:=Tryz.sizeOf9
 v9:=Tryz.zeroValue9
 t22:=Tryz.underlying56
 a22:=Tryz.isAgg56
 z22:=Tryz.sizeOf56
 v22:=Tryz.zeroValue56
 t25:=Tryz.underlying138
 a25:=Tryz.isAgg138
 z25:=Tryz.sizeOf138
 v25:=Tryz.zeroValue138
 t39:=Tryz.underlying154
 a39:=Tryz.isAgg154
 z39:=Tryz.sizeOf154
 v39:=Tryz.zeroValue154
 t45:=Tryz.underlying171
 a45:=Tryz.isAgg171
 z45:=Tryz.sizeOf171
 v45:=Tryz.zeroValue171
 t46:=Tryz.underlying172
 a46:=Tryz.isAgg172
 z46:=Tryz.sizeOf172
 v46:=Tryz.zeroValue172
 t50:=Tryz.underlying159
 a50:=Tryz.isAgg159
 z50:=Tryz.sizeOf159
 v50:=Tryz.zeroValue159
 t53:=Tryz.underlying178
 a53:=Tryz.isAgg178
 z53:=Tryz.sizeOf178
 v53:=Tryz.zeroValue178
 t55:=Tryz.underlying55
 a55:=Tryz.isAgg55
 z55:=Tryz.sizeOf55
 v55:=Tryz.zeroValue55
 t66:=Tryz.underlying192
 a66:=Tryz.isAgg192
 z66:=Tryz.sizeOf192
 v66:=Tryz.zeroValue192
 t70:=Tryz.underlying196
 a70:=Tryz.isAgg196
 z70:=Tryz.sizeOf196
 v70:=Tryz.zeroValue196
 t76:=Tryz.underlying215
 a76:=Tryz.isAgg215
 z76:=Tryz.sizeOf215
 v76:=Tryz.zeroValue215
 t77:=Tryz.underlying105
 a77:=Tryz.isAgg105
 z77:=Tryz.sizeOf105
 v77:=Tryz.zeroValue105 }
end Go.Proofs
open Go Go.RowKit Go.Sort
set_option linter.unusedVariables false
namespace Go.Proofs.YtodjgipiomnnfaaGreat
theorem flat_items (l:List It):flatK itc 3 l.toArray = (icells l).toArray:=by
 apply Array.ext_getElem?
 intro t
 by_cases ht:t < l.length * 3
 ·obtain ⟨i,r,hr,rfl⟩:∃ i r,r < 3 ∧ t = i * 3 + r:=⟨t / 3,t % 3,Nat.mod_lt _ (by decide),by omega⟩
  have hi:i < l.length:=by omega
  obtain ⟨h1,h2,h3⟩:=icells_at l i hi
  have e:l.toArray[i]! = gI l i:=by rw [getElem!_pos _ i (by simpa using hi),gI_of hi];rfl
  have h:=get_flatK itc 3 l.toArray (i * 3 + r) (by simpa using ht)
  have d1:(i * 3 + r) / 3 = i:=by omega
  have d2:(i * 3 + r) % 3 = r:=by omega
  rw [d1,d2,e] at h
  have hs:i * 3 + r < (flatK itc 3 l.toArray).size:=by simpa using ht
  have hg:(flatK itc 3 l.toArray)[i * 3 + r]? = some ((itc (gI l i))[r]!):=by rw [Array.getElem?_eq_getElem hs,← h,getElem!_pos (flatK itc 3 l.toArray) (i * 3 + r) hs]
  rw [hg,List.getElem?_toArray]
  match r,hr with
  | 0,_=>rw [Nat.add_zero,h1];rfl
  | 1,_=>rw [h2];rfl
  | 2,_=>rw [h3];rfl
 ·rw [Array.getElem?_eq_none (by simp;omega),Array.getElem?_eq_none (by simp [icells_len];omega)]
theorem holds_items {t:TypeId} {w:World} {g n cap:Nat} {l:List It} (h:ItemsT t w (.slice (some ⟨g,0,none⟩) n cap) l):HoldsK itc 3 w g 0 l.toArray ∧ g < w.heap.size:=by
 unfold HoldsK
 rw [flat_items]
 have hc:=World.ownsRow.cells h (g:=g) rfl
 rcases h.2 with ⟨hv,_⟩ | ⟨g',cap',cur,hv,hb,hg,_⟩
 ·simp at hv
 ·simp only [Value.slice.injEq,Option.some.injEq,Addr.mk.injEq,and_true] at hv
  obtain ⟨rfl,_,rfl⟩:=hv
  refine ⟨fun j hj=>⟨?_,by simp [World.frozen?,hg]⟩,(Array.getElem?_eq_some_iff.1 hg).1⟩
  have:=hc j ((icells l).toArray[j]!) (by rw [getElem!_pos _ j hj,← List.getElem?_toArray,Array.getElem?_eq_getElem hj])
  rw [Addr.add_lit,Nat.zero_add] at this
  rw [Nat.zero_add];exact this
theorem take_putCells (cur:Array Value) (ts:List Value) (h:ts.length ≤ cur.size):(putCells id 0 ts.toArray cur).toList.take ts.length = ts:=by
 apply List.ext_getElem?
 intro j
 by_cases hj:j < ts.length
 ·rw [List.getElem?_take_of_lt hj,Array.getElem?_toList]
  simp [putCells,hj,show j < cur.size by omega]
 ·rw [List.getElem?_take_eq_none (by omega),List.getElem?_eq_none (by omega)]
theorem sorted_items {t:TypeId} {w:World} {g n cap m:Nat} {os:Array Obj} {l l':List It} (h:ItemsT t w (.slice (some ⟨g,0,none⟩) n cap) l) (hl:l'.length = l.length) :
  ItemsT t (sortWorldK itc 3 w g 0 m l'.toArray os) (.slice (some ⟨g,0,none⟩) n cap) l' ∧ Chg [g] w (sortWorldK itc 3 w g 0 m l'.toArray os):=by
 unfold sortWorldK putRowK
 rw [flat_items]
 rcases h.2 with ⟨hv,_⟩ | ⟨g',cap',cur,hv,hb,hg,h1,h2,h3,h4⟩
 ·simp at hv
 ·simp only [Value.slice.injEq,Option.some.injEq,Addr.mk.injEq,and_true] at hv
  obtain ⟨rfl,hn,rfl⟩:=hv
  have hlt:=(Array.getElem?_eq_some_iff.1 hg).1
  constructor
  ·unfold ItemsT
   refine ⟨by rw [icells_len],.inr ⟨g,cap,putCells id 0 (icells l').toArray cur,by rw [hn,hl],hb,?_,by omega,h2,by simp [putCells,h3],?_⟩⟩
   ·rw [heap_grow_old _ _ (by simpa [putRow,mapBlock,Sort.ahead] using hlt)]
    simp [putRow,mapBlock,Sort.ahead,Array.getElem?_modify,hg,onCells]
   ·have:=take_putCells cur (icells l') (by rw [icells_len,h3];omega)
    rw [icells_len] at this;exact this
  ·refine ⟨rfl,rfl,rfl,by simp [grow,putRow,mapBlock,Sort.ahead],fun k hk hn=>?_⟩
   rw [heap_grow_old _ _ (by simpa [putRow,mapBlock,Sort.ahead] using hk)]
   have:g ≠ k:=fun e=>hn (by simp [e])
   simp [putRow,mapBlock,Sort.ahead,Array.getElem?_modify,this]
theorem ltOf_cmpI (x y:It):ltOf cmpI x y = ltI x y:=by
 unfold ltOf
 have:=cmpI_lt x y
 by_cases h:ltI x y = true
 ·rw [h];simp;rw [this];exact h
 ·rw [Bool.not_eq_true] at h
  rw [h];simp
  have h':¬ (cmpI x y < 0):=by rw [this,h];simp
  omega
theorem swo_cmpI:SWO (ltOf cmpI) where
 irrefl x:=by rw [ltOf_cmpI];unfold ltI;simp
 trans x y z h1 h2:=by rw [ltOf_cmpI,ltI_iff] at *;omega
 ntrans x y z h1 h2:=by
  rw [ltOf_cmpI] at *
  unfold ltI at *
  simp only [decide_eq_false_iff_not] at *
  omega
theorem grow3 (w:World) (a b c:Obj):(((w.alloc a).alloc b).alloc c).drew = grow (w.drewN 1) #[a,b,c]:=by
 rw [alloc_eq_grow,alloc_eq_grow,alloc_eq_grow,grow_grow,grow_grow];rfl
theorem compare_grow (x y:It) (w:World):Calls Tryz.prog 54 #[itv x,itv y] w fun r w'=>r = .returned (.int .i64 (cmpI x y)) ∧ ∃ q os',w' = grow (w.drewN q) os':=by
 have hI:cmpI x y = if cmpU x.at_ y.at_ = 0 then cmpU x.seq y.seq else cmpU x.at_ y.at_:=rfl
 generalize cmpI x y = c at hI ⊢
 obtain ⟨xa,xs,xi⟩:=x
 obtain ⟨ya,ys,yi⟩:=y
 simp only at hI
 unfold itv
 obtain ⟨s0,hs0⟩:∃ s0,s0 = w.heap.size:=⟨_,rfl⟩
 have hO:Own w ((w.alloc (.cells #[.int .u64 xa,.int .u64 xs,.int .i64 xi] 136)).alloc (.cells #[.int .u64 ya,.int .u64 ys,.int .i64 yi] 136)) [CelA (s0 + 1) [.int .u64 ya,.int .u64 ys,.int .i64 yi],CelA s0 [.int .u64 xa,.int .u64 xs,.int .i64 xi]] :=
  ((Own.nil (Below.refl _ _)).alloc _ _ hs0).alloc _ _ (by simp [hs0])
 have HO:=Lib.hid hO
 have HI:=Lib.hid hI
 clear hO hI
 go_enter Tryz.func54,Tryz.ntmps54
 go_upto_region 1 with fail
 rw [← hs0]
 clear hs0
 obtain ⟨W,hW⟩:∃ W,(w.alloc (.cells #[.int .u64 xa,.int .u64 xs,.int .i64 xi] 136)).alloc (.cells #[.int .u64 ya,.int .u64 ys,.int .i64 yi] 136) = W:=⟨_,rfl⟩
 rw [hW] at HO ⊢
 have HW:=Lib.hid hW
 clear hW
 obtain ⟨g0,-⟩:=HO.out.cel 1 rfl 0 _ rfl
 obtain ⟨g1,-⟩:=HO.out.cel 1 rfl 1 _ rfl
 obtain ⟨g2,-⟩:=HO.out.cel 0 rfl 0 _ rfl
 obtain ⟨g3,-⟩:=HO.out.cel 0 rfl 1 _ rfl
 have hk:∀ w',Below W.heap.size W w' → w'.cell? ⟨s0,0,none⟩ = some (.int .u64 xa) ∧ w'.cell? ⟨s0,1,none⟩ = some (.int .u64 xs) ∧ w'.cell? ⟨s0 + 1,0,none⟩ = some (.int .u64 ya) ∧ w'.cell? ⟨s0 + 1,1,none⟩ = some (.int .u64 ys) ∧ Below W.heap.size W w' :=
  fun w' hb=>⟨cell_below g0 hb,cell_below g1 hb,cell_below g2 hb,cell_below g3 hb,hb⟩
 have HK:=Lib.hid hk
 clear hk g0 g1 g2 g3 HO
 go_region_held3 (fun w'=>w'.cell? ⟨s0,0,none⟩ = some (.int .u64 xa) ∧ w'.cell? ⟨s0,1,none⟩ = some (.int .u64 xs) ∧ w'.cell? ⟨s0 + 1,0,none⟩ = some (.int .u64 ya) ∧ w'.cell? ⟨s0 + 1,1,none⟩ = some (.int .u64 ys) ∧ Below W.heap.size W w')
  ((refine HK.out _ ?_;repeat (first | exact Below.refl _ _ | exact lim4 (by assumption) | refine Below.drew ?_ | refine below_drewN ?_ _ | refine Below.alloc ?_ (by first | exact (lim4 (by assumption):Below W.heap.size W _).size | simp) _)))
  (first
   | (go_at_call 67;refine (cmpU_any _ _ _).mono ?_;rintro r w5 ⟨rfl,rfl⟩)
   | (go_at_call 66;refine (or_any (cmpU xa ya) (cmpU xs ys) _ _ (by simp) (by simp)).mono ?_;rintro r w6 ⟨rfl,rfl⟩;rw [← HI.out]))
 rename_i hHeld
 clear hHeld
 go_wp2
 go_ret
 have e:=grow3 w (.cells #[.int .u64 xa,.int .u64 xs,.int .i64 xi] 136) (.cells #[.int .u64 ya,.int .u64 ys,.int .i64 yi] 136) (.cells #[.int .i64 (cmpU xa ya),.int .i64 (cmpU xs ys)] 3)
 rw [HW.out] at e
 exact ⟨rfl,1,_,e⟩
theorem one_itc (x:It):∀ v ∈ itc x,v.oneCell' = true:=fun v hv=>by
 simp [itc] at hv;rcases hv with rfl | rfl | rfl <;> rfl
theorem cmpLays_any (blk size:Nat) (w:World):CmpLays Tryz.prog 54 #[] itc 3 cmpI blk 0 size w:=fun _ _ _ _ x y=>compare_grow x y _
theorem hsort_any (w:World) (g n cap:Nat) (l L:List It) (h:ItemsT 136 w (.slice (some ⟨g,0,none⟩) n cap) l) (hn:n = l.length) (hl:l.length ≤ 100000) (hL:L.Pairwise fun x y=>ltI x y = true) (hp:L.Perm l) :
  Calls Tryz.prog 53 #[.slice (some ⟨g,0,none⟩) n cap,.func (.func 54) #[] #[]] w fun r w'=>r = .returned (.tuple #[]) ∧ ItemsT 136 w' (.slice (some ⟨g,0,none⟩) n cap) L ∧ Chg [g] w w':=by
 obtain ⟨hH,hg⟩:=holds_items h
 have eg:∀ args w,(callFunc 54 args).run Tryz.prog w = .ok (.enter 54 args) w:=fun args w=>by kernel_rfl
 have hcon:=AnyQ.slices_SortFunc Tryz.sort_lays 3 Tryz.isAgg136 Tryz.sizeOf136 itc (fun _=>rfl) one_itc cmpI swo_cmpI 54 #[] g 0 cap l.toArray w eg (cmpLays_any g _ w) hH hg (by simp;omega)
 change Calls Tryz.prog 53 _ _ _ at hcon
 rw [List.size_toArray,← hn] at hcon
 refine hcon.mono ?_
 rintro r w' ⟨rfl,d',m,os,⟨hs,-,hperm⟩,hsort,rfl⟩
 have hs':d'.size = l.length:=by simpa using hs
 have e1:d'.extract 0 n = d':=by rw [hn,← hs'];exact Array.extract_size
 have e2:l.toArray.extract 0 n = l.toArray:=by
  have:=Array.extract_size (xs:=l.toArray)
  rw [List.size_toArray] at this
  rw [hn];exact this
 rw [e1,e2] at hperm
 have hK:d'.toList = L:=sorted_is hL (hperm.trans (by simpa using hp.symm)) (by
  rw [List.pairwise_iff_getElem]
  intro i j hi hj hij
  have hi':i < d'.size:=by simpa using hi
  have hj':j < d'.size:=by simpa using hj
  have:=hsort i j (Nat.zero_le _) hij (by omega)
  rw [ltOf_cmpI,getElem!_pos d' i hi',getElem!_pos d' j hj'] at this
  unfold leI
  simpa using this)
 obtain ⟨r1,r2⟩:=sorted_items (m:=m) (os:=os) h (l':=L) (by rw [← hK,Array.length_toList,hs'])
 rw [← hK,Array.toArray_toList] at r1 r2
 rw [hK] at r1
 exact ⟨rfl,r1,r2⟩
theorem wpList_append_items {P:Program} {w:World} {ops:Array Oper} {rest:List Oper} {o:Oper} {ac:Act} {Q:Exit → Act → World → Prop} (hgd:o.guard = none) (sl x:Operand) (t:TypeId)
  (ho:o.op = .call { callee:=.builtin .append,args:=#[sl,x],argTypes:=#[t,t] }) (e:TypeId) (i:TypeInfo) (z:Value) (ht:P.underlying t = some (.slice e)) (hi:P.info? e = some i) (hz:i.zero = some z) (hsize:i.size = 3) (hby:i.bytes = 24) (hzs:z.cells.size = 3)
  {a b:Option Addr} {n cap m c:Nat} {l l2:List It} (hs:ac.eval sl = .slice a n cap) (hx:ac.eval x = .slice b m c) (ha:ItemsT e w (.slice a n cap) l) (hn:n = l.length) (hm:m = l2.length) (hb:0 < m → ∃ ad,b = some ad ∧ ∀ j u,(icells l2)[j]? = some u → w.cell? (ad.add j) = some u) (hl:n + m ≤ 1000000)
  (h:∀ a' cap' w',ItemsT e w' (.slice a' (n + m) cap') (l ++ l2) → Chg ((Value.slice a n cap).ownBlock.toList) w w' → (∀ x ∈ (Value.slice a' (n + m) cap').ownBlock.toList,x ∈ (Value.slice a n cap).ownBlock.toList ∨ w.heap.size ≤ x) → wpList P ops Q rest (ac.put o.dst (.slice a' (n + m) cap')) w'):wpList P ops Q (o :: rest) ac w:=by
 refine wpList_plain hgd fun K hK=>?_
 obtain ⟨a',cap',w',hr,h2,h3,h4⟩:=append_items (P:=P) (w:=w) t o.type e i z ht hi hz hsize hby hzs ha hn hm (c:=c) hb hl
 unfold Oper.wp execOp
 simp only [ho,resolve,invoke,builtin,Sem.run_bind,Sem.run_pure,Result.andThen_ok,List.map_toArray,List.map_cons,List.map_nil,hs,hx,hr]
 exact hK _ _ (h a' cap' w' h2 h3 h4)
def Cloned (w:World) (l:List It) (r:Ending) (w':World):Prop :=
 ∃ v',r = .returned v' ∧ (v' = .slice none 0 0 ∧ l = [] ∨ ∃ g cap,v' = .slice (some ⟨g,0,none⟩) l.length cap) ∧ ItemsT 136 w' v' l ∧ (∀ y ∈ v'.ownBlock.toList,w.heap.size ≤ y) ∧ Below w.heap.size w w'
theorem hclone_any (w:World) (v:Value) (l:List It) (h:ItemsT 136 w v l) (hl:l.length ≤ 100000) :
  Calls Tryz.prog 52 #[v] w (Cloned w l):=by
 have h':=h
 rcases h'.2 with ⟨rfl,h0⟩ | ⟨g,cap,cur,rfl,-,-,hcap,-⟩
 ·have hl0:l = []:=List.length_eq_zero_iff.1 h0
  subst hl0
  have he:∀ w:World,(binOp .eql 56 (.slice none 0 0) (.slice none 0 0)).run Tryz.prog w = .ok (.bool true) w:=fun _=>rfl
  clear h h'
  go_enter Tryz.func52,Tryz.ntmps52
  go_wp2
  go_ret
  exact ⟨_,rfl,.inl ⟨rfl,rfl⟩,ItemsT.nil _ _,fun y hy=>by simp [Value.ownBlock] at hy,Below.refl _ _⟩
 ·obtain ⟨i0,hi0,hz0,hz1,hz2⟩:=info_parts info_item
  have Hi:=Lib.hid hi0;clear hi0
  have Hz0:=Lib.hid hz0;clear hz0
  have Hz1:=Lib.hid hz1;clear hz1
  have Hz2:=Lib.hid hz2;clear hz2
  have hn0:ItemsT 136 (w.alloc (.cells #[] 136)) (.slice (some ⟨w.heap.size,0,none⟩) 0 0) []:=World.ownsRow_made w #[] 0 (Nat.zero_le _) (by simp) (by simp)
  have hc:∀ j u,(icells l)[j]? = some u → (w.alloc (.cells #[] 136)).cell? ((⟨g,0,none⟩:Addr).add j) = some u:=fun j u hj=>by
   have h1:=World.ownsRow.cells h (g:=g) rfl j u hj
   rw [Addr.add_lit] at h1 ⊢
   exact cell_below h1 (below_alloc1 _ _)
  obtain ⟨n,hn⟩:∃ n,n = l.length:=⟨_,rfl⟩
  rw [← hn] at hcap hl ⊢
  have HN:=Lib.hid hn
  have HN0:=Lib.hid hn0
  have HC:=Lib.hid hc
  clear h h' hn hn0 hc
  have he:∀ w:World,(binOp .eql 56 (.slice (some ⟨g,0,none⟩) n cap) (.slice none 0 0)).run Tryz.prog w = .ok (.bool false) w:=fun _=>rfl
  go_enter Tryz.func52,Tryz.ntmps52
  go_wp2_with (at_builtin;go_loud (refine wpList_append_items (l:=[]) (l2:=l) rfl _ _ 56 rfl 136 i0 _ Tryz.underlying56 Hi.out Hz0.out Hz1.out Hz2.out rfl rfl rfl HN0.out rfl HN.out (fun _=>⟨_,rfl,HC.out⟩) (by omega) ?_);intro a1 c1 w1 k1 ch1 f1)
  have hb1:Below w.heap.size w w1:=Chg.below (below_alloc1 _ _) ch1 (fun x hx=>by simp [Value.ownBlock] at hx;omega)
  have hf:∀ y ∈ (Value.slice a1 (0 + n) c1).ownBlock.toList,w.heap.size ≤ y:=fun x hx=>by
   rcases f1 x hx with h | h
   ·simp [Value.ownBlock] at h;omega
   ·simp at h;omega
  have hk:ItemsT 136 w1 (.slice a1 (0 + n) c1) l:=by simpa using k1
  rw [Nat.zero_add] at hk hf
  have HF:Hid ((Value.slice a1 n c1 = .slice none 0 0 ∧ l = [] ∨ ∃ g cap,Value.slice a1 n c1 = .slice (some ⟨g,0,none⟩) l.length cap) ∧ ItemsT 136 w1 (.slice a1 n c1) l ∧ (∀ y ∈ (Value.slice a1 n c1).ownBlock.toList,w.heap.size ≤ y) ∧ Below w.heap.size w w1):=Lib.hid ⟨by
   rcases hk.2 with ⟨e1,e2⟩ | ⟨g,cap,cur,e1,_⟩
   ·exact .inl ⟨e1,List.length_eq_zero_iff.1 e2⟩
   ·exact .inr ⟨g,cap,by rw [e1]⟩,hk,hf,hb1⟩
  clear hk hf hb1 k1 ch1 f1
  go_wp2
  go_ret
  exact ⟨_,rfl,HF.out⟩
theorem hlist_any (w:World) (p:Hp) (v:Value) (l L:List It) (nx:Nat) (h:Blk w p.b (p.cs v (.int .u64 (nx:Int))) ∧ ItemsAt w v l ∧ True) (hl:l.length ≤ 100000) (hL:L.Pairwise fun x y=>ltI x y = true) (hp:L.Perm l) :
  Calls Tryz.prog 36 #[.pointer (some ⟨p.b,5,none⟩)] w fun r w'=>∃ v',r = .returned v' ∧ ItemsT 136 w' v' L ∧ (∀ y ∈ v'.ownBlock.toList,w.heap.size ≤ y) ∧ Below w.heap.size w w':=by
 obtain ⟨h1,h2,h3⟩:=h
 obtain ⟨c0,-⟩:=h1 5 _ rfl
 have hcl:=hclone_any w v l h2 hl
 have HCL:=Lib.hid hcl
 have HL:=Lib.hid hL
 have HP:=Lib.hid hp
 clear h1 h2 h3 hcl hL hp
 go_enter Tryz.func36,Tryz.ntmps36
 go_wp2_with (go_at_call 52;refine HCL.out.mono ?_;rintro r w1 ⟨v1,rfl,k1,k2,k3,k4⟩)
 have K2:=Lib.hid k2
 have K3:=Lib.hid k3
 have K4:=Lib.hid k4
 clear k2 k3 k4
 rcases k1 with ⟨rfl,rfl⟩ | ⟨g,cap,rfl⟩
 ·have hL0:L = []:=List.Perm.eq_nil HP.out
  refine (AnyF.slices_SortFunc_none Tryz.sort_lays none 0 (.func (.func 54) #[] #[]) _).mono ?_
  rintro r w2 ⟨rfl,rfl⟩
  go_wp2_with fail
  go_ret
  exact ⟨_,rfl,by rw [hL0];exact ItemsT.nil _ _,fun y hy=>by simp [Value.ownBlock] at hy,K4.out⟩
 ·have hgw:w.heap.size ≤ g:=K3.out g (by simp [Value.ownBlock])
  refine (hsort_any w1 g l.length cap l L K2.out rfl hl HL.out HP.out).mono ?_
  rintro r w2 ⟨rfl,k5,k6⟩
  have hb2:Below w.heap.size w w2:=Chg.below K4.out k6 (fun x hx=>by simp at hx;subst hx;exact hgw)
  have K5:=Lib.hid k5
  have HB2:=Lib.hid hb2
  clear k5 k6 hb2
  go_wp2_with fail
  go_ret
  exact ⟨_,rfl,K5.out,K3.out,HB2.out⟩
theorem sleepers_w {w0 w:World} {p:Nat} {T:List Value} {W:Wd} {R:List Asr} (h:Own w0 w (WldA p W T :: R)) (L:List It) (hl:W.hp.length ≤ 100000) (hL:L.Pairwise fun x y=>ltI x y = true) (hp:L.Perm W.hp) :
  Calls Tryz.prog 17 #[.pointer (some ⟨p,0,none⟩)] w fun r w'=>∃ v',r = .returned v' ∧ ItemsT 136 w' v' L ∧ (∀ y ∈ v'.ownBlock.toList,w.heap.size ≤ y) ∧ Below w.heap.size w w':=by
 obtain ⟨D,hf,ho⟩:=h.wld
 have hI:ItemsAt w D.sv W.hp:=by
  obtain ⟨F,hF,_⟩:=ho.fact 8 (A:=ItemsA D.sv W.hp) rfl
  exact hF.2
 have hB:Blk w p (wcells W D ++ T):=ho.cel 0 rfl
 have HL:=Lib.hid (hlist_any w (whp p W D T) D.sv W.hp L W.nx ⟨hB,hI,trivial⟩ hl hL hp)
 clear h hf ho hI hB hl hL hp
 go_enter Tryz.func17,Tryz.ntmps17
 go_wp2_with fail
 refine HL.out.mono ?_
 rintro r w1 ⟨v',rfl,h1⟩
 have H1:=Lib.hid h1
 clear h1
 go_wp2
 go_ret
 exact ⟨_,rfl,H1.out⟩
theorem zoz_take (m J:Nat):(zoz m J).take m = List.replicate m 0:=by
 unfold zoz
 rw [List.take_append_of_le_length (by rw [List.length_replicate];exact Nat.le_refl _),List.take_of_length_le (by rw [List.length_replicate];exact Nat.le_refl _)]
theorem zoz_mid (m J:Nat):(zoz m J)[m]? = some 1:=by
 unfold zoz
 rw [List.getElem?_append_right (by rw [List.length_replicate];exact Nat.le_refl _),List.length_replicate,Nat.sub_self]
 rfl
section
variable {w0 w:World} {b sp n r s J:Nat} {R:List Asr}
theorem wks_step {k:Nat} (hs:WkOk n r s J) (hk:k < 601 + J) (h:Own w0 w (SchA b sp (itM (wkX0 n r s) ((wkPk J).take k)) :: SrcA sp 0 (orS wkNum ((wkPk J).take k)) .nilFunc :: R)) :
  Calls Tryz.prog 13 #[.pointer (some ⟨b,0,none⟩)] w fun r' w'=>∃ kk mm gg rn ra rc,r' = .returned (.tuple #[.agg #[.int .i64 kk,.int .i64 mm,.int .i64 gg,.slice ra rn rc],.int .i64 0]) ∧
   Own w0 w' (SchA b sp (itM (wkX0 n r s) ((wkPk J).take (k + 1))) :: SrcA sp 0 (orS wkNum ((wkPk J).take (k + 1))) .nilFunc :: R):=by
 obtain ⟨p,h1,h2⟩:=wk_num hs.hJ hk
 refine (pk_step h hs.wf hs.ok h1 h2 (by rw [wkNum_len];have:=hs.hJ;omega) wk_num64 (by rw [wkNum_len];omega)).mono (fun r w' hh=>?_)
 obtain ⟨ra,rc,rfl,ho⟩:=hh
 exact ⟨_,_,_,_,ra,rc,rfl,ho⟩
theorem wks_y:itM (wkX0 n r s) ((wkPk J).take 600) = wkY n r s:=by
 have e:(wkPk J).take 600 = List.replicate 600 0:=zoz_take 600 J
 rw [e]
 exact rfl
theorem wks_tick (hs:WkOk n r s J) (h:Own w0 w (SchA b sp (itM (wkX0 n r s) ((wkPk J).take 600)) :: SrcA sp 0 (orS wkNum ((wkPk J).take 600)) .nilFunc :: R)) :
  Calls Tryz.prog 13 #[.pointer (some ⟨b,0,none⟩)] w fun r' w'=>∃ (mm gg:Int) (rd:List Int) (ra:Option Addr) (rc:Nat),r' = .returned (.tuple #[.agg #[.int .i64 1,.int .i64 mm,.int .i64 gg,.slice ra n rc],.int .i64 0]) ∧ rd.length = n ∧ (itM (wkX0 n r s) ((wkPk J).take 601)).gl = rd ∧
   Own w0 w' (RowGA 1 ra rc n (intc rd) :: SchA b sp (itM (wkX0 n r s) ((wkPk J).take 601)) :: SrcA sp 0 (orS wkNum ((wkPk J).take 601)) .nilFunc :: R):=by
 have hk:(wkPk J)[600]? = some 1:=zoz_mid 600 J
 obtain ⟨p,h1,h2⟩:=wk_num hs.hJ (k:=600) (by omega)
 rw [hk] at h1
 cases h1
 refine (pk_row h hs.wf hs.ok hk h2 (by rw [wkNum_len];omega) wk_num64 (by rw [wkNum_len];omega)).mono (fun r' w' hh=>?_)
 obtain ⟨ra,rc,rfl,he,ho⟩:=hh
 have e1:=hs.kd
 have e2:=hs.rd
 have e3:=hs.gl2
 rw [he]
 rw [he] at ho
 rw [wks_y] at ho ⊢
 generalize hq:stepM (wkY n r s) 1 0 = q at *
 obtain ⟨Y,ev⟩:=q
 obtain ⟨k1,m1,g1,r1⟩:=ev
 simp only at e1 e2 e3 ho ⊢
 subst e1
 refine ⟨m1,g1,r1,ra,rc,?_,e2,e3,?_⟩
 ·unfold evV
  simp only
  rw [e2]
 ·rw [e2] at ho
  exact ho
theorem wks_600 (hs:WkOk n r s J) (h:Own w0 w (SchA b sp (itM (wkX0 n r s) ((wkPk J).take 600)) :: R)) :
  ∃ (L:Sl),SAt w0 w b sp L (itM (wkX0 n r s) ((wkPk J).take 600)) R ∧ (Calls Tryz.prog 17 #[.pointer (some ⟨b,0,none⟩)] w fun r' w'=>∃ a c,r' = .returned (.slice a n c) ∧ Below w.heap.size w w') ∧
   ∀ wx,Below w.heap.size w wx → Calls Tryz.prog 18 #[.pointer (some ⟨b,0,none⟩)] wx fun r' w'=>∃ a c,r' = .returned (.slice a 0 c) ∧ Own w0 w' (SchA b sp (itM (wkX0 n r s) ((wkPk J).take 600)) :: R):=by
 have wf:=SdWF.its ((wkPk J).take 600) hs.wf (okM_take hs.ok 600) (by rw [List.length_take];omega)
 have hhp:=hs.hp
 have hgl:=hs.gl
 have hsq:=hs.sq
 rw [wks_y] at h wf ⊢
 obtain ⟨L,h1⟩:=h.sat
 obtain ⟨T,Q,h2,-⟩:=h1.world
 obtain ⟨l,k1,k2⟩:=srt_ex _ hsq
 have hl:l.length = n:=by rw [k2.length_eq];exact hhp
 refine ⟨L,h1,(sleepers_w h2 l (by have:=wf.wf.hp.1;rw [List.length_take] at this;omega) k1 k2).mono (fun r' w' hh=>?_),fun wx hb=>?_⟩
 ·obtain ⟨v',rfl,hi,-,hb⟩:=hh
  obtain ⟨a,c,rfl,-⟩:=hi.slice
  exact ⟨a,c,by rw [hl],hb⟩
 ·refine (sglobal_any (h1.step hb) (by rw [hgl];simp)).mono (fun r' w' hh=>?_)
  obtain ⟨a',c',rfl,ho⟩:=hh
  rw [hgl] at ho ⊢
  exact ⟨a',c',rfl,ho.less.to⟩
theorem wks_stat {k:Nat} (hs:WkOk n r s J) (hk:k ≤ 601 + J) (h:Own w0 w (SchA b sp (itM (wkX0 n r s) ((wkPk J).take k)) :: R)) :
  Calls Tryz.prog 16 #[.pointer (some ⟨b,0,none⟩)] w fun r' w'=>r' = .returned (.int .i64 (if k < 601 + J then 0 else 3)) ∧ Below w.heap.size w w':=by
 obtain ⟨L,h1⟩:=h.sat
 have wf:=SdWF.its ((wkPk J).take k) hs.wf (okM_take hs.ok k) (by rw [List.length_take];have:=hs.hJ;omega)
 refine (stat_any h1 (by have:=wf.wf.g1.2;omega)).mono (fun r' w' hh=>?_)
 obtain ⟨rfl,hb⟩:=hh
 refine ⟨?_,hb⟩
 split
 ·rename_i hlt
  obtain ⟨p,h2,-⟩:=wk_num hs.hJ hlt
  obtain ⟨-,-,q3,-,-⟩:=okM_at hs.ok h2
  rw [q3]
 ·have e:(wkPk J).take k = wkPk J:=List.take_of_length_le (by rw [wkPk_len];omega)
  rw [e,hs.fin]
theorem wks_out (hs:WkOk n r s J) (h:Own w0 w (SchA b sp (itM (wkX0 n r s) ((wkPk J).take (601 + J))) :: R)) :
  Calls Tryz.prog 15 #[.pointer (some ⟨b,0,none⟩)] w fun r' w'=>∃ a c,r' = .returned (.slice a n c) ∧ Below w.heap.size w w':=by
 obtain ⟨L,h1⟩:=h.sat
 obtain ⟨T,Q,h2,-⟩:=h1.world
 have wf:=SdWF.its ((wkPk J).take (601 + J)) hs.wf (okM_take hs.ok _) (by rw [List.length_take];have:=hs.hJ;omega)
 refine (out_w h2 wf.wf).mono (fun r' w' hh=>?_)
 obtain ⟨a,c,rfl,-,-,hb⟩:=hh
 have e:(wkPk J).take (601 + J) = wkPk J:=List.take_of_length_le (by rw [wkPk_len];omega)
 rw [e,hs.out]
 exact ⟨a,c,rfl,hb⟩
theorem wks_st {k:Nat} (hs:WkOk n r s J) (hk:k ≤ 601 + J) (h:Own w0 w (SchA b sp (itM (wkX0 n r s) ((wkPk J).take k)) :: R)):w.cell? ⟨b,16,none⟩ = some (.int .i64 (k:Int)):=by
 obtain ⟨L,h1⟩:=h.sat
 have h2:=h1.c16.1
 rw [itM_st] at h2
 have e:(wkX0 n r s).st + ((wkPk J).take k).length = k:=by
  rw [List.length_take,wkPk_len]
  show 0 + _ = _
  omega
 rw [e] at h2
 exact h2
end
end Go.Proofs.YtodjgipiomnnfaaGreat
open Go Go.RowKit
set_option linter.unusedVariables false
namespace Go.Proofs.YtodjgipiomnnfaaGreat
section
variable {P:Program} {Q:Exit → Act → World → Prop} {S:World → Prop}
theorem wpAnyH_three {l:List Oper} (k k' k3:Nat) (listed listed' listed'' listed3:Array Bool) (fuel:Nat) {a:Act} {w:World} (hB:(decide (Region.ready .any l.toArray listed = [k,k',k3]) && (listed.setIfInBounds k true == listed') && (listed.setIfInBounds k' true == listed'') && (listed.setIfInBounds k3 true == listed3)) = true)
  (h1:∀ K:Act → World → Prop,(∀ a' w',S w' → wpAnyH P .any l.toArray Q S fuel listed' a' w' → K a' w') → headH P l.toArray Q K a w (l.drop k))
  (h2:∀ K:Act → World → Prop,(∀ a' w',S w' → wpAnyH P .any l.toArray Q S fuel listed'' a' w' → K a' w') → headH P l.toArray Q K a w (l.drop k'))
  (h3:∀ K:Act → World → Prop,(∀ a' w',S w' → wpAnyH P .any l.toArray Q S fuel listed3 a' w' → K a' w') → headH P l.toArray Q K a w (l.drop k3)):wpAnyH P .any l.toArray Q S (fuel + 1) listed a w:=by
 simp only [Bool.and_eq_true,decide_eq_true_eq,beq_iff_eq] at hB
 obtain ⟨⟨⟨hr,rfl⟩,rfl⟩,rfl⟩:=hB
 refine wpAnyH_all hr (by simp) (fun i hi=>?_)
 have h:∀ K:Act → World → Prop,(∀ a' w',S w' → wpAnyH P .any l.toArray Q S fuel (listed.setIfInBounds i true) a' w' → K a' w') → headH P l.toArray Q K a w (l.drop i):=by
  have hik:i = k ∨ i = k' ∨ i = k3:=by simpa using hi
  rcases hik with rfl | rfl | rfl
  ·exact h1
  ·exact h2
  ·exact h3
 have h1:=h (fun a' w'=>S w' ∧ wpAnyH P .any l.toArray Q S fuel (listed.setIfInBounds i true) a' w') (fun a' w' h2 h3=>⟨h2,h3⟩)
 cases hd:l.drop i with
 | nil=>rw [hd] at h1;exact h1.elim
 | cons o r =>
  rw [hd] at h1
  have h0:l.toArray[i]? = some o:=by
   have:(l.drop i)[0]? = some o:=by rw [hd];rfl
   rw [List.getElem?_drop] at this
   simpa using this
  unfold wpOp
  simp only [h0]
  rw [if_pos h1.1]
  exact .inl h1.2
end
end Go.Proofs.YtodjgipiomnnfaaGreat
open Go Go.RowKit
set_option linter.unusedVariables false
namespace Go.Proofs.YtodjgipiomnnfaaGreat.schedWakes
theorem wk_one:(numc (List.replicate 1200 0)).set 600 (.int .u64 1) = numc wkNum:=by
 have e:∀ m J:Nat,(numc (List.replicate (m + 1 + J) 0)).set m (.int .u64 1) = numc (zoz m J):=fun m J=>by
  have h1:List.replicate (m + 1 + J) 0 = List.replicate m 0 ++ (0 :: List.replicate J 0):=by
   rw [Nat.add_assoc,← List.replicate_append_replicate,Nat.add_comm 1 J,List.replicate_succ]
  unfold zoz
  rw [h1]
  unfold numc
  rw [List.map_append,List.map_append,List.map_cons,List.map_cons,List.set_append_right _ _ (by simp)]
  simp
 exact e 600 599
theorem wk_keep {w wx:World} {A:Asr} {As:List Asr} (h:Own w wx (A :: As)) (k:Nat) {B:Asr} (hk:As[k]? = some B):Own w wx [A,B]:=by
 have h3:=pick_perm As k B hk
 have h5:=(h.perm (List.Perm.cons A h3)).perm (List.perm_append_comm (l₁:=[A,B]) (l₂:=As.eraseIdx k))
 exact h5.dropL
theorem wk_ints {w:World} {a:Option Addr} {c n:Nat} {l:List Int} (h:RowG 1 w a c n (intc l)):IntsAt w a l:=fun i hi=>h.cells i _ (by simp [intc,hi])
def stOf (w:World) (b:Nat):Nat:=match w.cell? ⟨b,16,none⟩ with
 | some v=>(intOf v).toNat
 | none=>0
theorem stOf_eq {w:World} {b k:Nat} (h:w.cell? ⟨b,16,none⟩ = some (.int .i64 (k:Int))):stOf w b = k:=by
 unfold stOf;rw [h];simp [intOf]
theorem wk_prog {w:World} {a:Option Addr} {cap n c1 cf ch:Nat} (h0:CellsAt w a (i4s (wkMain n))) (hn:a = none → cap = 0) (h1:CellsAt w (some ⟨c1,0,none⟩) (i4s wkChild))
  (hf:CellsAt w (some ⟨cf,0,none⟩) [.slice a (2 * n + 1 + 1) cap,.slice (some ⟨c1,0,none⟩) 4 4]) (hc:CellsAt w (some ⟨ch,0,none⟩) [.int .i64 0]) (hN:n ≤ 40) :
  ProgIn w (some ⟨cf,0,none⟩) [(a,cap),(some ⟨c1,0,none⟩,4)] (wkFs n) (some ⟨ch,0,none⟩) [0] none 0 []:=by
 have e:(wkMain n).length = 2 * n + 1 + 1:=by unfold wkMain;rw [List.length_append,wkHead_len];rfl
 refine ⟨?_,rfl,fun i r l hr hl=>?_,hc,CellsAt.nil _ _,fun _=>rfl,by decide,by show 2 ≤ 1000;omega,by decide⟩
 ·show CellsAt w _ [.slice a (wkMain n).length cap,.slice (some ⟨c1,0,none⟩) wkChild.length 4]
  rw [e];exact hf
 ·match i with
  | 0=>simp [wkFs] at hr hl;subst hr hl;exact ⟨h0,hn,by omega⟩
  | 1=>simp [wkFs] at hr hl;subst hr hl;exact ⟨h1,(fun h=>by cases h),by decide⟩
  | i + 2=>simp at hr
theorem walk (a0:Int) (p m r s:Int) (w:World) (w0:(Lit.int .i64 a0).wf = true) (wp:(Lit.int .i64 p).wf = true) (wm:(Lit.int .i64 m).wf = true) (wr:(Lit.int .i64 r).wf = true) (ws:(Lit.int .i64 s).wf = true) :
  Calls Tryz.prog 5 #[.int .i64 a0,.agg #[.int .i64 p,.int .i64 m,.int .i64 r,.int .i64 s]] w fun e w'=>e = .returned (.bool true) ∧ Below w.heap.size w w':=by
 obtain ⟨a,ha⟩:=smC_of p 5 (by omega) (by omega)
 obtain ⟨b,hb⟩:=smC_of m 5 (by omega) (by omega)
 obtain ⟨c,hc⟩:=smC_of r 5 (by omega) (by omega)
 obtain ⟨d,hd⟩:=smC_of s 12 (by omega) (by omega)
 have KS:=Lib.hid (fun wx=>some18_any wx p m r s a b c d ha hb hc hd)
 have hc5:=hc.2.2.2.1
 have hd5:=hd.2.2.2.1
 have HCD:=Lib.hid (And.intro hc5 hd5)
 obtain ⟨M,hM',hM2,-⟩:=small_of a0 12 (by omega)
 have hM:(bits BinOp.and IntKind.i64 a0 255).tmod 12 = (M:Int):=hM'
 clear hM' w0 wp wm wr ws ha hb hc hd hc5 hd5
 obtain ⟨i0,hi0,hz0,hz1,hz2⟩:=info_parts mk_ins
 have Hi:=Lib.hid hi0;clear hi0
 have Hz0:=Lib.hid hz0;clear hz0
 have Hz1:=Lib.hid hz1;clear hz1
 have Hz2:=Lib.hid hz2;clear hz2
 go_enter Tryz.func5,Tryz.ntmps5
 go_upto_region 1 with fail
 have o0:Own w (w.alloc (.cells #[.int .i64 p,.int .i64 m,.int .i64 r,.int .i64 s] 23)) [CelA w.heap.size [.int .i64 p,.int .i64 m,.int .i64 r,.int .i64 s]]:=by
  have h:=(Own.nil (Below.refl _ w)).alloc [.int .i64 p,.int .i64 m,.int .i64 r,.int .i64 s] 23 (b:=w.heap.size) rfl
  exact h
 generalize (w.alloc (.cells #[.int .i64 p,.int .i64 m,.int .i64 r,.int .i64 s] 23)) = wa at *
 generalize hq:w.heap.size = q at *
 have HQ:=Lib.hid hq
 clear hq
 go_wp2_with fail
 refine (awake18_any _).mono ?_
 rintro e w1 ⟨rfl,hb⟩
 have o1:=o0.step hb
 clear o0 hb
 obtain ⟨N,hN⟩:∃ N,N = M + 1:=⟨_,rfl⟩
 have hN2:1 ≤ N ∧ N ≤ 12:=by omega
 have hNM:1 + (M:Int) = (N:Int):=by omega
 have hw2:IntKind.i64.wrap (1 + (M:Int)) = (N:Int):=by rw [IntKind.wrap_i64];omega
 have HNM:=Lib.hid (And.intro hN hM2)
 have O1:=Lib.hid o1
 clear hN o1
 go_upto_region 5 with fail
 try rw [hw2]
 try rw [hNM]
 clear hNM hw2 hM hM2
 have ho0:=(O1.out.add (below_alloc1 w1 (.cells #[.int .i64 1,.int .i64 1,.int .i64 1,.int .i64 0] 34)) (A:=RowGA 4 (some ⟨w1.heap.size,0,none⟩) 1 1 (i4s (wkHead 0))) (F:=[w1.heap.size]) ⟨rfl,RowG.new 4 1 w1 [.int .i64 1,.int .i64 1,.int .i64 1,.int .i64 0] 34 rfl (by unfold maxLen;omega) rfl⟩ (by intro x hx;simp at hx;omega))
 have HO:=Lib.hid ho0;clear ho0
 go_wp2_with fail
 go_loopw [5,25] (fun sv iv wr=>∃ i:Nat,∃ ra cap,i ≤ N ∧ iv = .int .i64 i ∧ sv = .slice ra (2 * i + 1) cap ∧ Hid (Own w wr [RowGA 4 ra cap (2 * i + 1) (i4s (wkHead i)),CelA q [.int .i64 p,.int .i64 m,.int .i64 r,.int .i64 s]])) (fun _ iv _=>N - (intOf iv).toNat)
 case atStart=>exact ⟨0,some ⟨w1.heap.size,0,none⟩,1,by omega,rfl,rfl,HO⟩
 case round =>
  obtain ⟨i,ra,cap,hi,rfl,rfl,hr⟩:=hrel
  by_cases hlt:i < N
  ·have hlt2:(i:Int) < (N:Int):=by omega
   have o1:=hr.out.step (below_alloc1 wr (.cells #[.int .i64 11,.int .i64 1,.int .i64 3,.int .i64 2,.int .i64 3,.int .i64 3,.int .i64 3,.int .i64 1] 34))
   have H1:=Lib.hid o1
   clear o1 hr
   go_wp2_with (at_builtin;go_loud (refine wpList_append_rowG rfl _ _ 31 rfl 34 i0 _ Tryz.underlying31 Hi.out Hz0.out Hz1.out Hz2.out rfl (by decide) (by decide) (n:=2 * i + 1) (m:=2) (cs:=i4s (wkHead i)) (ds:=[.int .i64 11,.int .i64 1,.int .i64 3,.int .i64 2,.int .i64 3,.int .i64 3,.int .i64 3,.int .i64 1]) (by rfl) (by rfl) (H1.out.rowG 0 rfl) (CellsAt.new _ [.int .i64 11,.int .i64 1,.int .i64 3,.int .i64 2,.int .i64 3,.int .i64 3,.int .i64 3,.int .i64 1] _ rfl) rfl (by simp [Value.oneCell']) (by omega) ?_))
   intro a9 c9 w9 k9 ch9 f9
   have o2:=Own.rowTurn H1.out k9 ch9 (fun x hx=>by simpa using f9 x hx)
   have H2:Hid (Own w w9 [RowGA 4 a9 c9 (2 * (i + 1) + 1) (i4s (wkHead (i + 1))),CelA q [.int .i64 p,.int .i64 m,.int .i64 r,.int .i64 s]]):=Lib.hid (by rw [wkHead_succ,mk_app];exact o2)
   clear o2 k9 ch9 f9 H1
   go_wp2
   exact ⟨⟨i + 1,a9,c9,by omega,by go_num,rfl,H2⟩,by simp [intOf];omega⟩
  ·obtain rfl:i = N:=by omega
   have hge:¬ ((i:Int) < (i:Int)):=by omega
   go_upto_region 9 with fail
   clear hlt hi hge HO O1
   have o1:=hr.out.step (below_alloc1 wr (.cells #[.int .i64 14,.int .i64 0,.int .i64 4,.int .i64 5] 34))
   have H1:=Lib.hid o1
   clear o1 hr
   go_wp2_with (at_builtin;go_loud (refine wpList_append_rowG rfl _ _ 31 rfl 34 i0 _ Tryz.underlying31 Hi.out Hz0.out Hz1.out Hz2.out rfl (by decide) (by decide) (n:=2 * i + 1) (m:=1) (cs:=i4s (wkHead i)) (ds:=[.int .i64 14,.int .i64 0,.int .i64 4,.int .i64 5]) (by rfl) (by rfl) (H1.out.rowG 0 rfl) (CellsAt.new _ [.int .i64 14,.int .i64 0,.int .i64 4,.int .i64 5] _ rfl) rfl (by simp [Value.oneCell']) (by omega) ?_))
   intro a9 c9 w9 k9 ch9 f9
   have o2:=Own.rowTurn H1.out k9 ch9 (fun x hx=>by simpa using f9 x hx)
   have H2:Hid (Own w w9 [RowGA 4 a9 c9 (2 * i + 2) (i4s (wkMain i)),CelA q [.int .i64 p,.int .i64 m,.int .i64 r,.int .i64 s]]):=Lib.hid (by unfold wkMain;rw [mk_app];exact o2)
   clear o2 k9 ch9 f9 H1
   go_upto_region 11 with fail
   have o3:Own w (w9.alloc (.cells #[.int .i64 1,.int .i64 1,.int .i64 1,.int .i64 0,.int .i64 17,.int .i64 1,.int .i64 0,.int .i64 0,.int .i64 20,.int .i64 0,.int .i64 0,.int .i64 0,.int .i64 10,.int .i64 0,.int .i64 0,.int .i64 0] 34))
     [CelA w9.heap.size (i4s wkChild),RowGA 4 a9 c9 (2 * i + 2) (i4s (wkMain i)),CelA q [.int .i64 p,.int .i64 m,.int .i64 r,.int .i64 s]]:=H2.out.alloc _ 34 rfl
   generalize w9.alloc (.cells #[.int .i64 1,.int .i64 1,.int .i64 1,.int .i64 0,.int .i64 17,.int .i64 1,.int .i64 0,.int .i64 0,.int .i64 20,.int .i64 0,.int .i64 0,.int .i64 0,.int .i64 10,.int .i64 0,.int .i64 0,.int .i64 0] 34) = wb at *
   generalize w9.heap.size = qc at *
   obtain ⟨x0,-⟩:=o3.cel 2 rfl 0 _ rfl
   obtain ⟨x1,-⟩:=o3.cel 2 rfl 1 _ rfl
   obtain ⟨x2,-⟩:=o3.cel 2 rfl 2 _ rfl
   obtain ⟨x3,-⟩:=o3.cel 2 rfl 3 _ rfl
   have H3:=Lib.hid o3
   clear o3 H2
   go_wp2_with fail
   refine (KS.out _).mono ?_
   rintro e w3 ⟨rfl,hb⟩
   have o4:=((H3.out.step hb).alloc [.int .i64 (1 + (a:Int)),.int .i64 (1 + (b:Int)),.int .i64 (2 + (c:Int)),.int .i64 (1 + (d:Int))] 26 (b:=w3.heap.size) rfl)
   obtain ⟨f0,g0⟩:=o4.cel 0 rfl 0 _ rfl
   obtain ⟨f1,g1⟩:=o4.cel 0 rfl 1 _ rfl
   have o5:=(o4.set 0 (.int .i64 1)).set 1 (.int .i64 1)
   have H5:=Lib.hid o5
   clear o4 o5 hb H3 KS x0 x1 x2 x3
   go_upto_region 12 with fail
   generalize w3.alloc (.cells [.int .i64 (1 + (a:Int)),.int .i64 (1 + (b:Int)),.int .i64 (2 + (c:Int)),.int .i64 (1 + (d:Int))].toArray 26) = w4 at *
   generalize w3.heap.size = qd at *
   go_upto_region 13 with fail
   generalize (w4.setCell ⟨qd,0,none⟩ (.int .i64 1)).setCell ⟨qd,1,none⟩ (.int .i64 1) = w5 at *
   obtain ⟨wn,hmk,hmr,hmB⟩:=mk_nums w5 1200 (by omega)
   have o6:=H5.out.add hmB (A:=RowGA 1 (some ⟨w5.heap.size,0,none⟩) 1200 1200 (numc (List.replicate 1200 0))) (F:=[w5.heap.size]) ⟨rfl,hmr⟩ (by intro x hx;simp at hx;omega)
   rw [show ((1200:Nat):Int) = 1200 from rfl] at hmk
   have H6:=Lib.hid o6
   clear hmr hmB o6 f0 g0 f1 g1
   go_upto_region 14 with fail
   clear hmk
   generalize w5.heap.size = qn at *
   obtain ⟨v6,f6,g6⟩:=(H6.out.rowG 0 rfl).spot 600 (by omega)
   rw [Nat.zero_add] at f6 g6
   have o7:=H6.out.rowSet 600 (.int .u64 1) (by rw [numc_len,List.length_replicate];omega)
   rw [Nat.zero_add,wk_one] at o7
   have H7:=Lib.hid o7
   clear o7 H6
   go_upto_region 15 with fail
   clear f6 g6
   obtain ⟨hc5,hd5⟩:=HCD.out
   generalize wn.setCell ⟨qn,600,none⟩ (.int .u64 1) = w7 at *
   have HSB:Hid (∀ (wx:World) (As:List Asr) (k:Nat),Own w wx As → As[k]? = some (CelA qd [.int .i64 1,.int .i64 1,.int .i64 (2 + (c:Int)),.int .i64 (1 + (d:Int))]) → wx.cell? ⟨qd,0,none⟩ = some (.int .i64 1) ∧ wx.cell? ⟨qd,1,none⟩ = some (.int .i64 1) ∧ wx.cell? ⟨qd,2,none⟩ = some (.int .i64 (2 + (c:Int))) ∧ wx.cell? ⟨qd,3,none⟩ = some (.int .i64 (1 + (d:Int)))) :=
    Lib.hid (fun wx As k h hk=>⟨(h.cel k hk 0 _ rfl).1,(h.cel k hk 1 _ rfl).1,(h.cel k hk 2 _ rfl).1,(h.cel k hk 3 _ rfl).1⟩)
   go_cut [9] (fun sv wx=>∃ bs sp,sv = .pointer (some ⟨bs,0,none⟩) ∧ Hid (Own w wx (SchA bs sp (wkX0 i c d) :: SrcA sp 0 (orS wkNum []) .nilFunc :: [])))
   case first =>
    have o0:Own w w7.drew [RowGA 1 (some ⟨qn,0,none⟩) 1200 1200 (numc wkNum),CelA qd [.int .i64 1,.int .i64 1,.int .i64 (2 + (c:Int)),.int .i64 (1 + (d:Int))],CelA qc (i4s wkChild),RowGA 4 a9 c9 (2 * i + 2) (i4s (wkMain i)),CelA q [.int .i64 p,.int .i64 m,.int .i64 r,.int .i64 s]]:=H7.out.step (below_drew1 w7)
    refine wp_region_lexH (fun wx=>wx.cell? ⟨qd,0,none⟩ = some (.int .i64 1) ∧ wx.cell? ⟨qd,1,none⟩ = some (.int .i64 1) ∧ wx.cell? ⟨qd,2,none⟩ = some (.int .i64 (2 + (c:Int))) ∧ wx.cell? ⟨qd,3,none⟩ = some (.int .i64 (1 + (d:Int)))) 10 (Array.replicate 10 false) (by kernel_rfl) (by kernel_rfl) ?_
    generalize w7.drew = w8 at *
    clear H7
    refine wpAnyH_seg 0 2 _ #[true,true,false,false,false,false,false,false,false,false] 8 (by kernel_rfl) noPanic_put (HSB.out _ _ 1 o0 rfl) (by kernel_rfl) ?_
    simp only [List.take_succ_cons,List.take_zero,List.drop_zero]
    repeat ((first | refine wpSegH_no (by rfl) ?_ | (refine wpSegH_yes (by rfl) ?_;apply Exists.intro;apply And.intro;(· (intro wx hS;(try dsimp only at hS);go_simp;first | done | with_reducible rfl))));simp only [Act.put,List.setIfInBounds_toArray,List.set_cons_zero,List.set_cons_succ])
    refine wpSegH_nil ?_
    refine wpAnyH_seg 5 2 _ #[true,true,false,false,false,true,true,false,false,false] 6 (by kernel_rfl) noPanic_put (HSB.out _ _ 1 o0 rfl) (by kernel_rfl) ?_
    simp only [List.take_succ_cons,List.take_zero,List.drop_succ_cons,List.drop_zero]
    repeat ((first | refine wpSegH_no (by rfl) ?_ | (refine wpSegH_yes (by rfl) ?_;apply Exists.intro;apply And.intro;(· (intro wx hS;(try dsimp only at hS);go_simp;first | done | with_reducible rfl))));simp only [Act.put,List.setIfInBounds_toArray,List.set_cons_zero,List.set_cons_succ])
    refine wpSegH_nil ?_
    refine wpAnyH_three 2 3 7 _ #[true,true,true,false,false,true,true,false,false,false] #[true,true,false,true,false,true,true,false,false,false] #[true,true,false,false,false,true,true,true,false,false] 5 (by kernel_rfl) (fun K hK=>?_) (fun K hK=>?_) (fun K hK=>?_)
    ·skip
     have o1:=o0.alloc [.slice a9 (2 * i + 1 + 1) c9,.slice (some ⟨qc,0,none⟩) 4 4] 31 rfl
     have HKK:=Lib.hid hK
     clear hK
     simp only [List.drop_succ_cons,List.drop_zero]
     refine headH_mk (by rfl) ?_
     go_simp
     refine HKK.out _ _ (HSB.out _ _ 2 o1 rfl) ?_
     clear HKK K
     generalize w8.alloc (.cells [.slice a9 (2 * i + 1 + 1) c9,.slice (some ⟨qc,0,none⟩) 4 4].toArray 31) = w1 at *
     generalize w8.heap.size = cf at *
     refine wpAnyH_two 3 7 _ #[true,true,true,true,false,true,true,false,false,false] #[true,true,true,false,false,true,true,true,false,false] 4 (by kernel_rfl) (fun K hK=>?_) (fun K hK=>?_)
     ·skip
      have o2:=o1.alloc [.int .i64 0] 3 rfl
      have HKK:=Lib.hid hK
      clear hK
      simp only [List.drop_succ_cons,List.drop_zero]
      refine headH_mk (by rfl) ?_
      go_simp
      refine HKK.out _ _ (HSB.out _ _ 3 o2 rfl) ?_
      clear HKK K
      generalize w1.alloc (.cells [.int .i64 0].toArray 3) = w2 at *
      generalize w1.heap.size = qh at *
      refine wpAnyH_seg 4 1 _ #[true,true,true,true,true,true,true,false,false,false] 3 (by kernel_rfl) noPanic_put (HSB.out _ _ 3 o2 rfl) (by kernel_rfl) ?_
      simp only [List.take_succ_cons,List.take_zero,List.drop_succ_cons,List.drop_zero]
      repeat ((first | refine wpSegH_no (by rfl) ?_ | (refine wpSegH_yes (by rfl) ?_;apply Exists.intro;apply And.intro;(· (intro wx hS;(try dsimp only at hS);go_simp;first | done | with_reducible rfl))));simp only [Act.put,List.setIfInBounds_toArray,List.set_cons_zero,List.set_cons_succ])
      refine wpSegH_nil ?_
      have hon:=onew_any o2 (some ⟨qn,0,none⟩) 1200 wkNum (o2.rowG 2 rfl).cells (fun e=>by cases e) (by rw [wkNum_len];omega)
      rw [wkNum_len] at hon
      refine wpAnyH_one 7 _ #[true,true,true,true,true,true,true,true,false,false] 2 (by kernel_rfl) (fun K hK=>?_)
      have HKK:=Lib.hid hK
      clear hK
      simp only [List.drop_succ_cons,List.drop_zero]
      refine headH_mk (by rfl) ?_
      go_simp
      refine hon.mono ?_
      rintro r w3 ⟨sp,rfl,o3,hbo⟩
      clear hon hbo
      refine HKK.out _ _ (HSB.out _ _ 4 o3 rfl) ?_
      clear HKK K
      refine wpAnyH_one 8 _ #[true,true,true,true,true,true,true,true,true,false] 1 (by kernel_rfl) (fun K hK=>?_)
      have HKK:=Lib.hid hK
      clear hK
      simp only [List.drop_succ_cons,List.drop_zero]
      refine headH_mk (by rfl) ?_
      go_simp
      refine (snew_any o3 (some ⟨cf,0,none⟩) 2 [(a9,c9),(some ⟨qc,0,none⟩,4)] (wkFs i) (some ⟨qh,0,none⟩) 1 [0] 0 none 0 [] (wk_prog (n:=i) (o3.rowG 6 rfl).cells (o3.rowG 6 rfl).none0 (mk_cells (o3.cel 5 rfl)) (mk_cells (o3.cel 2 rfl)) (mk_cells (o3.cel 1 rfl)) (by omega)) (by decide) 1 1 (2 + (c:Int)) (1 + (d:Int)) (by omega) (by omega) sp).mono ?_
      rintro r wz ⟨bs,rfl,oz⟩
      refine HKK.out _ _ (HSB.out _ _ 5 oz rfl) ?_
      clear HKK K
      refine wpAnyH_seg 9 1 _ #[true,true,true,true,true,true,true,true,true,true] 0 (by kernel_rfl) noPanic_put (HSB.out _ _ 5 oz rfl) (by kernel_rfl) ?_
      simp only [List.take_succ_cons,List.take_zero,List.drop_succ_cons,List.drop_zero]
      repeat ((first | refine wpSegH_no (by rfl) ?_ | (refine wpSegH_yes (by rfl) ?_;apply Exists.intro;apply And.intro;(· (intro wx hS;(try dsimp only at hS);go_simp;first | done | with_reducible rfl))));simp only [Act.put,List.setIfInBounds_toArray,List.set_cons_zero,List.set_cons_succ])
      refine wpSegH_nil ?_
      refine wpAnyH_done (by kernel_rfl) (NoPanic.normal ?_) _
      have HZ:=Lib.hid (wk_keep oz 0 rfl)
      clear oz
      go_wp2_with fail
      go_meet
      exact ⟨bs,sp,rfl,HZ⟩
     ·skip
      have hon:=onew_any o1 (some ⟨qn,0,none⟩) 1200 wkNum (o1.rowG 1 rfl).cells (fun e=>by cases e) (by rw [wkNum_len];omega)
      rw [wkNum_len] at hon
      have HKK:=Lib.hid hK
      clear hK
      simp only [List.drop_succ_cons,List.drop_zero]
      refine headH_mk (by rfl) ?_
      go_simp
      refine hon.mono ?_
      rintro r w4 ⟨sp,rfl,o4,hbo⟩
      clear hon hbo
      refine HKK.out _ _ (HSB.out _ _ 3 o4 rfl) ?_
      clear HKK K
      have o5:=o4.alloc [.int .i64 0] 3 rfl
      refine wpAnyH_one 3 _ #[true,true,true,true,false,true,true,true,false,false] 3 (by kernel_rfl) (fun K hK=>?_)
      have HKK:=Lib.hid hK
      clear hK
      simp only [List.drop_succ_cons,List.drop_zero]
      refine headH_mk (by rfl) ?_
      go_simp
      refine HKK.out _ _ (HSB.out _ _ 4 o5 rfl) ?_
      clear HKK K
      generalize w4.alloc (.cells [.int .i64 0].toArray 3) = w5 at *
      generalize w4.heap.size = qh at *
      refine wpAnyH_seg 4 1 _ #[true,true,true,true,true,true,true,true,false,false] 2 (by kernel_rfl) noPanic_put (HSB.out _ _ 4 o5 rfl) (by kernel_rfl) ?_
      simp only [List.take_succ_cons,List.take_zero,List.drop_succ_cons,List.drop_zero]
      repeat ((first | refine wpSegH_no (by rfl) ?_ | (refine wpSegH_yes (by rfl) ?_;apply Exists.intro;apply And.intro;(· (intro wx hS;(try dsimp only at hS);go_simp;first | done | with_reducible rfl))));simp only [Act.put,List.setIfInBounds_toArray,List.set_cons_zero,List.set_cons_succ])
      refine wpSegH_nil ?_
      refine wpAnyH_one 8 _ #[true,true,true,true,true,true,true,true,true,false] 1 (by kernel_rfl) (fun K hK=>?_)
      have HKK:=Lib.hid hK
      clear hK
      simp only [List.drop_succ_cons,List.drop_zero]
      refine headH_mk (by rfl) ?_
      go_simp
      refine (snew_any o5 (some ⟨cf,0,none⟩) 2 [(a9,c9),(some ⟨qc,0,none⟩,4)] (wkFs i) (some ⟨qh,0,none⟩) 1 [0] 0 none 0 [] (wk_prog (n:=i) (o5.rowG 6 rfl).cells (o5.rowG 6 rfl).none0 (mk_cells (o5.cel 5 rfl)) (mk_cells (o5.cel 2 rfl)) (mk_cells (o5.cel 0 rfl)) (by omega)) (by decide) 1 1 (2 + (c:Int)) (1 + (d:Int)) (by omega) (by omega) sp).mono ?_
      rintro r wz ⟨bs,rfl,oz⟩
      refine HKK.out _ _ (HSB.out _ _ 5 oz rfl) ?_
      clear HKK K
      refine wpAnyH_seg 9 1 _ #[true,true,true,true,true,true,true,true,true,true] 0 (by kernel_rfl) noPanic_put (HSB.out _ _ 5 oz rfl) (by kernel_rfl) ?_
      simp only [List.take_succ_cons,List.take_zero,List.drop_succ_cons,List.drop_zero]
      repeat ((first | refine wpSegH_no (by rfl) ?_ | (refine wpSegH_yes (by rfl) ?_;apply Exists.intro;apply And.intro;(· (intro wx hS;(try dsimp only at hS);go_simp;first | done | with_reducible rfl))));simp only [Act.put,List.setIfInBounds_toArray,List.set_cons_zero,List.set_cons_succ])
      refine wpSegH_nil ?_
      refine wpAnyH_done (by kernel_rfl) (NoPanic.normal ?_) _
      have HZ:=Lib.hid (wk_keep oz 1 rfl)
      clear oz
      go_wp2_with fail
      go_meet
      exact ⟨bs,sp,rfl,HZ⟩
    ·skip
     have o6:=o0.alloc [.int .i64 0] 3 rfl
     have HKK:=Lib.hid hK
     clear hK
     simp only [List.drop_succ_cons,List.drop_zero]
     refine headH_mk (by rfl) ?_
     go_simp
     refine HKK.out _ _ (HSB.out _ _ 2 o6 rfl) ?_
     clear HKK K
     generalize w8.alloc (.cells [.int .i64 0].toArray 3) = w6 at *
     generalize w8.heap.size = qh at *
     refine wpAnyH_two 2 7 _ #[true,true,true,true,false,true,true,false,false,false] #[true,true,false,true,false,true,true,true,false,false] 4 (by kernel_rfl) (fun K hK=>?_) (fun K hK=>?_)
     ·skip
      have o7:=o6.alloc [.slice a9 (2 * i + 1 + 1) c9,.slice (some ⟨qc,0,none⟩) 4 4] 31 rfl
      have HKK:=Lib.hid hK
      clear hK
      simp only [List.drop_succ_cons,List.drop_zero]
      refine headH_mk (by rfl) ?_
      go_simp
      refine HKK.out _ _ (HSB.out _ _ 3 o7 rfl) ?_
      clear HKK K
      generalize w6.alloc (.cells [.slice a9 (2 * i + 1 + 1) c9,.slice (some ⟨qc,0,none⟩) 4 4].toArray 31) = w7 at *
      generalize w6.heap.size = cf at *
      refine wpAnyH_seg 4 1 _ #[true,true,true,true,true,true,true,false,false,false] 3 (by kernel_rfl) noPanic_put (HSB.out _ _ 3 o7 rfl) (by kernel_rfl) ?_
      simp only [List.take_succ_cons,List.take_zero,List.drop_succ_cons,List.drop_zero]
      repeat ((first | refine wpSegH_no (by rfl) ?_ | (refine wpSegH_yes (by rfl) ?_;apply Exists.intro;apply And.intro;(· (intro wx hS;(try dsimp only at hS);go_simp;first | done | with_reducible rfl))));simp only [Act.put,List.setIfInBounds_toArray,List.set_cons_zero,List.set_cons_succ])
      refine wpSegH_nil ?_
      have hon:=onew_any o7 (some ⟨qn,0,none⟩) 1200 wkNum (o7.rowG 2 rfl).cells (fun e=>by cases e) (by rw [wkNum_len];omega)
      rw [wkNum_len] at hon
      refine wpAnyH_one 7 _ #[true,true,true,true,true,true,true,true,false,false] 2 (by kernel_rfl) (fun K hK=>?_)
      have HKK:=Lib.hid hK
      clear hK
      simp only [List.drop_succ_cons,List.drop_zero]
      refine headH_mk (by rfl) ?_
      go_simp
      refine hon.mono ?_
      rintro r w8 ⟨sp,rfl,o8,hbo⟩
      clear hon hbo
      refine HKK.out _ _ (HSB.out _ _ 4 o8 rfl) ?_
      clear HKK K
      refine wpAnyH_one 8 _ #[true,true,true,true,true,true,true,true,true,false] 1 (by kernel_rfl) (fun K hK=>?_)
      have HKK:=Lib.hid hK
      clear hK
      simp only [List.drop_succ_cons,List.drop_zero]
      refine headH_mk (by rfl) ?_
      go_simp
      refine (snew_any o8 (some ⟨cf,0,none⟩) 2 [(a9,c9),(some ⟨qc,0,none⟩,4)] (wkFs i) (some ⟨qh,0,none⟩) 1 [0] 0 none 0 [] (wk_prog (n:=i) (o8.rowG 6 rfl).cells (o8.rowG 6 rfl).none0 (mk_cells (o8.cel 5 rfl)) (mk_cells (o8.cel 1 rfl)) (mk_cells (o8.cel 2 rfl)) (by omega)) (by decide) 1 1 (2 + (c:Int)) (1 + (d:Int)) (by omega) (by omega) sp).mono ?_
      rintro r wz ⟨bs,rfl,oz⟩
      refine HKK.out _ _ (HSB.out _ _ 5 oz rfl) ?_
      clear HKK K
      refine wpAnyH_seg 9 1 _ #[true,true,true,true,true,true,true,true,true,true] 0 (by kernel_rfl) noPanic_put (HSB.out _ _ 5 oz rfl) (by kernel_rfl) ?_
      simp only [List.take_succ_cons,List.take_zero,List.drop_succ_cons,List.drop_zero]
      repeat ((first | refine wpSegH_no (by rfl) ?_ | (refine wpSegH_yes (by rfl) ?_;apply Exists.intro;apply And.intro;(· (intro wx hS;(try dsimp only at hS);go_simp;first | done | with_reducible rfl))));simp only [Act.put,List.setIfInBounds_toArray,List.set_cons_zero,List.set_cons_succ])
      refine wpSegH_nil ?_
      refine wpAnyH_done (by kernel_rfl) (NoPanic.normal ?_) _
      have HZ:=Lib.hid (wk_keep oz 0 rfl)
      clear oz
      go_wp2_with fail
      go_meet
      exact ⟨bs,sp,rfl,HZ⟩
     ·skip
      have hon:=onew_any o6 (some ⟨qn,0,none⟩) 1200 wkNum (o6.rowG 1 rfl).cells (fun e=>by cases e) (by rw [wkNum_len];omega)
      rw [wkNum_len] at hon
      have HKK:=Lib.hid hK
      clear hK
      simp only [List.drop_succ_cons,List.drop_zero]
      refine headH_mk (by rfl) ?_
      go_simp
      refine hon.mono ?_
      rintro r w9 ⟨sp,rfl,o9,hbo⟩
      clear hon hbo
      refine HKK.out _ _ (HSB.out _ _ 3 o9 rfl) ?_
      clear HKK K
      have o10:=o9.alloc [.slice a9 (2 * i + 1 + 1) c9,.slice (some ⟨qc,0,none⟩) 4 4] 31 rfl
      refine wpAnyH_one 2 _ #[true,true,true,true,false,true,true,true,false,false] 3 (by kernel_rfl) (fun K hK=>?_)
      have HKK:=Lib.hid hK
      clear hK
      simp only [List.drop_succ_cons,List.drop_zero]
      refine headH_mk (by rfl) ?_
      go_simp
      refine HKK.out _ _ (HSB.out _ _ 4 o10 rfl) ?_
      clear HKK K
      generalize w9.alloc (.cells [.slice a9 (2 * i + 1 + 1) c9,.slice (some ⟨qc,0,none⟩) 4 4].toArray 31) = w10 at *
      generalize w9.heap.size = cf at *
      refine wpAnyH_seg 4 1 _ #[true,true,true,true,true,true,true,true,false,false] 2 (by kernel_rfl) noPanic_put (HSB.out _ _ 4 o10 rfl) (by kernel_rfl) ?_
      simp only [List.take_succ_cons,List.take_zero,List.drop_succ_cons,List.drop_zero]
      repeat ((first | refine wpSegH_no (by rfl) ?_ | (refine wpSegH_yes (by rfl) ?_;apply Exists.intro;apply And.intro;(· (intro wx hS;(try dsimp only at hS);go_simp;first | done | with_reducible rfl))));simp only [Act.put,List.setIfInBounds_toArray,List.set_cons_zero,List.set_cons_succ])
      refine wpSegH_nil ?_
      refine wpAnyH_one 8 _ #[true,true,true,true,true,true,true,true,true,false] 1 (by kernel_rfl) (fun K hK=>?_)
      have HKK:=Lib.hid hK
      clear hK
      simp only [List.drop_succ_cons,List.drop_zero]
      refine headH_mk (by rfl) ?_
      go_simp
      refine (snew_any o10 (some ⟨cf,0,none⟩) 2 [(a9,c9),(some ⟨qc,0,none⟩,4)] (wkFs i) (some ⟨qh,0,none⟩) 1 [0] 0 none 0 [] (wk_prog (n:=i) (o10.rowG 6 rfl).cells (o10.rowG 6 rfl).none0 (mk_cells (o10.cel 5 rfl)) (mk_cells (o10.cel 0 rfl)) (mk_cells (o10.cel 2 rfl)) (by omega)) (by decide) 1 1 (2 + (c:Int)) (1 + (d:Int)) (by omega) (by omega) sp).mono ?_
      rintro r wz ⟨bs,rfl,oz⟩
      refine HKK.out _ _ (HSB.out _ _ 5 oz rfl) ?_
      clear HKK K
      refine wpAnyH_seg 9 1 _ #[true,true,true,true,true,true,true,true,true,true] 0 (by kernel_rfl) noPanic_put (HSB.out _ _ 5 oz rfl) (by kernel_rfl) ?_
      simp only [List.take_succ_cons,List.take_zero,List.drop_succ_cons,List.drop_zero]
      repeat ((first | refine wpSegH_no (by rfl) ?_ | (refine wpSegH_yes (by rfl) ?_;apply Exists.intro;apply And.intro;(· (intro wx hS;(try dsimp only at hS);go_simp;first | done | with_reducible rfl))));simp only [Act.put,List.setIfInBounds_toArray,List.set_cons_zero,List.set_cons_succ])
      refine wpSegH_nil ?_
      refine wpAnyH_done (by kernel_rfl) (NoPanic.normal ?_) _
      have HZ:=Lib.hid (wk_keep oz 1 rfl)
      clear oz
      go_wp2_with fail
      go_meet
      exact ⟨bs,sp,rfl,HZ⟩
    ·skip
     have hon:=onew_any o0 (some ⟨qn,0,none⟩) 1200 wkNum (o0.rowG 0 rfl).cells (fun e=>by cases e) (by rw [wkNum_len];omega)
     rw [wkNum_len] at hon
     have HKK:=Lib.hid hK
     clear hK
     simp only [List.drop_succ_cons,List.drop_zero]
     refine headH_mk (by rfl) ?_
     go_simp
     refine hon.mono ?_
     rintro r w11 ⟨sp,rfl,o11,hbo⟩
     clear hon hbo
     refine HKK.out _ _ (HSB.out _ _ 2 o11 rfl) ?_
     clear HKK K
     refine wpAnyH_two 2 3 _ #[true,true,true,false,false,true,true,true,false,false] #[true,true,false,true,false,true,true,true,false,false] 4 (by kernel_rfl) (fun K hK=>?_) (fun K hK=>?_)
     ·skip
      have o12:=o11.alloc [.slice a9 (2 * i + 1 + 1) c9,.slice (some ⟨qc,0,none⟩) 4 4] 31 rfl
      have HKK:=Lib.hid hK
      clear hK
      simp only [List.drop_succ_cons,List.drop_zero]
      refine headH_mk (by rfl) ?_
      go_simp
      refine HKK.out _ _ (HSB.out _ _ 3 o12 rfl) ?_
      clear HKK K
      generalize w11.alloc (.cells [.slice a9 (2 * i + 1 + 1) c9,.slice (some ⟨qc,0,none⟩) 4 4].toArray 31) = w12 at *
      generalize w11.heap.size = cf at *
      have o13:=o12.alloc [.int .i64 0] 3 rfl
      refine wpAnyH_one 3 _ #[true,true,true,true,false,true,true,true,false,false] 3 (by kernel_rfl) (fun K hK=>?_)
      have HKK:=Lib.hid hK
      clear hK
      simp only [List.drop_succ_cons,List.drop_zero]
      refine headH_mk (by rfl) ?_
      go_simp
      refine HKK.out _ _ (HSB.out _ _ 4 o13 rfl) ?_
      clear HKK K
      generalize w12.alloc (.cells [.int .i64 0].toArray 3) = w13 at *
      generalize w12.heap.size = qh at *
      refine wpAnyH_seg 4 1 _ #[true,true,true,true,true,true,true,true,false,false] 2 (by kernel_rfl) noPanic_put (HSB.out _ _ 4 o13 rfl) (by kernel_rfl) ?_
      simp only [List.take_succ_cons,List.take_zero,List.drop_succ_cons,List.drop_zero]
      repeat ((first | refine wpSegH_no (by rfl) ?_ | (refine wpSegH_yes (by rfl) ?_;apply Exists.intro;apply And.intro;(· (intro wx hS;(try dsimp only at hS);go_simp;first | done | with_reducible rfl))));simp only [Act.put,List.setIfInBounds_toArray,List.set_cons_zero,List.set_cons_succ])
      refine wpSegH_nil ?_
      refine wpAnyH_one 8 _ #[true,true,true,true,true,true,true,true,true,false] 1 (by kernel_rfl) (fun K hK=>?_)
      have HKK:=Lib.hid hK
      clear hK
      simp only [List.drop_succ_cons,List.drop_zero]
      refine headH_mk (by rfl) ?_
      go_simp
      refine (snew_any o13 (some ⟨cf,0,none⟩) 2 [(a9,c9),(some ⟨qc,0,none⟩,4)] (wkFs i) (some ⟨qh,0,none⟩) 1 [0] 0 none 0 [] (wk_prog (n:=i) (o13.rowG 6 rfl).cells (o13.rowG 6 rfl).none0 (mk_cells (o13.cel 5 rfl)) (mk_cells (o13.cel 1 rfl)) (mk_cells (o13.cel 0 rfl)) (by omega)) (by decide) 1 1 (2 + (c:Int)) (1 + (d:Int)) (by omega) (by omega) sp).mono ?_
      rintro r wz ⟨bs,rfl,oz⟩
      refine HKK.out _ _ (HSB.out _ _ 5 oz rfl) ?_
      clear HKK K
      refine wpAnyH_seg 9 1 _ #[true,true,true,true,true,true,true,true,true,true] 0 (by kernel_rfl) noPanic_put (HSB.out _ _ 5 oz rfl) (by kernel_rfl) ?_
      simp only [List.take_succ_cons,List.take_zero,List.drop_succ_cons,List.drop_zero]
      repeat ((first | refine wpSegH_no (by rfl) ?_ | (refine wpSegH_yes (by rfl) ?_;apply Exists.intro;apply And.intro;(· (intro wx hS;(try dsimp only at hS);go_simp;first | done | with_reducible rfl))));simp only [Act.put,List.setIfInBounds_toArray,List.set_cons_zero,List.set_cons_succ])
      refine wpSegH_nil ?_
      refine wpAnyH_done (by kernel_rfl) (NoPanic.normal ?_) _
      have HZ:=Lib.hid (wk_keep oz 2 rfl)
      clear oz
      go_wp2_with fail
      go_meet
      exact ⟨bs,sp,rfl,HZ⟩
     ·skip
      have o14:=o11.alloc [.int .i64 0] 3 rfl
      have HKK:=Lib.hid hK
      clear hK
      simp only [List.drop_succ_cons,List.drop_zero]
      refine headH_mk (by rfl) ?_
      go_simp
      refine HKK.out _ _ (HSB.out _ _ 3 o14 rfl) ?_
      clear HKK K
      generalize w11.alloc (.cells [.int .i64 0].toArray 3) = w14 at *
      generalize w11.heap.size = qh at *
      have o15:=o14.alloc [.slice a9 (2 * i + 1 + 1) c9,.slice (some ⟨qc,0,none⟩) 4 4] 31 rfl
      refine wpAnyH_one 2 _ #[true,true,true,true,false,true,true,true,false,false] 3 (by kernel_rfl) (fun K hK=>?_)
      have HKK:=Lib.hid hK
      clear hK
      simp only [List.drop_succ_cons,List.drop_zero]
      refine headH_mk (by rfl) ?_
      go_simp
      refine HKK.out _ _ (HSB.out _ _ 4 o15 rfl) ?_
      clear HKK K
      generalize w14.alloc (.cells [.slice a9 (2 * i + 1 + 1) c9,.slice (some ⟨qc,0,none⟩) 4 4].toArray 31) = w15 at *
      generalize w14.heap.size = cf at *
      refine wpAnyH_seg 4 1 _ #[true,true,true,true,true,true,true,true,false,false] 2 (by kernel_rfl) noPanic_put (HSB.out _ _ 4 o15 rfl) (by kernel_rfl) ?_
      simp only [List.take_succ_cons,List.take_zero,List.drop_succ_cons,List.drop_zero]
      repeat ((first | refine wpSegH_no (by rfl) ?_ | (refine wpSegH_yes (by rfl) ?_;apply Exists.intro;apply And.intro;(· (intro wx hS;(try dsimp only at hS);go_simp;first | done | with_reducible rfl))));simp only [Act.put,List.setIfInBounds_toArray,List.set_cons_zero,List.set_cons_succ])
      refine wpSegH_nil ?_
      refine wpAnyH_one 8 _ #[true,true,true,true,true,true,true,true,true,false] 1 (by kernel_rfl) (fun K hK=>?_)
      have HKK:=Lib.hid hK
      clear hK
      simp only [List.drop_succ_cons,List.drop_zero]
      refine headH_mk (by rfl) ?_
      go_simp
      refine (snew_any o15 (some ⟨cf,0,none⟩) 2 [(a9,c9),(some ⟨qc,0,none⟩,4)] (wkFs i) (some ⟨qh,0,none⟩) 1 [0] 0 none 0 [] (wk_prog (n:=i) (o15.rowG 6 rfl).cells (o15.rowG 6 rfl).none0 (mk_cells (o15.cel 5 rfl)) (mk_cells (o15.cel 0 rfl)) (mk_cells (o15.cel 1 rfl)) (by omega)) (by decide) 1 1 (2 + (c:Int)) (1 + (d:Int)) (by omega) (by omega) sp).mono ?_
      rintro r wz ⟨bs,rfl,oz⟩
      refine HKK.out _ _ (HSB.out _ _ 5 oz rfl) ?_
      clear HKK K
      refine wpAnyH_seg 9 1 _ #[true,true,true,true,true,true,true,true,true,true] 0 (by kernel_rfl) noPanic_put (HSB.out _ _ 5 oz rfl) (by kernel_rfl) ?_
      simp only [List.take_succ_cons,List.take_zero,List.drop_succ_cons,List.drop_zero]
      repeat ((first | refine wpSegH_no (by rfl) ?_ | (refine wpSegH_yes (by rfl) ?_;apply Exists.intro;apply And.intro;(· (intro wx hS;(try dsimp only at hS);go_simp;first | done | with_reducible rfl))));simp only [Act.put,List.setIfInBounds_toArray,List.set_cons_zero,List.set_cons_succ])
      refine wpSegH_nil ?_
      refine wpAnyH_done (by kernel_rfl) (NoPanic.normal ?_) _
      have HZ:=Lib.hid (wk_keep oz 2 rfl)
      clear oz
      go_wp2_with fail
      go_meet
      exact ⟨bs,sp,rfl,HZ⟩
   case rest =>
    obtain ⟨bs,sp,rfl,HZ⟩:=hcut
    clear HSB H7
    have hST:∃ J,WkOk i c d J:=by
     obtain ⟨e,h1⟩:=HNM.out
     rw [e]
     exact wk_ok M c d h1 hc5 hd5
    obtain ⟨J,hST⟩:=hST
    have hJ:=hST.hJ
    have HST:=Lib.hid hST
    clear hST
    go_wp2_with fail
    go_loopw [58] (fun kv wr=>∃ k:Nat,k ≤ 600 ∧ kv = .int .i64 k ∧ Hid (Own w wr (SchA bs sp (itM (wkX0 i c d) ((wkPk J).take k)) :: SrcA sp 0 (orS wkNum ((wkPk J).take k)) .nilFunc :: []))) (fun kv _=>600 - (intOf kv).toNat)
    case atStart=>exact ⟨0,by omega,rfl,HZ⟩
    case round =>
     obtain ⟨k,hk,rfl,hr⟩:=hrel
     clear HZ
     by_cases hlt:k < 600
     ·have hlt2:(k:Int) < 600:=by omega
      have HX:=Lib.hid (wks_step HST.out (by omega) hr.out)
      clear hr
      go_wp2_with fail
      refine HX.out.mono ?_
      rintro r w2 ⟨kk,mm,gg,rn,ra,rc,rfl,ho⟩
      have HF:=Lib.hid (ho.step (below_alloc1 w2 (.cells #[.int .i64 kk,.int .i64 mm,.int .i64 gg,.slice ra rn rc] 46)))
      clear ho HX
      go_wp2
      exact ⟨⟨k + 1,by omega,by go_num,HF⟩,by simp [intOf];omega⟩
     ·obtain rfl:k = 600:=by omega
      obtain ⟨L,hs,hsl,hgl⟩:=wks_600 HST.out hr.out
      have HW:=Lib.hid (sworld_any hs)
      have HSL:=Lib.hid hsl
      have HGL:=Lib.hid hgl
      have hge:¬ (((600:Nat):Int) < 600):=by omega
      clear hs hsl hgl
      go_upto_region 22 with fail
      clear hge hlt hk hr
      go_wp2_with fail
      refine HW.out.mono ?_
      rintro r w2 ⟨rfl,rfl⟩
      go_wp2_with fail
      refine HSL.out.mono ?_
      rintro r w3 ⟨ax,cx,rfl,hb⟩
      have HX:=Lib.hid (HGL.out _ hb)
      clear hb HGL HSL HW
      go_wp2_with fail
      refine HX.out.mono ?_
      rintro r w4 ⟨ay,cy,rfl,ho⟩
      have HT:=Lib.hid (wks_tick HST.out ho)
      clear ho HX
      go_upto_region 24 with fail
      go_wp2_with fail
      refine HT.out.mono ?_
      rintro r w5 ⟨mm,gg,rd,ra,rc,rfl,hrd,hgl2,ho⟩
      have o1:=ho.alloc [.int .i64 1,.int .i64 mm,.int .i64 gg,.slice ra i rc] 46 (b:=w5.heap.size) rfl
      have H1:=Lib.hid o1
      have HRD:=Lib.hid (And.intro hrd hgl2)
      clear ho o1 HT hrd hgl2
      go_upto_region 25 with fail
      generalize w5.alloc (.cells [.int .i64 1,.int .i64 mm,.int .i64 gg,.slice ra i rc].toArray 46) = w6 at *
      generalize w5.heap.size = qe at *
      have o2:=H1.out.step (below_drew1 w6)
      have HSB:Hid (∀ (wx:World) (As:List Asr) (k:Nat),Own w wx As → As[k]? = some (CelA qe [.int .i64 1,.int .i64 mm,.int .i64 gg,.slice ra i rc]) → wx.cell? ⟨qe,0,none⟩ = some (.int .i64 1) ∧ wx.cell? ⟨qe,3,none⟩ = some (.slice ra i rc)) :=
       Lib.hid (fun wx As k h hk=>⟨(h.cel k hk 0 _ rfl).1,(h.cel k hk 3 _ rfl).1⟩)
      refine wp_region_lexH (fun wx=>wx.cell? ⟨qe,0,none⟩ = some (.int .i64 1) ∧ wx.cell? ⟨qe,3,none⟩ = some (.slice ra i rc)) 18 (Array.replicate 18 false) (by kernel_rfl) (by kernel_rfl) ?_
      generalize w6.drew = w7 at *
      clear H1
      obtain ⟨L2,hs2⟩:=(o2.pick 2 rfl).sat
      have hgl:=sglobal_any hs2 (by rw [HRD.out.2,HRD.out.1];omega)
      rw [HRD.out.2,HRD.out.1] at hgl
      have HG:=Lib.hid hgl
      clear hs2 hgl
      refine wpAnyH_seg 0 12 _ #[true,true,true,true,true,true,true,true,true,true,true,true,false,false,false,false,false,false] 6 (by kernel_rfl) noPanic_put (HSB.out _ _ 0 o2 rfl) (by kernel_rfl) ?_
      simp only [List.take_succ_cons,List.take_zero,List.drop_zero]
      repeat ((first | refine wpSegH_no (by rfl) ?_ | (refine wpSegH_yes (by rfl) ?_;apply Exists.intro;apply And.intro;(· (intro wx hS;(try dsimp only at hS);go_simp;first | done | with_reducible rfl))));simp only [Act.put,List.setIfInBounds_toArray,List.set_cons_zero,List.set_cons_succ])
      refine wpSegH_nil ?_
      refine wpAnyH_seg 13 2 _ #[true,true,true,true,true,true,true,true,true,true,true,true,false,true,true,false,false,false] 4 (by kernel_rfl) noPanic_put (HSB.out _ _ 0 o2 rfl) (by kernel_rfl) ?_
      simp only [List.take_succ_cons,List.take_zero,List.drop_succ_cons,List.drop_zero]
      repeat ((first | refine wpSegH_no (by rfl) ?_ | (refine wpSegH_yes (by rfl) ?_;apply Exists.intro;apply And.intro;(· (intro wx hS;(try dsimp only at hS);go_simp;first | done | with_reducible rfl))));simp only [Act.put,List.setIfInBounds_toArray,List.set_cons_zero,List.set_cons_succ])
      refine wpSegH_nil ?_
      refine wpAnyH_one 12 _ #[true,true,true,true,true,true,true,true,true,true,true,true,true,true,true,false,false,false] 3 (by kernel_rfl) (fun K hK=>?_)
      have HKK:=Lib.hid hK
      clear hK
      simp only [List.drop_succ_cons,List.drop_zero]
      refine headH_mk (by rfl) ?_
      go_simp
      refine HG.out.mono ?_
      rintro r w8 ⟨ag,cg,rfl,hs3⟩
      have o4:Own w w8 [SchA bs sp (itM (wkX0 i c d) ((wkPk J).take 601)),RowGA 1 ag cg i (intc rd),CelA qe [.int .i64 1,.int .i64 mm,.int .i64 gg,.slice ra i rc],RowGA 1 ra rc i (intc rd),SrcA sp 0 (orS wkNum ((wkPk J).take 601)) .nilFunc]:=hs3.to
      refine HKK.out _ _ (HSB.out _ _ 2 o4 rfl) ?_
      clear HKK K
      have hsame:=same_any w8 ag ra cg rc rd (wk_ints (o4.rowG 1 rfl)) (wk_ints (o4.rowG 3 rfl)) (by rw [HRD.out.1];unfold maxLen;omega)
      rw [HRD.out.1] at hsame
      have HSM:=Lib.hid hsame
      clear hsame hs3 HG
      refine wpAnyH_one 15 _ #[true,true,true,true,true,true,true,true,true,true,true,true,true,true,true,true,false,false] 2 (by kernel_rfl) (fun K hK=>?_)
      have HKK:=Lib.hid hK
      clear hK
      simp only [List.drop_succ_cons,List.drop_zero]
      refine headH_mk (by rfl) ?_
      go_simp
      refine HSM.out.mono ?_
      rintro r w9 ⟨rfl,m9,rfl⟩
      refine HKK.out _ _ (HSB.out _ _ 2 (o4.step (below_dN w8 m9)) rfl) ?_
      clear HKK K
      refine wpAnyH_seg 16 2 _ #[true,true,true,true,true,true,true,true,true,true,true,true,true,true,true,true,true,true] 0 (by kernel_rfl) noPanic_put (HSB.out _ _ 2 (o4.step (below_dN w8 m9)) rfl) (by kernel_rfl) ?_
      simp only [List.take_succ_cons,List.take_zero,List.drop_succ_cons,List.drop_zero]
      repeat ((first | refine wpSegH_no (by rfl) ?_ | (refine wpSegH_yes (by rfl) ?_;apply Exists.intro;apply And.intro;(· (intro wx hS;(try dsimp only at hS);go_simp;first | done | with_reducible rfl))));simp only [Act.put,List.setIfInBounds_toArray,List.set_cons_zero,List.set_cons_succ])
      refine wpSegH_nil ?_
      refine wpAnyH_done (by kernel_rfl) (NoPanic.normal ?_) _
      have H9:=Lib.hid (wk_keep (o4.step (below_dN w8 m9)) 3 rfl)
      clear o4 o2 HSM HSB
      go_wp2_with fail
      go_loopw [104] (fun sv wr=>∃ k:Nat,601 ≤ k ∧ k ≤ 601 + J ∧ Hid (Own w wr (SchA bs sp (itM (wkX0 i c d) ((wkPk J).take k)) :: SrcA sp 0 (orS wkNum ((wkPk J).take k)) .nilFunc :: []))) (fun _ wr=>2000 - stOf wr bs)
      case atStart=>exact ⟨601,by omega,by omega,H9⟩
      case round =>
       obtain ⟨k,hk1,hk2,hr⟩:=hrel
       clear H9
       have hst:=wks_stat HST.out hk2 hr.out
       by_cases hlt:k < 601 + J
       ·rw [if_pos hlt] at hst
        have HS:=Lib.hid hst
        have e1:=stOf_eq (wks_st HST.out hk2 hr.out)
        have HE:=Lib.hid e1
        clear hst e1
        go_wp2_with fail
        refine HS.out.mono ?_
        rintro r w2 ⟨rfl,hb⟩
        have HX:=Lib.hid (wks_step HST.out hlt (hr.out.step hb))
        clear hb HS hr
        go_wp2_with fail
        refine HX.out.mono ?_
        rintro r w3 ⟨kk,mm,gg,rn,ra,rc,rfl,ho⟩
        have HF:=Lib.hid (ho.step (below_alloc1 w3 (.cells #[.int .i64 kk,.int .i64 mm,.int .i64 gg,.slice ra rn rc] 46)))
        have HE2:=Lib.hid (stOf_eq (wks_st HST.out (by omega) HF.out))
        clear ho HX
        go_wp2
        refine ⟨⟨k + 1,by omega,by omega,HF⟩,?_⟩
        have q1:=HE.out
        have q2:=HE2.out
        omega
       ·obtain rfl:k = 601 + J:=by omega
        rw [if_neg hlt] at hst
        have HS:=Lib.hid hst
        clear hst hlt hk1 hk2
        go_wp2_with fail
        refine HS.out.mono ?_
        rintro r w2 ⟨rfl,hb⟩
        have o2:=hr.out.step hb
        have hst:=wks_stat HST.out (by omega) o2
        rw [if_neg (by omega)] at hst
        have HS2:=Lib.hid hst
        have HO:=Lib.hid o2
        clear hst o2 hr HS hb
        go_wp2_with fail
        refine HS2.out.mono ?_
        rintro r w3 ⟨rfl,hb⟩
        have o3:=HO.out.step hb
        obtain ⟨L3,hs3⟩:=o3.sat
        have HW:=Lib.hid (sworld_any hs3)
        have HX:=Lib.hid (wks_out HST.out o3)
        have HB:=Lib.hid o3.bel
        clear o3 hs3 hb HS2 HO
        go_wp2_with fail
        refine HW.out.mono ?_
        rintro r w4 ⟨rfl,rfl⟩
        go_wp2_with fail
        refine HX.out.mono ?_
        rintro r w5 ⟨az,cz,rfl,hb⟩
        have HBF:=Lib.hid (below_on HB.out hb)
        clear hb HX HW
        go_wp2
        go_ret
        exact ⟨rfl,HBF.out⟩
end Go.Proofs.YtodjgipiomnnfaaGreat.schedWakes
