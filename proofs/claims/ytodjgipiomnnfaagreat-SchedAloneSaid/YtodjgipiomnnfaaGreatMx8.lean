/-
  Texts put together: SdNewW, SdAwk, SdPk, AlM, AlN, AlO, SdWk, SdShow, SdChk, SdMk, W18Alone.
-/
import Derived.Test.YtodjgipiomnnfaaGreatMx7
import Derived.Test.YtodjgipiomnnfaaGreatMx6
import Derived.Test.YtodjgipiomnnfaaGreatMx2
import Derived.OpenShut
set_option maxRecDepth 100000
set_option maxHeartbeats 16000000
set_option linter.unusedSimpArgs false
set_option linter.unusedVariables false
open Go Go.RowKit
set_option linter.unusedVariables false
namespace Go.Proofs.YtodjgipiomnnfaaGreat
theorem ProgIn.below {w w':World} {fa:Option Addr} {fr:List (Option Addr × Nat)} {fs:List (List In4)} {ra:Option Addr} {rooms:List Int} {ca:Option Addr} {cc:Nat} {ks:List Cs3} (h:ProgIn w fa fr fs ra rooms ca cc ks) (hb:Below w.heap.size w w'):ProgIn w' fa fr fs ra rooms ca cc ks :=
 ⟨h.f.below hb,h.fl,fun i r l hr hl=>by obtain ⟨a,b⟩:=h.each i r l hr hl;exact ⟨a.below hb,b⟩,h.c.below hb,h.k.below hb,h.kn,h.kl,h.nf,h.nc⟩
theorem info_proc:(Tryz.prog.info? 89).map (fun i=>(i.zero,i.size,i.bytes)) = some (some (.agg #[.pointer none,.int .i64 0,.int .i64 0]),3,24):=by kernel_rfl
theorem info_mach:(Tryz.prog.info? 66).map (fun i=>(i.zero,i.size,i.bytes)) = some (some (.agg #[.int .i64 0,.int .i64 0,.int .i64 0]),3,24):=by kernel_rfl
def midSd (W:Wd) (i j:Nat) (ring sl:Int) (gl:List Int):Sd :=
 { W:=W,ps:=List.replicate i ⟨roomOf ring,⟨none,[]⟩,0,-1⟩,ms:=List.replicate j ⟨-1,-1,0⟩,gl:=gl,sl:=sl,st:=0 }
theorem pcs_app {ld:List (Nat × Nat)} {ps:List Pm} (h:ld.length = ps.length) (l:Nat × Nat) (P:Pm):pcs (ld ++ [l]) (ps ++ [P]) = pcs ld ps ++ pc1 (l,P):=by
 unfold pcs;rw [List.zip_append h,List.flatMap_append];simp
theorem qds_app {ld:List (Nat × Nat)} {ps:List Pm} (h:ld.length = ps.length) (l:Nat × Nat) (P:Pm):qds (ld ++ [l]) (ps ++ [P]) = qds ld ps ++ [qd1 l P]:=by
 unfold qds;rw [List.zipWith_append h];rfl
theorem mcs_app (ms:List Mm) (M:Mm):mcs (ms ++ [M]) = mcs ms ++ mc1 M:=by unfold mcs;rw [List.flatMap_append];simp
theorem snew_any {w0 w:World} {R:List Asr} (h:Own w0 w R) (fa:Option Addr) (fc:Nat) (fr:List (Option Addr × Nat)) (fs:List (List In4)) (ra:Option Addr) (rc:Nat) (rooms:List Int) (locks:Nat) (ca:Option Addr) (cc:Nat) (ks:List Cs3) (hp:ProgIn w fa fr fs ra rooms ca cc ks) (hlk:locks ≤ 1000) (np nm:Nat) (ring sl:Int) (hnp:np ≤ 1000) (hnm:nm ≤ 1000) (sp:Nat) :
  Calls Tryz.prog 11 #[.agg #[.slice fa fs.length fc,.slice ra rooms.length rc,.int .i64 (locks:Int),.slice ca ks.length cc],.agg #[.int .i64 (np:Int),.int .i64 (nm:Int),.int .i64 ring,.int .i64 sl],.pointer (some ⟨sp,0,none⟩)] w fun r w'=>∃ b,r = .returned (.pointer (some ⟨b,0,none⟩)) ∧ Own w0 w' (SchA b sp (newSd (newM fs ks rooms locks) np nm ring sl) :: R):=by
 have h1:=h.alloc [.slice fa fs.length fc,.slice ra rooms.length rc,.int .i64 (locks:Int),.slice ca ks.length cc] 41 (b:=w.heap.size) rfl
 have b1:=below_alloc1 w (.cells [.slice fa fs.length fc,.slice ra rooms.length rc,.int .i64 (locks:Int),.slice ca ks.length cc].toArray 41)
 have h2:=h1.alloc [.int .i64 (np:Int),.int .i64 (nm:Int),.int .i64 ring,.int .i64 sl] 26 (b:=w.heap.size + 1) (by simp)
 have b2:=below_on b1 (below_alloc1 _ (.cells [.int .i64 (np:Int),.int .i64 (nm:Int),.int .i64 ring,.int .i64 sl].toArray 26))
 have H2:=Lib.hid h2
 have HNW:=Lib.hid (fun (wx:World) (hb:Below w.heap.size w wx)=>new_w wx fa fc fr fs ra rc rooms locks ca cc ks (hp.below hb) hlk)
 have B2:=Lib.hid b2
 generalize hW:newM fs ks rooms locks = W0 at *
 have HWhp:Hid (W0.hp = []):=Lib.hid (by rw [← hW];rfl)
 clear h h1 h2 b1 b2 hp hlk hW
 go_enter Tryz.func11,Tryz.ntmps11
 go_upto_region 1 with fail
 generalize ((w.alloc (.cells [.slice fa fs.length fc,.slice ra rooms.length rc,.int .i64 (locks:Int),.slice ca ks.length cc].toArray 41)).alloc (.cells [.int .i64 (np:Int),.int .i64 (nm:Int),.int .i64 ring,.int .i64 sl].toArray 26)) = w2 at *
 have hB2:=B2.out
 have hB3:=below_on hB2 (below_drew1 w2)
 generalize hqb:w.heap.size + 1 = qb at *
 generalize hpb:w.heap.size = pb at *
 have h3:=H2.out.step (below_drew1 w2)
 have HSB:Hid (∀ (wx:World) (As:List Asr),Own w0 wx (As ++ (CelA qb [.int .i64 (np:Int),.int .i64 (nm:Int),.int .i64 ring,.int .i64 sl] :: CelA pb [.slice fa fs.length fc,.slice ra rooms.length rc,.int .i64 (locks:Int),.slice ca ks.length cc] :: R)) → wx.cell? ⟨qb,3,none⟩ = some (.int .i64 sl) ∧ wx.cell? ⟨pb,0,none⟩ = some (.slice fa fs.length fc) ∧ wx.cell? ⟨pb,1,none⟩ = some (.slice ra rooms.length rc) ∧ wx.cell? ⟨pb,2,none⟩ = some (.int .i64 (locks:Int)) ∧ wx.cell? ⟨pb,3,none⟩ = some (.slice ca ks.length cc)):=Lib.hid (fun wx As hx=>by
  have h:=Own.dropL hx
  exact ⟨(h.cel 0 rfl 3 _ rfl).1,(h.cel 1 rfl 0 _ rfl).1,(h.cel 1 rfl 1 _ rfl).1,(h.cel 1 rfl 2 _ rfl).1,(h.cel 1 rfl 3 _ rfl).1⟩)
 clear hB2 B2
 refine wp_region_lexH (fun wx=>wx.cell? ⟨qb,3,none⟩ = some (.int .i64 sl) ∧ wx.cell? ⟨pb,0,none⟩ = some (.slice fa fs.length fc) ∧ wx.cell? ⟨pb,1,none⟩ = some (.slice ra rooms.length rc) ∧ wx.cell? ⟨pb,2,none⟩ = some (.int .i64 (locks:Int)) ∧ wx.cell? ⟨pb,3,none⟩ = some (.slice ca ks.length cc)) 10 (Array.replicate 10 false) (by kernel_rfl) (by kernel_rfl) ?_
 generalize w2.drew = w3 at *
 refine wpAnyH_seg 0 1 _ #[true,false,false,false,false,false,false,false,false,false] 9 (by kernel_rfl) noPanic_put (HSB.out _ [] h3) (by kernel_rfl) ?_
 simp only [List.take_succ_cons,List.take_zero,List.drop_zero]
 repeat ((first | refine wpSegH_no (by rfl) ?_ | (refine wpSegH_yes (by rfl) ?_;apply Exists.intro;apply And.intro;(· (intro wx hS;(try dsimp only at hS);go_simp;first | done | with_reducible rfl))));simp only [Act.put,List.setIfInBounds_toArray,List.set_cons_zero,List.set_cons_succ])
 refine wpSegH_nil ?_
 refine wpAnyH_seg 4 3 _ #[true,false,false,false,true,true,true,false,false,false] 6 (by kernel_rfl) noPanic_put (HSB.out _ [] h3) (by kernel_rfl) ?_
 simp only [List.take_succ_cons,List.take_zero,List.drop_succ_cons,List.drop_zero]
 repeat ((first | refine wpSegH_no (by rfl) ?_ | (refine wpSegH_yes (by rfl) ?_;apply Exists.intro;apply And.intro;(· (intro wx hS;(try dsimp only at hS);go_simp;first | done | with_reducible rfl))));simp only [Act.put,List.setIfInBounds_toArray,List.set_cons_zero,List.set_cons_succ])
 refine wpSegH_nil ?_
 refine wpAnyH_one 1 _ #[true,true,false,false,true,true,true,false,false,false] 5 (by kernel_rfl) (fun K hK=>?_)
 have HKK:=Lib.hid hK
 clear hK
 simp only [List.drop_succ_cons,List.drop_zero]
 refine headH_mk (by rfl) ?_
 go_simp
 refine (HNW.out _ hB3).mono ?_
 rintro r w4 ⟨b0,rfl,hk⟩
 have h4:=h3.join hk
 obtain ⟨D,hD,h5⟩:=h4.wld
 have e5:=HSB.out _ _ h5
 refine HKK.out _ _ (e5) ?_
 clear HKK K
 obtain ⟨Fi,⟨-,hit⟩,-⟩:=h5.fact 8 (A:=ItemsA D.sv W0.hp) rfl
 obtain ⟨a5,c5,hv5,hc5⟩:=hit.slice
 rw [HWhp.out] at hv5
 simp only [List.length_nil] at hv5
 have y0:=(h5.cel 0 rfl 0 _ rfl).1
 have y1:=(h5.cel 0 rfl 1 _ rfl).1
 have y2:=(h5.cel 0 rfl 2 _ rfl).1
 have y3:=(h5.cel 0 rfl 3 _ rfl).1
 have y4:=(h5.cel 0 rfl 4 _ rfl).1
 have y5:=(h5.cel 0 rfl 5 _ rfl).1
 have y6:=(h5.cel 0 rfl 6 _ rfl).1
 have y7:=(h5.cel 0 rfl 7 _ rfl).1
 have y8:=(h5.cel 0 rfl 8 _ rfl).1
 have y9:=(h5.cel 0 rfl 9 _ rfl).1
 have y10:=(h5.cel 0 rfl 10 _ rfl).1
 rw [hv5] at y5
 refine wpAnyH_one 2 _ #[true,true,true,false,true,true,true,false,false,false] 4 (by kernel_rfl) (fun K hK=>?_)
 have HKK:=Lib.hid hK
 clear hK
 simp only [List.drop_succ_cons,List.drop_zero]
 refine headH_mk (by rfl) ?_
 go_simp
 refine HKK.out _ _ (e5) ?_
 clear HKK K
 refine wpAnyH_one 3 _ #[true,true,true,true,true,true,true,false,false,false] 3 (by kernel_rfl) (fun K hK=>?_)
 have HKK:=Lib.hid hK
 clear hK
 simp only [List.drop_succ_cons,List.drop_zero]
 refine headH_mk (by rfl) ?_
 go_simp
 refine HKK.out _ _ (e5) ?_
 clear HKK K
 refine wpAnyH_one 7 _ #[true,true,true,true,true,true,true,true,false,false] 2 (by kernel_rfl) (fun K hK=>?_)
 have HKK:=Lib.hid hK
 clear hK
 simp only [List.drop_succ_cons,List.drop_zero]
 refine headH_mk (by rfl) ?_
 go_simp
 refine HKK.out _ _ (e5) ?_
 clear HKK K
 refine wpAnyH_one 8 _ #[true,true,true,true,true,true,true,true,true,false] 1 (by kernel_rfl) (fun K hK=>?_)
 have HKK:=Lib.hid hK
 clear hK
 simp only [List.drop_succ_cons,List.drop_zero]
 refine headH_mk (by rfl) ?_
 go_simp
 have h6:=h5.drop
 have h7:Own w0 w4 (LstA (swr W0 D) :: CelA qb [.int .i64 (np:Int),.int .i64 (nm:Int),.int .i64 ring,.int .i64 sl] :: CelA pb [.slice fa fs.length fc,.slice ra rooms.length rc,.int .i64 (locks:Int),.slice ca ks.length cc] :: R):=Own.lst h6
 have h8:=((((((h7.pick 2 rfl).drop).rowNil 1).rowNil 3).lst (l:=[])).rowNil 3).alloc [.slice D.fa W0.fs.length D.fc,.slice D.ca W0.ks.length D.cc,.slice D.aa W0.gs.length D.ac,.slice D.ha W0.Cs.length D.hc,.slice D.la W0.Ls.length D.lc,.slice a5 0 c5,.int .u64 (W0.nx:Int),.int .u64 (W0.clock:Int),.slice D.oa W0.out.length D.oc,.int .i64 W0.en,.int .i64 W0.why,.pointer (some ⟨sp,0,none⟩),.slice none 0 0,.slice none 0 0,.slice none 0 0,.int .i64 sl,.int .i64 0] 85 (b:=w4.heap.size) rfl
 have hbx:=below_alloc1 w4 (.cells [.slice D.fa W0.fs.length D.fc,.slice D.ca W0.ks.length D.cc,.slice D.aa W0.gs.length D.ac,.slice D.ha W0.Cs.length D.hc,.slice D.la W0.Ls.length D.lc,.slice a5 0 c5,.int .u64 (W0.nx:Int),.int .u64 (W0.clock:Int),.slice D.oa W0.out.length D.oc,.int .i64 W0.en,.int .i64 W0.why,.pointer (some ⟨sp,0,none⟩),.slice none 0 0,.slice none 0 0,.slice none 0 0,.int .i64 sl,.int .i64 0].toArray 85)
 have e6:=HSB.out _ _ (h5.step hbx)
 refine HKK.out _ _ (e6) ?_
 clear HKK K
 refine wpAnyH_seg 9 1 _ #[true,true,true,true,true,true,true,true,true,true] 0 (by kernel_rfl) noPanic_put (e6) (by kernel_rfl) ?_
 simp only [List.take_succ_cons,List.take_zero,List.drop_succ_cons,List.drop_zero]
 repeat ((first | refine wpSegH_no (by rfl) ?_ | (refine wpSegH_yes (by rfl) ?_;apply Exists.intro;apply And.intro;(· (intro wx hS;(try dsimp only at hS);go_simp;first | done | with_reducible rfl))));simp only [Act.put,List.setIfInBounds_toArray,List.set_cons_zero,List.set_cons_succ])
 refine wpSegH_nil ?_
 refine wpAnyH_done (by kernel_rfl) (NoPanic.normal ?_) _
 obtain ⟨S0,hS0⟩:∃ S0:Sa,S0 = ⟨D,none,0,[],none,0,none,0⟩:=⟨_,rfl⟩
 have HS:Hid (S0.fits (midSd W0 0 0 ring sl []) ∧ Own w0 (w4.alloc (.cells [.slice D.fa W0.fs.length D.fc,.slice D.ca W0.ks.length D.cc,.slice D.aa W0.gs.length D.ac,.slice D.ha W0.Cs.length D.hc,.slice D.la W0.Ls.length D.lc,.slice a5 0 c5,.int .u64 (W0.nx:Int),.int .u64 (W0.clock:Int),.slice D.oa W0.out.length D.oc,.int .i64 W0.en,.int .i64 W0.why,.pointer (some ⟨sp,0,none⟩),.slice none 0 0,.slice none 0 0,.slice none 0 0,.int .i64 sl,.int .i64 0].toArray 85)) (schP w4.heap.size sp (midSd W0 0 0 ring sl []) S0 ++ (CelA qb [.int .i64 (np:Int),.int .i64 (nm:Int),.int .i64 ring,.int .i64 sl] :: R))):=Lib.hid (by
  subst hS0
  refine ⟨⟨hD,rfl⟩,?_⟩
  have e:[Value.slice D.fa W0.fs.length D.fc,.slice D.ca W0.ks.length D.cc,.slice D.aa W0.gs.length D.ac,.slice D.ha W0.Cs.length D.hc,.slice D.la W0.Ls.length D.lc,.slice a5 0 c5,.int .u64 (W0.nx:Int),.int .u64 (W0.clock:Int),.slice D.oa W0.out.length D.oc,.int .i64 W0.en,.int .i64 W0.why,.pointer (some ⟨sp,0,none⟩),.slice none 0 0,.slice none 0 0,.slice none 0 0,.int .i64 sl,.int .i64 0] = wcells W0 D ++ stl sp (midSd W0 0 0 ring sl []) ⟨D,none,0,[],none,0,none,0⟩:=by
   unfold wcells;rw [hv5];rfl
  have h9:=h8
  rw [e] at h9
  rw [e]
  exact h9)
 generalize w4.alloc (.cells [.slice D.fa W0.fs.length D.fc,.slice D.ca W0.ks.length D.cc,.slice D.aa W0.gs.length D.ac,.slice D.ha W0.Cs.length D.hc,.slice D.la W0.Ls.length D.lc,.slice a5 0 c5,.int .u64 (W0.nx:Int),.int .u64 (W0.clock:Int),.slice D.oa W0.out.length D.oc,.int .i64 W0.en,.int .i64 W0.why,.pointer (some ⟨sp,0,none⟩),.slice none 0 0,.slice none 0 0,.slice none 0 0,.int .i64 sl,.int .i64 0].toArray 85) = w5 at *
 generalize w4.heap.size = b at *
 clear hk h4 h5 h6 h7 h8 hbx e5 e6 hit hv5 hc5 y0 y1 y2 y3 y4 y5 y6 y7 y8 y9 y10 h3 hB3 HNW H2 HSB HWhp hqb hpb hS0 hD
 have g0:=(HS.out.2.cel 6 rfl 0 _ rfl).1
 go_wp2_with fail
 go_loopw [19] (fun iv wr=>∃ i:Nat,∃ S:Sa,i ≤ np ∧ iv = .int .i64 i ∧ Hid (S.fits (midSd W0 i 0 ring sl []) ∧ Own w0 wr (schP b sp (midSd W0 i 0 ring sl []) S ++ (CelA qb [.int .i64 (np:Int),.int .i64 (nm:Int),.int .i64 ring,.int .i64 sl] :: R)))) (fun iv _=>np - (intOf iv).toNat)
 case atStart=>exact ⟨0,S0,by omega,rfl,HS⟩
 case round =>
  obtain ⟨i,S,hi,rfl,hr⟩:=hrel
  clear HS g0
  by_cases hlt:i < np
  ·have hlt2:(i:Int) < (np:Int):=by omega
   have hi0:(0:Int) ≤ (i:Int):=by omega
   have HSB:Hid (∀ (wx:World) (As:List Asr) (k k2:Nat),Own w0 wx As → As[k]? = some (CelA b (wcells W0 S.D ++ stl sp (midSd W0 i 0 ring sl []) S)) → As[k2]? = some (CelA qb [.int .i64 (np:Int),.int .i64 (nm:Int),.int .i64 ring,.int .i64 sl]) → wx.cell? ⟨b,12,none⟩ = some (.slice S.pa i S.pc) ∧ wx.cell? ⟨qb,2,none⟩ = some (.int .i64 ring)):=Lib.hid (fun wx As k k2 hx h1 h2=>by
    have h3:=(hx.cel k h1 12 _ rfl).1
    have e:(midSd W0 i 0 ring sl []).ps.length = i:=by simp [midSd]
    rw [e] at h3
    exact ⟨h3,(hx.cel k2 h2 2 _ rfl).1⟩)
   have HFI:=Lib.hid hr.out.1
   have o1:=hr.out.2.step (below_drew1 wr)
   have HLN:=Lib.hid (fun wx=>lnew_any ring wx)
   have hpl:(pcs S.ld (midSd W0 i 0 ring sl []).ps).length = i * 3:=by rw [pcs_len _ _ hr.out.1.l];simp [midSd]
   obtain ⟨i0,hi1,hz0,hz1,hz2⟩:=info_parts info_proc
   have Hi:=Lib.hid hi1;clear hi1
   have Hz0:=Lib.hid hz0;clear hz0
   have Hz1:=Lib.hid hz1;clear hz1
   have Hz2:=Lib.hid hz2;clear hz2
   clear hr
   go_upto_region 4 with fail
   refine wp_region_lexY (fun wx=>wx.cell? ⟨b,12,none⟩ = some (.slice S.pa i S.pc) ∧ wx.cell? ⟨qb,2,none⟩ = some (.int .i64 ring)) 13 14 (Array.replicate 14 false) (by kernel_rfl) (by kernel_rfl) ?_
   generalize wr.drew = w6 at *
   refine wpAnyY_seg 0 7 _ #[true,true,true,true,true,true,true,false,false,false,false,false,false,false] 7 (by kernel_rfl) noPanic_put (HSB.out _ _ 0 6 o1 rfl rfl) (by kernel_rfl) ?_
   simp only [List.take_succ_cons,List.take_zero,List.drop_zero]
   repeat ((first | refine wpSegH_no (by rfl) ?_ | (refine wpSegH_yes (by rfl) ?_;apply Exists.intro;apply And.intro;(· (intro wx hS;(try dsimp only at hS);go_simp;first | done | with_reducible rfl))));simp only [Act.put,List.setIfInBounds_toArray,List.set_cons_zero,List.set_cons_succ])
   refine wpSegH_nil ?_
   refine wpAnyY_one 7 _ #[true,true,true,true,true,true,true,true,false,false,false,false,false,false] 6 (by kernel_rfl) (fun K hK=>?_)
   have HKK:=Lib.hid hK
   clear hK
   simp only [List.drop_succ_cons,List.drop_zero]
   refine headH_mk (by rfl) ?_
   go_simp
   refine (HLN.out _).mono ?_
   rintro r w7 ⟨p,g,rfl,hloc,hpp,hgg,hb7⟩
   have o2:=o1.add hb7 (A:=locA ⟨p,g,roomOf ring,⟨none,[]⟩,none,0⟩) (F:=[p,g]) ⟨rfl,hloc⟩ (by intro x hx;simp at hx;rcases hx with rfl | rfl <;> assumption)
   refine HKK.out _ _ (HSB.out _ _ 1 7 o2 rfl rfl) ?_
   clear HKK K
   refine wpAnyY_seg 8 1 _ #[true,true,true,true,true,true,true,true,true,false,false,false,false,false] 5 (by kernel_rfl) noPanic_put (HSB.out _ _ 1 7 o2 rfl rfl) (by kernel_rfl) ?_
   simp only [List.take_succ_cons,List.take_zero,List.drop_succ_cons,List.drop_zero]
   repeat ((first | refine wpSegH_no (by rfl) ?_ | (refine wpSegH_yes (by rfl) ?_;apply Exists.intro;apply And.intro;(· (intro wx hS;(try dsimp only at hS);go_simp;first | done | with_reducible rfl))));simp only [Act.put,List.setIfInBounds_toArray,List.set_cons_zero,List.set_cons_succ])
   refine wpSegH_nil ?_
   have o3:=o2.step (below_alloc1 w7 (.cells #[.pointer (some ⟨p,0,none⟩),.int .i64 0,.int .i64 (-1)] 89))
   refine wpAnyY_one 9 _ #[true,true,true,true,true,true,true,true,true,true,false,false,false,false] 4 (by kernel_rfl) (fun K hK=>?_)
   have HKK:=Lib.hid hK
   clear hK
   simp only [List.drop_succ_cons,List.drop_zero]
   refine headH_mk (by rfl) ?_
   go_simp
   refine HKK.out _ _ (HSB.out _ _ 1 7 o3 rfl rfl) ?_
   clear HKK K
   refine wpAnyY_one 10 _ #[true,true,true,true,true,true,true,true,true,true,true,false,false,false] 3 (by kernel_rfl) (fun K hK=>?_)
   have HKK:=Lib.hid hK
   clear hK
   simp only [List.drop_succ_cons,List.drop_zero]
   refine headH_mk (by rfl) ?_
   have hrow3:=o3.rowG 2 rfl
   rw [show (midSd W0 i 0 ring sl []).ps.length = i by simp [midSd]] at hrow3
   refine wp_append_rowG (n:=i) (m:=1) (cs:=pcs S.ld (midSd W0 i 0 ring sl []).ps) (ds:=[.pointer (some ⟨p,0,none⟩),.int .i64 0,.int .i64 (-1)]) _ _ 81 (by rfl) 89 i0 _ Tryz.underlying81 Hi.out Hz0.out Hz1.out Hz2.out rfl (by omega) (by omega) (by rfl) (by rfl) hrow3 (CellsAt.new _ [.pointer (some ⟨p,0,none⟩),.int .i64 0,.int .i64 (-1)] _ rfl) rfl (by simp [Value.oneCell']) (by omega) ?_
   intro a9 c9 w9 k9 ch9 f9
   have o4:=Own.rowTurn (o3.pick 2 rfl) k9 ch9 f9
   refine HKK.out _ _ (HSB.out _ _ 2 7 o4 rfl rfl) ?_
   clear HKK K
   refine wpAnyY_segT 11 1 _ #[true,true,true,true,true,true,true,true,true,true,true,true,false,false] 2 (by kernel_rfl) noPanic_put (by kernel_rfl) ?_
   simp only [List.take_succ_cons,List.take_zero,List.drop_succ_cons,List.drop_zero]
   repeat ((first | refine wpSegH_no (by rfl) ?_ | (refine wpSegH_yes (by rfl) ?_;apply Exists.intro;apply And.intro;(· (intro wx hS;(try dsimp only at hS);go_simp;first | done | with_reducible rfl))));simp only [Act.put,List.setIfInBounds_toArray,List.set_cons_zero,List.set_cons_succ])
   refine wpSegH_nil ?_
   refine wpAnyY_seg 12 1 _ #[true,true,true,true,true,true,true,true,true,true,true,true,true,false] 1 (by kernel_rfl) noPanic_put (HSB.out _ _ 2 7 o4 rfl rfl) (by kernel_rfl) ?_
   simp only [List.take_succ_cons,List.take_zero,List.drop_succ_cons,List.drop_zero]
   repeat ((first | refine wpSegH_no (by rfl) ?_ | (refine wpSegH_yes (by rfl) ?_;apply Exists.intro;apply And.intro;(· (intro wx hS;(try dsimp only at hS);go_simp;first | done | with_reducible rfl))));simp only [Act.put,List.setIfInBounds_toArray,List.set_cons_zero,List.set_cons_succ])
   refine wpSegH_nil ?_
   obtain ⟨z8,f8⟩:=o4.cel 2 rfl 12 _ rfl
   have o5:=((((((o4.setAt 2 rfl 12 (.slice a9 (i + 1) c9)).pick 1 rfl).pick 3 rfl).pick 1 rfl).lstAdd).pick 1 rfl).pick 2 rfl
   have H5:=Lib.hid o5
   clear o1 o2 o3 o4 o5 k9 ch9 f9 hrow3 hloc hpp hgg hb7 HSB HLN
   refine wpAnyY_late 13 _ #[true,true,true,true,true,true,true,true,true,true,true,true,true,true] 0 (by kernel_rfl) (fun K hK=>?_)
   have HKK:=Lib.hid hK
   clear hK
   simp only [List.drop_succ_cons,List.drop_zero]
   refine headH_mk (by rfl) ?_
   go_simp
   refine HKK.out _ _ ?_
   clear HKK K
   refine wpAnyY_done (by kernel_rfl) (NoPanic.normal ?_) _
   have HFIN:Hid (Sa.fits { S with pa:=a9,pc:=c9,ld:=S.ld ++ [(p,g)] } (midSd W0 (i + 1) 0 ring sl []) ∧ Own w0 (w9.setCell ⟨b,12,none⟩ (.slice a9 (i + 1) c9)) (schP b sp (midSd W0 (i + 1) 0 ring sl []) { S with pa:=a9,pc:=c9,ld:=S.ld ++ [(p,g)] } ++ (CelA qb [.int .i64 (np:Int),.int .i64 (nm:Int),.int .i64 ring,.int .i64 sl] :: R))):=Lib.hid (by
    have hl:=HFI.out.l
    have e1:(midSd W0 (i + 1) 0 ring sl []).ps = (midSd W0 i 0 ring sl []).ps ++ [⟨roomOf ring,⟨none,[]⟩,0,-1⟩]:=by unfold midSd;exact List.replicate_succ'
    have e2:(midSd W0 (i + 1) 0 ring sl []).ps.length = i + 1:=by simp [midSd]
    refine ⟨⟨HFI.out.w,by simp only [List.length_append,List.length_singleton];rw [hl,e2];simp [midSd]⟩,?_⟩
    unfold schP stl
    simp only
    rw [e2,e1,pcs_app hl,qds_app hl,locs,List.map_append]
    exact H5.out)
   clear H5 HFI hpl
   generalize w9.setCell ⟨b,12,none⟩ (.slice a9 (i + 1) c9) = w10 at *
   go_wp2
   exact ⟨⟨i + 1,_,by omega,by go_num,HFIN⟩,by simp [intOf];omega⟩
  ·have hge:¬ (i:Int) < (np:Int):=by omega
   obtain rfl:i = np:=by omega
   have g1:=(hr.out.2.cel 6 rfl 1 _ rfl).1
   go_wp2_with fail
   go_loopw [37] (fun iv wr=>∃ j:Nat,∃ S:Sa,j ≤ nm ∧ iv = .int .i64 j ∧ Hid (S.fits (midSd W0 i j ring sl []) ∧ Own w0 wr (schP b sp (midSd W0 i j ring sl []) S ++ (CelA qb [.int .i64 (i:Int),.int .i64 (nm:Int),.int .i64 ring,.int .i64 sl] :: R)))) (fun iv _=>nm - (intOf iv).toNat)
   case atStart=>exact ⟨0,S,by omega,rfl,hr⟩
   case round =>
    obtain ⟨j,S1,hj,rfl,hq⟩:=hrel
    clear hr g1
    by_cases hlt2:j < nm
    ·have hlt3:(j:Int) < (nm:Int):=by omega
     have hj0:(0:Int) ≤ (j:Int):=by omega
     have em:(midSd W0 i j ring sl []).ms.length = j:=by simp [midSd]
     have z13:=(hq.out.2.cel 0 rfl 13 _ rfl).1
     rw [em] at z13
     have o3:=hq.out.2.step (below_alloc1 wr (.cells #[.int .i64 (-1),.int .i64 (-1),.int .i64 0] 66))
     have z14:=(o3.cel 0 rfl 13 _ rfl)
     rw [em] at z14
     have hrow3:=o3.rowG 3 rfl
     rw [em] at hrow3
     have hpl:(mcs (midSd W0 i j ring sl []).ms).length = j * 3:=by rw [mcs_len];simp [midSd]
     have O3:=Lib.hid (And.intro o3 hrow3)
     have HFI:=Lib.hid hq.out.1
     obtain ⟨i0,hi1,hz0,hz1,hz2⟩:=info_parts info_mach
     have Hi:=Lib.hid hi1;clear hi1
     have Hz0:=Lib.hid hz0;clear hz0
     have Hz1:=Lib.hid hz1;clear hz1
     have Hz2:=Lib.hid hz2;clear hz2
     clear o3 hrow3 hq
     go_wp2_with (at_builtin;go_loud (refine wpList_append_rowG rfl _ _ 67 rfl 66 i0 _ Tryz.underlying67 Hi.out Hz0.out Hz1.out Hz2.out rfl (by decide) (by decide) (n:=j) (m:=1) (cs:=mcs (midSd W0 i j ring sl []).ms) (ds:=[.int .i64 (-1),.int .i64 (-1),.int .i64 0]) (by rfl) (by rfl) O3.out.2 (CellsAt.new _ [.int .i64 (-1),.int .i64 (-1),.int .i64 0] _ rfl) rfl (by simp [Value.oneCell']) (by omega) ?_))
     intro a9 c9 w9 k9 ch9 f9
     have o4:=Own.rowTurn (O3.out.1.pick 3 rfl) k9 ch9 (fun x hx=>by simpa using f9 x hx)
     obtain ⟨z8,f8⟩:=o4.cel 1 rfl 13 _ rfl
     have o5:=(((o4.setAt 1 rfl 13 (.slice a9 (j + 1) c9)).pick 3 rfl).pick 3 rfl).pick 3 rfl
     have HFIN:Hid (Sa.fits { S1 with ma:=a9,mc:=c9 } (midSd W0 i (j + 1) ring sl []) ∧ Own w0 (w9.setCell ⟨b,13,none⟩ (.slice a9 (j + 1) c9)) (schP b sp (midSd W0 i (j + 1) ring sl []) { S1 with ma:=a9,mc:=c9 } ++ (CelA qb [.int .i64 (i:Int),.int .i64 (nm:Int),.int .i64 ring,.int .i64 sl] :: R))):=Lib.hid (by
      have e1:(midSd W0 i (j + 1) ring sl []).ms = (midSd W0 i j ring sl []).ms ++ [⟨-1,-1,0⟩]:=by unfold midSd;exact List.replicate_succ'
      have e2:(midSd W0 i (j + 1) ring sl []).ms.length = j + 1:=by simp [midSd]
      refine ⟨⟨HFI.out.w,HFI.out.l⟩,?_⟩
      unfold schP stl
      simp only
      rw [e2,e1,mcs_app]
      exact o5)
     clear o4 o5 k9 ch9 f9 O3 HFI hpl z13 z14 em
     go_wp2
     exact ⟨⟨j + 1,_,by omega,by go_num,HFIN⟩,by simp [intOf];omega⟩
    ·have hge3:¬ (j:Int) < (nm:Int):=by omega
     obtain rfl:j = nm:=by omega
     have HP:=Lib.hid (fun (wx:World) (hx:Own w0 wx (schP b sp (midSd W0 i j ring sl []) S1 ++ (CelA qb [.int .i64 (i:Int),.int .i64 (j:Int),.int .i64 ring,.int .i64 sl] :: R))) (a:Option Addr) (hm:IntsAt wx a [0])=>sd_gput (L:=⟨S1.pa,S1.ma,S1.ld,S1.mc⟩) ⟨S1,hq.out.1,⟨rfl,⟨rfl,rfl⟩,rfl⟩,hx⟩ a 1 1 [0] rfl hm (by simp [midSd]))
     have HO:=Lib.hid (hq.out.2.step (below_alloc1 wr (.cells #[.int .i64 0] 3)))
     clear hq
     go_wp2_with fail
     refine (HP.out _ HO.out _ (RowAt.one wr 0 3 rfl).ints).mono ?_
     rintro r w9 ⟨rfl,h9⟩
     have HF:Hid (Own w0 w9 (SchA b sp (newSd W0 i j ring sl) :: R)):=Lib.hid (h9.less.to)
     clear h9 HP HO
     go_wp2
     go_ret
     exact ⟨b,rfl,HF.out⟩
theorem oracle_draw {S:Src} (h:S.tape = []) (kind:Int) (n:Nat) (hn:1 ≤ n):drawAt S S.taken.length kind (cnt (n:Int)) = some (S.nums.getD S.taken.length 0 % n):=by
 have hc:cnt (n:Int) = n:=by unfold cnt;omega
 unfold drawAt
 rw [h,hc]
 simp
theorem StepP.pick {w0:World} {b sp:Nat} {L:Sl} {S:Src} {X:Sd} {R:List Asr} {j:Nat} {r:Ending} {w':World} (h:StepP w0 b sp L (srcD sp 0) S X R j r w') (ht:S.tape = []) (hlt:S.taken.length < S.nums.length) (m:Nat) (hm:m = S.nums.getD S.taken.length 0 % (X.ms.length + 1)) (ha:asks2 X m = none) :
  ∃ ra rc,r = .returned (evV (stepM X m 0).2 ra rc) ∧ SAt w0 w' b sp L (stepM X m 0).1 (RowGA 1 ra rc (stepM X m 0).2.rd.length (intc (stepM X m 0).2.rd) :: SrcA sp 0 (S.take 1 m) .nilFunc :: R):=by
 have hmany:S.many = S.nums.length:=by unfold Src.many;rw [ht];simp
 have hd:=oracle_draw ht 1 (X.ms.length + 1) (by omega)
 rw [← hm] at hd
 have hd':drawAt S S.taken.length 1 (cnt ((X.ms.length:Int) + 1)) = some m:=hd
 have hdv:∀ (m':Nat) s1,(srcD sp 0).Dv S 1 ((X.ms.length:Int) + 1) (m':Int) s1 → m' = m ∧ s1 = S.take 1 m:=fun m' s1 hh=>by
  obtain ⟨-,u,e1,e2,e3⟩:=hh
  rw [hd'] at e2
  cases e2
  exact ⟨by omega,e3⟩
 rcases h with ⟨m',v,s1,s',ra,rc,h1,h2,h3,h4,h5,h6⟩ | ⟨ch,s',h1,h2,h3,h4⟩
 ·obtain ⟨rfl,rfl⟩:=hdv _ _ h2
  rcases h3 with ⟨-,rfl,rfl⟩ | ⟨k,n,e,-⟩
  ·exact ⟨ra,rc,h5,h6⟩
  ·rw [ha] at e;cases e
 ·rcases h2 with h2 | ⟨m',s1,kd,n,-,k1,k2,-⟩
  ·obtain ⟨-,h2⟩:=h2
   rcases h2 with ⟨e,-⟩ | ⟨-,e,-⟩
   ·omega
   ·rw [hd'] at e;cases e
  ·obtain ⟨rfl,-⟩:=hdv _ _ k1
   rw [ha] at k2;cases k2
def a18W:Wd:=newM [[(20,0,0,0),(10,0,0,0)]] [] [] 0
def a18X0:Sd:=newSd a18W 1 1 2 9
def a18S (k:Nat):Src:=⟨[],[0,0,0,0],List.replicate k (1,0)⟩
def a18X1:Sd:=(stepM a18X0 0 0).1
def a18X2:Sd:=(stepM a18X1 0 0).1
def a18X3:Sd:=(stepM a18X2 0 0).1
def a18X4:Sd:=(stepM a18X3 0 0).1
theorem a18_pw:PW [[(20,0,0,0),(10,0,0,0)]] [] 0 0:=⟨by decide,by decide,by decide,by decide,fun k hk=>by simp at hk,by decide,by decide⟩
theorem a18_wf0:SdWF 0 a18X0:=newSd_wf (rooms:=[]) a18_pw (by omega) (by omega) (by omega)
theorem a18_1:(stepM a18X0 0 0).2 = ⟨2,0,-1,[]⟩ ∧ asks2 a18X0 0 = none ∧ overM a18X0 = 0 ∧ a18X0.W.en = 0 ∧ a18X0.ms.length = 1:=⟨rfl,rfl,rfl,rfl,rfl⟩
theorem a18_2:(stepM a18X1 0 0).2 = ⟨4,0,0,[]⟩ ∧ asks2 a18X1 0 = none ∧ overM a18X1 = 0 ∧ a18X1.W.en = 0 ∧ a18X1.ms.length = 1:=⟨rfl,rfl,rfl,rfl,rfl⟩
theorem a18_3:(stepM a18X2 0 0).2 = ⟨7,0,0,[]⟩ ∧ asks2 a18X2 0 = none ∧ overM a18X2 = 0 ∧ a18X2.W.en = 0 ∧ a18X2.ms.length = 1:=⟨rfl,rfl,rfl,rfl,rfl⟩
theorem a18_4:(stepM a18X3 0 0).2 = ⟨7,0,0,[]⟩ ∧ asks2 a18X3 0 = none ∧ overM a18X3 = 0 ∧ a18X3.W.en = 0 ∧ a18X3.ms.length = 1 ∧ overM a18X4 = 1 ∧ a18X4.st = 4:=⟨rfl,rfl,rfl,rfl,rfl,rfl,rfl⟩
theorem a18_wf1:SdWF 1 a18X1:=a18_wf0.step (by omega) (by decide) rfl (fun k n e=>by cases e)
theorem a18_wf2:SdWF 2 a18X2:=a18_wf1.step (by omega) (by decide) rfl (fun k n e=>by cases e)
theorem a18_wf3:SdWF 3 a18X3:=a18_wf2.step (by omega) (by decide) rfl (fun k n e=>by cases e)
theorem a18_ok (sp k j:Nat) (h:k ≤ 4) (hj:j ≤ 100):(srcD sp 0).ok j (a18S k):=by
 refine ⟨⟨fun r hr=>by simp [a18S] at hr,fun n hn=>by simp [a18S] at hn;omega⟩,(by first | exact ⟨fun _=>rfl,(fun e=>by cases e),by omega⟩ | exact ⟨fun _=>rfl,fun e=>by cases e⟩),by simp [a18S,Src.many],by simp [a18S,Src.many];omega,by simp [a18S];omega⟩
theorem a18_take (k:Nat):(a18S k).take 1 0 = a18S (k + 1):=by unfold a18S Src.take;simp only;rw [← List.replicate_succ']
theorem a18_lt (k:Nat) (hk:k < 4):(a18S k).taken.length < (a18S k).nums.length:=by simp [a18S];omega
theorem a18_num (k n:Nat):0 = (a18S k).nums.getD (a18S k).taken.length 0 % (n + 1):=by
 have e:∀ i,([0,0,0,0]:List Nat).getD i 0 = 0:=fun i=>by rcases i with _ | _ | _ | _ | i <;> simp
 show 0 = ([0,0,0,0]:List Nat).getD _ 0 % (n + 1)
 rw [e];simp
theorem a18_go {w0 w:World} {b sp:Nat} {L:Sl} {X:Sd} {R:List Asr} {k B:Nat} (h:SAt w0 w b sp L X (SrcA sp 0 (a18S k) .nilFunc :: R)) (hk:k < 4) (wf:SdWF B X) (hB:B ≤ 80000) {e:Ev} (ha:(stepM X 0 0).2 = e ∧ asks2 X 0 = none ∧ overM X = 0 ∧ X.W.en = 0 ∧ X.ms.length = 1) :
  Calls Tryz.prog 22 #[.pointer (some ⟨b,0,none⟩)] w fun r w'=>∃ ra rc,r = .returned (evV e ra rc) ∧ SAt w0 w' b sp L (stepM X 0 0).1 (SrcA sp 0 (a18S (k + 1)) .nilFunc :: R):=by
 obtain ⟨h1,h2,h3,h4,h5⟩:=ha
 refine (step_any (D:=srcD sp 0) (s:=a18S k) (R:=R) (j:=0) h (a18_ok sp k 2 (by omega) (by omega)) wf hB h3 h4).mono (fun r w' hh=>?_)
 obtain ⟨ra,rc,k1,k2⟩:=StepP.pick (S:=a18S k) hh rfl (a18_lt k hk) 0 (a18_num k _) h2
 rw [a18_take] at k2
 exact ⟨ra,rc,by rw [k1,h1],k2.less⟩
theorem awake18_any (w:World):Calls Tryz.prog 7 #[] w fun r w'=>r = .returned (.bool true) ∧ Below w.heap.size w w':=by
 go_enter Tryz.func7,Tryz.ntmps7
 go_upto_region 2 with fail
 have o0:Own w ((w.alloc (.cells #[.int .i64 20,.int .i64 0,.int .i64 0,.int .i64 0,.int .i64 10,.int .i64 0,.int .i64 0,.int .i64 0] 34)).alloc (.cells #[.slice (some ⟨w.heap.size,0,none⟩) 2 2] 31)) []:=Own.nil (below_on (below_alloc1 _ _) (below_alloc1 _ _))
 have hp:ProgIn ((w.alloc (.cells #[.int .i64 20,.int .i64 0,.int .i64 0,.int .i64 0,.int .i64 10,.int .i64 0,.int .i64 0,.int .i64 0] 34)).alloc (.cells #[.slice (some ⟨w.heap.size,0,none⟩) 2 2] 31)) (some ⟨w.heap.size + 1,0,none⟩) [(some ⟨w.heap.size,0,none⟩,2)] [[(20,0,0,0),(10,0,0,0)]] none [] none 0 []:=by
  refine ⟨CellsAt.new _ [.slice (some ⟨w.heap.size,0,none⟩) 2 2] _ (by simp),rfl,fun i r l hr hl=>?_,CellsAt.nil _ _,CellsAt.nil _ _,fun _=>rfl,by decide,by decide,by decide⟩
  cases i with
  | zero =>
   simp at hr hl
   subst hr hl
   exact ⟨(CellsAt.new w [.int .i64 20,.int .i64 0,.int .i64 0,.int .i64 0,.int .i64 10,.int .i64 0,.int .i64 0,.int .i64 0] _ rfl).below (below_alloc1 _ _),(fun h=>by cases h),by decide⟩
  | succ i=>simp at hr
 have o1:=o0.alloc [.slice (some ⟨w.heap.size + 1,0,none⟩) 1 1,.slice none 0 0,.int .i64 0,.slice none 0 0] 41 (b:=w.heap.size + 1 + 1) (by simp)
 have hp1:=hp.below (below_alloc1 _ (.cells [.slice (some ⟨w.heap.size + 1,0,none⟩) 1 1,.slice none 0 0,.int .i64 0,.slice none 0 0].toArray 41))
 clear hp o0
 generalize ((w.alloc (.cells #[.int .i64 20,.int .i64 0,.int .i64 0,.int .i64 0,.int .i64 10,.int .i64 0,.int .i64 0,.int .i64 0] 34)).alloc (.cells #[.slice (some ⟨w.heap.size,0,none⟩) 2 2] 31)).alloc (.cells [.slice (some ⟨w.heap.size + 1,0,none⟩) 1 1,.slice none 0 0,.int .i64 0,.slice none 0 0].toArray 41) = w1 at *
 generalize hq2:w.heap.size + 1 + 1 = q2 at *
 generalize hq1:w.heap.size + 1 = q1 at *
 generalize hq0:w.heap.size = q0 at *
 have HQ0:=Lib.hid hq0
 clear hq0 hq1 hq2
 have h1:=o1.step (below_drew1 w1)
 have hp2:=hp1.below (below_drew1 w1)
 have HSB:Hid (∀ (wx:World) (As:List Asr),Own w wx (As ++ [CelA q2 [.slice (some ⟨q1,0,none⟩) 1 1,.slice none 0 0,.int .i64 0,.slice none 0 0]]) → wx.cell? ⟨q2,0,none⟩ = some (.slice (some ⟨q1,0,none⟩) 1 1) ∧ wx.cell? ⟨q2,1,none⟩ = some (.slice none 0 0) ∧ wx.cell? ⟨q2,2,none⟩ = some (.int .i64 0) ∧ wx.cell? ⟨q2,3,none⟩ = some (.slice none 0 0)):=Lib.hid (fun wx As hx=>by
  have h:=Own.dropL hx
  exact ⟨(h.cel 0 rfl 0 _ rfl).1,(h.cel 0 rfl 1 _ rfl).1,(h.cel 0 rfl 2 _ rfl).1,(h.cel 0 rfl 3 _ rfl).1⟩)
 refine wp_region_lexH (fun wx=>wx.cell? ⟨q2,0,none⟩ = some (.slice (some ⟨q1,0,none⟩) 1 1) ∧ wx.cell? ⟨q2,1,none⟩ = some (.slice none 0 0) ∧ wx.cell? ⟨q2,2,none⟩ = some (.int .i64 0) ∧ wx.cell? ⟨q2,3,none⟩ = some (.slice none 0 0)) 6 (Array.replicate 6 false) (by kernel_rfl) (by kernel_rfl) ?_
 generalize w1.drew = w2 at *
 refine wpAnyH_seg 0 2 _ #[true,true,false,false,false,false] 4 (by kernel_rfl) noPanic_put (HSB.out _ [] h1) (by kernel_rfl) ?_
 simp only [List.take_succ_cons,List.take_zero,List.drop_zero]
 repeat ((first | refine wpSegH_no (by rfl) ?_ | (refine wpSegH_yes (by rfl) ?_;apply Exists.intro;apply And.intro;(· (intro wx hS;(try dsimp only at hS);go_simp;first | done | with_reducible rfl))));simp only [Act.put,List.setIfInBounds_toArray,List.set_cons_zero,List.set_cons_succ])
 refine wpSegH_nil ?_
 have hba:=below_alloc1 w2 (.cells #[.int .u64 0,.int .u64 0,.int .u64 0,.int .u64 0] 55)
 have o2:=h1.step hba
 have hp3:=hp2.below hba
 refine wpAnyH_one 2 _ #[true,true,true,false,false,false] 3 (by kernel_rfl) (fun K hK=>?_)
 have HKK:=Lib.hid hK
 clear hK
 simp only [List.drop_succ_cons,List.drop_zero]
 refine headH_mk (by rfl) ?_
 go_simp
 refine HKK.out _ _ (HSB.out _ [] o2) ?_
 clear HKK K
 refine wpAnyH_one 3 _ #[true,true,true,true,false,false] 2 (by kernel_rfl) (fun K hK=>?_)
 have HKK:=Lib.hid hK
 clear hK
 simp only [List.drop_succ_cons,List.drop_zero]
 refine headH_mk (by rfl) ?_
 go_simp
 refine (onew_any o2 (some ⟨w2.heap.size,0,none⟩) 4 [0,0,0,0] (CellsAt.new w2 (numc [0,0,0,0]) _ rfl) (fun e=>by cases e) (by decide)).mono ?_
 rintro r w3 ⟨sp,rfl,o3,hb3⟩
 have hp4:=hp3.below hb3
 refine HKK.out _ _ (HSB.out _ [_] o3) ?_
 clear HKK K
 refine wpAnyH_one 4 _ #[true,true,true,true,true,false] 1 (by kernel_rfl) (fun K hK=>?_)
 have HKK:=Lib.hid hK
 clear hK
 simp only [List.drop_succ_cons,List.drop_zero]
 refine headH_mk (by rfl) ?_
 go_simp
 refine (snew_any o3 (some ⟨q1,0,none⟩) 1 [(some ⟨q0,0,none⟩,2)] [[(20,0,0,0),(10,0,0,0)]] none 0 [] 0 none 0 [] hp4 (by decide) 1 1 2 9 (by omega) (by omega) sp).mono ?_
 rintro r w4 ⟨b,rfl,o4⟩
 refine HKK.out _ _ (HSB.out _ [_,_] o4) ?_
 clear HKK K
 refine wpAnyH_seg 5 1 _ #[true,true,true,true,true,true] 0 (by kernel_rfl) noPanic_put (HSB.out _ [_,_] o4) (by kernel_rfl) ?_
 simp only [List.take_succ_cons,List.take_zero,List.drop_succ_cons,List.drop_zero]
 repeat ((first | refine wpSegH_no (by rfl) ?_ | (refine wpSegH_yes (by rfl) ?_;apply Exists.intro;apply And.intro;(· (intro wx hS;(try dsimp only at hS);go_simp;first | done | with_reducible rfl))));simp only [Act.put,List.setIfInBounds_toArray,List.set_cons_zero,List.set_cons_succ])
 refine wpSegH_nil ?_
 refine wpAnyH_done (by kernel_rfl) (NoPanic.normal ?_) _
 obtain ⟨L,h4⟩:=o4.sat
 have H4:Hid (SAt w w4 b sp L a18X0 (SrcA sp 0 (a18S 0) .nilFunc :: [CelA q2 [.slice (some ⟨q1,0,none⟩) 1 1,.slice none 0 0,.int .i64 0,.slice none 0 0]])):=Lib.hid h4
 clear h1 o1 o2 o3 o4 h4 hp1 hp2 hp3 hp4 hba hb3 HSB
 have heq:∀ w,(binOp .eql 35 (.pointer (some ⟨b,0,none⟩)) (.pointer none)).run Tryz.prog w = .ok (.bool false) w:=fun _=>rfl
 have HA:=Lib.hid (a18_go H4.out (by omega) a18_wf0 (by omega) a18_1)
 go_wp2_with fail
 refine HA.out.mono ?_
 rintro r w5 ⟨ra1,rc1,rfl,h5⟩
 have HA2:=Lib.hid (a18_go (X:=a18X1) h5 (by omega) a18_wf1 (by omega) a18_2)
 clear h5 HA H4
 unfold evV
 go_wp2_with fail
 refine HA2.out.mono ?_
 rintro r w6 ⟨ra2,rc2,rfl,h6⟩
 have HA3:=Lib.hid (a18_go (X:=a18X2) h6 (by omega) a18_wf2 (by omega) a18_3)
 clear h6 HA2
 unfold evV
 go_wp2_with fail
 refine HA3.out.mono ?_
 rintro r w7 ⟨ra3,rc3,rfl,h7⟩
 have HX7:Hid (SAt w w7 b sp L a18X3 (SrcA sp 0 (a18S 3) .nilFunc :: [CelA q2 [.slice (some ⟨q1,0,none⟩) 1 1,.slice none 0 0,.int .i64 0,.slice none 0 0]])):=Lib.hid h7
 clear h7 HA3
 unfold evV
 simp only [List.length_nil]
 go_upto_region 6 with fail
 have h8:=((HX7.out.box [.int .i64 2,.int .i64 0,.int .i64 (-1),.slice ra1 0 rc1] 46).box [.int .i64 4,.int .i64 0,.int .i64 0,.slice ra2 0 rc2] 46).box [.int .i64 7,.int .i64 0,.int .i64 0,.slice ra3 0 rc3] 46
 simp only [World.size_alloc] at h8
 generalize (((w7.alloc (.cells [.int .i64 2,.int .i64 0,.int .i64 (-1),.slice ra1 0 rc1].toArray 46)).alloc (.cells [.int .i64 4,.int .i64 0,.int .i64 0,.slice ra2 0 rc2].toArray 46)).alloc (.cells [.int .i64 7,.int .i64 0,.int .i64 0,.slice ra3 0 rc3].toArray 46)) = w8 at *
 generalize w7.heap.size = p0 at *
 have h9:=h8.perm (List.perm_middle (a:=SrcA sp 0 (a18S 3) .nilFunc) (l₁:=[CelA (p0 + 1 + 1) _,CelA (p0 + 1) _,CelA p0 _]))
 have HA4:=Lib.hid (a18_go (X:=a18X3) h9 (by omega) a18_wf3 (by omega) ⟨a18_4.1,a18_4.2.1,a18_4.2.2.1,a18_4.2.2.2.1,a18_4.2.2.2.2.1⟩)
 clear h8 h9 HX7
 go_wp2_with fail
 refine HA4.out.mono ?_
 rintro r w9 ⟨ra4,rc4,rfl,ha⟩
 have hb:=ha.perm (List.perm_middle (a:=SrcA sp 0 (a18S 4) .nilFunc) (l₁:=[CelA (p0 + 1 + 1) _,CelA (p0 + 1) _,CelA p0 _])).symm
 have y1:=(hb.less.less.cel 0 _ rfl).1
 have y2:=(hb.less.cel 0 _ rfl).1
 have y3:=(hb.less.cel 2 _ rfl).1
 have y4:=(hb.cel 0 _ rfl).1
 have HS1:=Lib.hid (stat_any hb (by decide))
 have HS2:=Lib.hid (fun (wx:World) (hx:Below w9.heap.size w9 wx)=>ssteps_any (hb.step hx))
 have HBL:=Lib.hid hb.bel
 rw [show overM (stepM a18X3 0 0).1 = 1 from a18_4.2.2.2.2.2.1] at HS1
 rw [show (stepM a18X3 0 0).1.st = 4 from a18_4.2.2.2.2.2.2] at HS2
 clear ha hb HA4
 go_wp2_with fail
 refine HS1.out.mono ?_
 rintro r wa ⟨rfl,hba⟩
 have HS3:=Lib.hid (HS2.out _ hba)
 have HBB:=Lib.hid (below_on HBL.out hba)
 clear hba HS1 HS2
 go_wp2_with fail
 refine HS3.out.mono ?_
 rintro r wb ⟨rfl,rfl⟩
 go_wp2
 go_ret
 exact ⟨rfl,HBB.out⟩
def itM:Sd → List Nat → Sd
 | X,[]=>X
 | X,p :: t=>itM (stepM X p 0).1 t
def okM:Sd → List Nat → Bool
 | X,[]=>true
 | X,p :: t=>(decide (p ≤ X.ms.length) && (decide (asks2 X p = none) && (decide (overM X = 0) && (decide (X.W.en = 0) && decide (X.W.ks = []))))) && okM (stepM X p 0).1 t
theorem itM_app:∀ (a c:List Nat) (X:Sd),itM X (a ++ c) = itM (itM X a) c
 | [],c,X=>rfl
 | p :: t,c,X=>itM_app t c _
theorem okM_app:∀ (a c:List Nat) (X:Sd),okM X (a ++ c) = (okM X a && okM (itM X a) c)
 | [],c,X=>rfl
 | p :: t,c,X=>by
  show (_ && okM _ (t ++ c)) = ((_ && okM _ t) && _)
  rw [okM_app t c,← Bool.and_assoc]
  rfl
theorem okM_at {X:Sd} {l:List Nat} (h:okM X l = true) {i p:Nat} (hi:l[i]? = some p) :
  let Y:=itM X (l.take i);p ≤ Y.ms.length ∧ asks2 Y p = none ∧ overM Y = 0 ∧ Y.W.en = 0 ∧ itM X (l.take (i + 1)) = (stepM Y p 0).1:=by
 have hl:=(List.getElem?_eq_some_iff.1 hi).1
 have e:l = l.take i ++ p :: l.drop (i + 1):=by
  have h1:=(List.getElem?_eq_some_iff.1 hi).2
  rw [← h1,List.getElem_cons_drop,List.take_append_drop]
 have e2:l.take (i + 1) = l.take i ++ [p]:=by rw [List.take_add_one,hi];rfl
 intro Y
 rw [e,okM_app] at h
 simp only [okM,Bool.and_eq_true,decide_eq_true_eq] at h
 exact ⟨h.2.1.1,h.2.1.2.1,h.2.1.2.2.1,h.2.1.2.2.2.1,by rw [e2,itM_app];rfl⟩
theorem SdWF.its:∀ (l:List Nat) {B:Nat} {X:Sd},SdWF B X → okM X l = true → B + l.length ≤ 80000 → SdWF (B + l.length) (itM X l)
 | [],B,X,h,_,_=>h
 | p :: t,B,X,h,ho,hB=>by
  simp only [okM,Bool.and_eq_true,decide_eq_true_eq] at ho
  simp only [List.length_cons] at hB
  have h1:=h.step (by omega) ho.1.1 ho.1.2.2.2.1 (d:=0) (fun k n e=>by rw [ho.1.2.1] at e;cases e)
  rw [ho.1.2.2.2.2] at h1
  have h2:=SdWF.its t h1 ho.2 (by simp;omega)
  have e:B + (p :: t).length = B + ([]:List Cs3).length + 1 + t.length:=by simp;omega
  rw [e]
  exact h2
theorem okM_take {X:Sd} {l:List Nat} (h:okM X l = true) (i:Nat):okM X (l.take i) = true:=by
 have h2:=h
 rw [← List.take_append_drop i l,okM_app,Bool.and_eq_true] at h2
 exact h2.1
theorem LStep.pick {sp:Nat} {S:Src} {X:Sd} {j:Nat} {e:Ev} {k:Int} {X':Sd} {s':Src} (h:LStep (srcD sp 0) S X j e k X' s') (ht:S.tape = []) (hlt:S.taken.length < S.nums.length) (hov:overM X = 0) (m:Nat) (hm:m = S.nums.getD S.taken.length 0 % (X.ms.length + 1)) (ha:asks2 X m = none) :
  e = (stepM X m 0).2 ∧ k = 0 ∧ X' = (stepM X m 0).1 ∧ s' = S.take 1 m:=by
 have hmany:S.many = S.nums.length:=by unfold Src.many;rw [ht];simp
 have hd:=oracle_draw ht 1 (X.ms.length + 1) (by omega)
 rw [← hm] at hd
 have hd':drawAt S S.taken.length 1 (cnt ((X.ms.length:Int) + 1)) = some m:=hd
 have hdv:∀ (m':Nat) s1,(srcD sp 0).Dv S 1 ((X.ms.length:Int) + 1) (m':Int) s1 → m' = m ∧ s1 = S.take 1 m:=fun m' s1 hh=>by
  obtain ⟨-,u,e1,e2,e3⟩:=hh
  rw [hd'] at e2
  cases e2
  exact ⟨by omega,e3⟩
 rcases h with ⟨h0,-⟩ | ⟨-,-,⟨m',v,s1,h1,h2,h3,h4,h5,h6⟩ | ⟨r,h2,-⟩⟩
 ·exact absurd hov h0
 ·obtain ⟨rfl,rfl⟩:=hdv _ _ h2
  rcases h3 with ⟨-,rfl,rfl⟩ | ⟨k,n,e,-⟩
  ·exact ⟨h4,h5,h6,rfl⟩
  ·rw [ha] at e;cases e
 ·rcases h2 with h2 | ⟨m',s1,kd,n,-,k1,k2,-⟩
  ·obtain ⟨-,h2⟩:=h2
   rcases h2 with ⟨e,-⟩ | ⟨-,e,-⟩
   ·omega
   ·rw [hd'] at e;cases e
  ·obtain ⟨rfl,-⟩:=hdv _ _ k1
   rw [ha] at k2;cases k2
theorem itM_ms:∀ (l:List Nat) (X:Sd),(itM X l).ms.length = X.ms.length
 | [],X=>rfl
 | p :: t,X=>(itM_ms t _).trans (ms_pick X p 0)
def orS (nums pk:List Nat):Src:=⟨[],nums,pk.map fun p=>((1:Int),p)⟩
theorem orS_take (nums pk:List Nat) (p:Nat):(orS nums pk).take 1 p = orS nums (pk ++ [p]):=by simp [orS,Src.take]
theorem orS_ok (sp:Nat) {nums pk:List Nat} {j:Nat} (hn:∀ n ∈ nums,n < 18446744073709551616) (hl:pk.length ≤ nums.length) (hm:nums.length ≤ 1000000) (hj:pk.length + j ≤ 1000001):(srcD sp 0).ok j (orS nums pk):=by
 have e1:(orS nums pk).many = nums.length:=by simp [orS,Src.many]
 have e2:(orS nums pk).taken.length = pk.length:=by simp [orS]
 refine ⟨⟨fun r hr=>by simp [orS] at hr,hn⟩,(by first | exact ⟨fun _=>rfl,(fun e=>by cases e),by omega⟩ | exact ⟨fun _=>rfl,fun e=>by cases e⟩),by rw [e1];omega,by rw [e1,e2];exact hl,by rw [e2];exact hj⟩
theorem srcD_pan (sp:Nat):∀ (s:(srcD sp 0).T) (kd n:Int) (r:Ending) (s':(srcD sp 0).T),(srcD sp 0).Dp s kd n r s' → ∃ k u,Ended r k u ∧ (k = 1 ∨ k = 2):=by
 rintro s kd n r s' ⟨-,h | h⟩
 ·exact ⟨1,uz,.inr (.inl ⟨h.2,rfl,rfl⟩),.inl rfl⟩
 ·exact ⟨2,_,.inr (.inr ⟨_,_,_,_,h.2.2,rfl,rfl⟩),.inr rfl⟩
theorem pk_step {w0 w:World} {b sp:Nat} {X0:Sd} {nums pk:List Nat} {R:List Asr} {k p:Nat} (h:Own w0 w (SchA b sp (itM X0 (pk.take k)) :: SrcA sp 0 (orS nums (pk.take k)) .nilFunc :: R)) (wf:SdWF 0 X0) (ok:okM X0 pk = true) (hk:pk[k]? = some p)
  (hp:p = nums.getD k 0 % (X0.ms.length + 1)) (hkn:k < nums.length) (hn:∀ n ∈ nums,n < 18446744073709551616) (hm:nums.length ≤ 70000) :
  Calls Tryz.prog 13 #[.pointer (some ⟨b,0,none⟩)] w fun r w'=>∃ ra rc,r = .returned (.tuple #[evV (stepM (itM X0 (pk.take k)) p 0).2 ra rc,.int .i64 0]) ∧
   Own w0 w' (SchA b sp (itM X0 (pk.take (k + 1))) :: SrcA sp 0 (orS nums (pk.take (k + 1))) .nilFunc :: R):=by
 have hkl:=(List.getElem?_eq_some_iff.1 hk).1
 obtain ⟨q1,q2,q3,q4,q5⟩:=okM_at ok hk
 have etl:(pk.take k).length = k:=by rw [List.length_take];omega
 have hwf:=SdWF.its (pk.take k) wf (okM_take ok k) (by omega)
 refine (lstep_any (D:=srcD sp 0) (s:=orS nums (pk.take k)) (R:=R) (j:=0) h (orS_ok sp hn (by omega) (by omega) (by omega)) hwf (by omega) (.inl q4) (srcD_pan sp)).mono (fun r w' hh=>?_)
 obtain ⟨e,ra,rc,kk,X',s',hl,rfl,ho⟩:=hh
 have e2:(orS nums (pk.take k)).taken.length = k:=by simp [orS];omega
 obtain ⟨rfl,rfl,rfl,rfl⟩:=LStep.pick hl rfl (by rw [e2];exact hkn) q3 p (by rw [e2,itM_ms];exact hp) q2
 refine ⟨ra,rc,rfl,?_⟩
 rw [orS_take] at ho
 rw [q5,List.take_add_one,hk]
 exact ho.drop
def alMain (n:Nat):List In4:=List.replicate n (11,1,0,1) ++ [(12,0,0,0),(7,(n:Int),0,0)]
def alChild (y:Nat):List In4:=List.replicate y (12,0,0,0) ++ [(20,0,0,0),(10,0,0,0)]
def alFs (n y:Nat):List (List In4):=[alMain n,alChild y]
def alZ (fn pc v:Int):List Int:=[fn,pc,0,v,0,0,0,0,0,0,0]
def alC (y p:Nat):Gt:=⟨if p = y + 2 then 4 else 1,1,alZ 1 p 0⟩
def alW (n y k:Nat) (v:Int) (cs:List Nat) (out:List Int):Wd :=
 { fs:=alFs n y,ks:=[],gs:=⟨1,1,alZ 0 k v⟩ :: cs.map (alC y),Ns:=[],Cs:=[],Ls:=[],hp:=[],nx:=0,clock:=0,out:=out,en:=0,why:=0 }
theorem al_main1 {n k:Nat} (h:k < n):(alMain n)[k]? = some (11,1,0,1):=by
 unfold alMain
 rw [List.getElem?_append_left (by rw [List.length_replicate];exact h),List.getElem?_replicate,if_pos h]
theorem al_main2 (n j:Nat):(alMain n)[n + j]? = [((12:Int),(0:Int),(0:Int),(0:Int)),(7,(n:Int),0,0)][j]?:=by
 unfold alMain
 rw [List.getElem?_append_right (by rw [List.length_replicate];omega),List.length_replicate,Nat.add_sub_cancel_left]
theorem al_chi1 {y p:Nat} (h:p < y):(alChild y)[p]? = some (12,0,0,0):=by
 unfold alChild
 rw [List.getElem?_append_left (by rw [List.length_replicate];exact h),List.getElem?_replicate,if_pos h]
theorem al_chi2 (y j:Nat):(alChild y)[y + j]? = [((20:Int),(0:Int),(0:Int),(0:Int)),(10,0,0,0)][j]?:=by
 unfold alChild
 rw [List.getElem?_append_right (by rw [List.length_replicate];omega),List.length_replicate,Nat.add_sub_cancel_left]
section
variable {n y k:Nat} {v:Int} {cs:List Nat} {out:List Int}
theorem al_g0:(alW n y k v cs out).g 0 = ⟨1,1,alZ 0 k v⟩:=rfl
theorem al_gc {c p:Nat} (h:cs[c]? = some p):(alW n y k v cs out).g (c + 1) = alC y p:=by
 unfold Wd.g alW
 simp only [List.getD_eq_getElem?_getD,List.getElem?_cons_succ,List.getElem?_map,h,Option.map_some,Option.getD_some]
theorem al_len:(alW n y k v cs out).gs.length = cs.length + 1:=by unfold alW;simp
theorem al_ins0:(alW n y k v cs out).ins 0 = (alMain n)[k]?:=by
 unfold Wd.ins Wd.insAt
 rw [al_g0]
 have h1:(Gt.mk 1 1 (alZ 0 k v)).pc = (k:Int):=rfl
 have h2:(Gt.mk 1 1 (alZ 0 k v)).fn = 0:=rfl
 rw [h1,h2,if_neg (by omega),Int.toNat_natCast]
 rfl
theorem al_insc {c p:Nat} (h:cs[c]? = some p):(alW n y k v cs out).ins (c + 1) = (alChild y)[p]?:=by
 unfold Wd.ins Wd.insAt
 rw [al_gc h]
 have h1:(alC y p).pc = (p:Int):=rfl
 have h2:(alC y p).fn = 1:=rfl
 rw [h1,h2,if_neg (by omega),Int.toNat_natCast]
 rfl
theorem al_lets0:(alW n y k v cs out).lets 0:=⟨rfl,by omega,by rw [al_len];omega,rfl⟩
theorem al_letsc {c p:Nat} (h:cs[c]? = some p) (hp:p ≠ y + 2):(alW n y k v cs out).lets ((c + 1:Nat):Int):=by
 have hc:=(List.getElem?_eq_some_iff.1 h).1
 refine ⟨rfl,by omega,by rw [al_len];omega,?_⟩
 rw [Int.toNat_natCast,al_gc h]
 unfold alC
 simp only
 rw [if_neg hp]
theorem al_spawn (hk:k < n) (hl:cs.length < 90):execM (alW n y k v cs out) 0 0 = (alW n y (k + 1) ((cs.length + 1:Nat):Int) (cs ++ [0]) out,true,[((cs.length + 1:Nat):Int)]):=by
 unfold execM
 rw [if_pos al_lets0]
 rw [show (0:Int).toNat = 0 from rfl,al_ins0,al_main1 hk]
 have h1:doM (alW n y k v cs out) 0 (some (11,1,0,1)) (askM (alW n y k v cs out) ((some ((11:Int),(1:Int),(0:Int),(1:Int))).getD (0,0,0,0)) 0).1 (askM (alW n y k v cs out) ((some ((11:Int),(1:Int),(0:Int),(1:Int))).getD (0,0,0,0)) 0).2 = ⟨alW n y (k + 1) ((cs.length + 1:Nat):Int) (cs ++ [0]) out,[((cs.length + 1:Nat):Int)],none⟩:=by
  show spawnM ((alW n y k v cs out).step 0) [] 0 (11,1,0,1) = _
  unfold spawnM
  have e1:((alW n y k v cs out).step 0).gs.length = cs.length + 1:=by unfold Wd.step Wd.setG alW;simp
  rw [e1,if_neg (by omega)]
  have e2:(alW n y k v cs out).step 0 = alW n y (k + 1) v cs out:=by
   unfold Wd.step Wd.setG
   rw [al_g0]
   rfl
  rw [e2]
  have e3:alC y 0 = ⟨1,1,newF 1 0 0⟩:=by
   unfold alC;rw [if_neg (by omega)];rfl
  unfold Wd.put Wd.setG alW
  simp only [List.map_append,List.map_cons,List.map_nil,e3]
  rfl
 simp only [h1]
 rfl
theorem al_yield (hk:k = n):execM (alW n y k v cs out) 0 0 = (alW n y (n + 1) v cs out,false,[]):=by
 subst hk
 unfold execM
 rw [if_pos al_lets0]
 rw [show (0:Int).toNat = 0 from rfl,al_ins0,show (alMain k)[k]? = some (12,0,0,0) from al_main2 k 0]
 rfl
theorem al_jump (hk:k = n + 1):execM (alW n y k v cs out) 0 0 = (alW n y n v cs out,true,[]):=by
 subst hk
 unfold execM
 rw [if_pos al_lets0]
 rw [show (0:Int).toNat = 0 from rfl,al_ins0,show (alMain n)[n + 1]? = some (7,(n:Int),0,0) from al_main2 n 1]
 rfl
theorem al_cset {c p:Nat} (q:Nat) (h:cs[c]? = some p) (G:Gt) (hG:G = alC y q):(alW n y k v cs out).setG (c + 1) G = alW n y k v (cs.set c q) out:=by
 subst hG
 unfold Wd.setG alW
 simp only [List.set_cons_succ,List.map_set]
theorem al_cstep {c p:Nat} (h:cs[c]? = some p) (hp:p < y + 1):(alW n y k v cs out).step (c + 1) = alW n y k v (cs.set c (p + 1)) out:=by
 unfold Wd.step
 refine al_cset _ h _ ?_
 rw [al_gc h]
 unfold alC
 rw [if_neg (by omega),if_neg (by omega)]
 rfl
theorem al_cget {c p:Nat} (q:Nat) (h:cs[c]? = some p):(cs.set c q)[c]? = some q:=by
 rw [List.getElem?_set_self (List.getElem?_eq_some_iff.1 h).1]
theorem al_cyield {c p:Nat} (h:cs[c]? = some p) (hp:p < y):execM (alW n y k v cs out) ((c + 1:Nat):Int) 0 = (alW n y k v (cs.set c (p + 1)) out,false,[]):=by
 unfold execM
 rw [if_pos (al_letsc h (by omega)),Int.toNat_natCast,al_insc h,al_chi1 hp]
 have h1:doM (alW n y k v cs out) (c + 1) (some (12,0,0,0)) (askM (alW n y k v cs out) ((some ((12:Int),(0:Int),(0:Int),(0:Int))).getD (0,0,0,0)) 0).1 (askM (alW n y k v cs out) ((some ((12:Int),(0:Int),(0:Int),(0:Int))).getD (0,0,0,0)) 0).2 = ⟨(alW n y k v cs out).step (c + 1),[],none⟩:=rfl
 simp only [h1,al_cstep h (Nat.lt_succ_of_lt hp)]
 unfold keepsM
 simp [Dd.end_]
theorem al_cemit {c p:Nat} (h:cs[c]? = some p) (hp:p = y) (ho:out.length < 900):execM (alW n y k v cs out) ((c + 1:Nat):Int) 0 = (alW n y k v (cs.set c (p + 1)) (out ++ [0]),true,[]):=by
 subst hp
 unfold execM
 rw [if_pos (al_letsc h (by omega)),Int.toNat_natCast,al_insc h,show (alChild p)[p]? = some (20,0,0,0) from al_chi2 p 0]
 have h1:doM (alW n p k v cs out) (c + 1) (some (20,0,0,0)) (askM (alW n p k v cs out) ((some ((20:Int),(0:Int),(0:Int),(0:Int))).getD (0,0,0,0)) 0).1 (askM (alW n p k v cs out) ((some ((20:Int),(0:Int),(0:Int),(0:Int))).getD (0,0,0,0)) 0).2 = emitM ((alW n p k v cs out).step (c + 1)) [] (c + 1) (20,0,0,0):=rfl
 have h2:emitM (alW n p k v (cs.set c (p + 1)) out) [] (c + 1) (20,0,0,0) = ⟨alW n p k v (cs.set c (p + 1)) (out ++ [0]),[],none⟩:=by
  unfold emitM
  rw [if_neg (by show ¬ 1000 ≤ out.length;omega),al_gc (al_cget (p + 1) h)]
  rfl
 simp only [h1,al_cstep h (Nat.lt_succ_self p),h2]
 show (_,keepsM (alW n p k v (cs.set c (p + 1)) (out ++ [0])) (c + 1) _,_) = _
 have h3:keepsM (alW n p k v (cs.set c (p + 1)) (out ++ [0])) (c + 1) (20,0,0,0) = true:=by
  unfold keepsM
  rw [al_gc (al_cget (p + 1) h)]
  unfold alC
  rw [if_neg (by omega)]
  rfl
 simp only [Option.getD_some,h3]
 rfl
theorem al_cret {c p:Nat} (h:cs[c]? = some p) (hp:p = y + 1):execM (alW n y k v cs out) ((c + 1:Nat):Int) 0 = (alW n y k v (cs.set c (p + 1)) out,false,[]):=by
 subst hp
 unfold execM
 rw [if_pos (al_letsc h (by omega)),Int.toNat_natCast,al_insc h,show (alChild y)[y + 1]? = some (10,0,0,0) from al_chi2 y 1]
 have h1:doM (alW n y k v cs out) (c + 1) (some (10,0,0,0)) (askM (alW n y k v cs out) ((some ((10:Int),(0:Int),(0:Int),(0:Int))).getD (0,0,0,0)) 0).1 (askM (alW n y k v cs out) ((some ((10:Int),(0:Int),(0:Int),(0:Int))).getD (0,0,0,0)) 0).2 = retM ((alW n y k v cs out).step (c + 1)) [] (c + 1) (10,0,0,0):=rfl
 have hl:=(List.getElem?_eq_some_iff.1 h).1
 have h2:retM ((alW n y k v cs out).step (c + 1)) [] (c + 1) (10,0,0,0) = ⟨alW n y k v (cs.set c (y + 1 + 1)) out,[],none⟩:=by
  have e1:(alW n y k v cs out).step (c + 1) = (alW n y k v cs out).setG (c + 1) ⟨1,1,alZ 1 ((y + 1:Nat) + 1) 0⟩:=by
   unfold Wd.step
   rw [al_gc h]
   unfold alC
   rw [if_neg (by omega)]
   rfl
  have e2:((alW n y k v cs out).setG (c + 1) ⟨1,1,alZ 1 ((y + 1:Nat) + 1) 0⟩).g (c + 1) = ⟨1,1,alZ 1 ((y + 1:Nat) + 1) 0⟩:=by
   unfold Wd.setG Wd.g
   rw [List.getD_eq_getElem?_getD,List.getElem?_set_self (by rw [al_len];omega)]
   rfl
  rw [e1]
  unfold retM
  rw [e2,if_pos (Nat.le_refl 1)]
  have e3:((alW n y k v cs out).setG (c + 1) ⟨1,1,alZ 1 ((y + 1:Nat) + 1) 0⟩).setSt (c + 1) 4 = alW n y k v (cs.set c (y + 1 + 1)) out:=by
   unfold Wd.setSt
   rw [e2]
   have e4:alC y (y + 1 + 1) = ⟨4,1,alZ 1 ((y + 1:Nat) + 1) 0⟩:=by
    unfold alC;rw [if_pos (by omega)];rfl
   rw [← al_cset (n:=n) (k:=k) (v:=v) (out:=out) (y + 1 + 1) h _ e4.symm]
   unfold Wd.setG
   simp only [List.set_set]
  rw [e3]
  rfl
 simp only [h1,h2]
 have h3:keepsM (alW n y k v (cs.set c (y + 1 + 1)) out) (c + 1) (10,0,0,0) = false:=by
  unfold keepsM
  rw [al_gc (al_cget (y + 1 + 1) h)]
  unfold alC
  rw [if_pos (by omega)]
  rfl
 show (_,keepsM (alW n y k v (cs.set c (y + 1 + 1)) out) (c + 1) _,_) = _
 simp only [Option.getD_some,h3]
 rfl
end
end Go.Proofs.YtodjgipiomnnfaaGreat
open Go Go.RowKit
set_option linter.unusedVariables false
namespace Go.Proofs.YtodjgipiomnnfaaGreat
def alS (W:Wd) (N:Nat) (nx:Option Int) (l:List Int) (tu:Nat) (G L:Int) (gl:List Int) (sl:Int) (st:Nat):Sd:=⟨W,[⟨N,⟨nx,l⟩,tu,0⟩],[⟨0,G,L⟩],gl,sl,st⟩
theorem alS_all (W:Wd) (N:Nat) (nx:Option Int) (l:List Int) (tu:Nat) (G L:Int) (gl:List Int) (sl:Int) (st:Nat):(alS W N nx l tu G L gl sl st).all = gl ++ ((nx.toList ++ l) ++ (if G = -1 then [] else [G])):=by
 simp [Sd.all,alS,Pm.l,Mm.l]
def alNear (l:List Int) (tu:Nat) (gl:List Int):Option (Int × List Int × List Int) :=
 if tu % 7 = 6 ∧ gl ≠ [] then match gl with
  | []=>none
  | x :: t=>some (x,l,t)
 else match l with
  | x :: t=>some (x,t,gl)
  | []=>match gl with
   | []=>none
   | x :: t=>some (x,[],t)
theorem al_look1 (W:Wd) (N:Nat) (g:Int) (l:List Int) (tu:Nat) (L:Int) (gl:List Int) (sl:Int) (st:Nat) (hL:0 < L) :
  (stepM (alS W N (some g) l tu (-1) L gl sl st) 0 0).1 = alS W N none l tu g L gl sl (st + 1):=by
 simp [stepM,pickedM,alS,Sd.m,Sd.p,lookM,hL,mGet,Sd.setP,Sd.setM]
theorem mTurn_nx (N:Nat) (nx:Option Int) (l gl:List Int):(mTurn N ⟨nx,l⟩ gl).1.nx = none:=by
 unfold mTurn
 cases nx with
 | none=>rfl
 | some v =>
  simp only
  unfold mPut
  split <;> rfl
theorem al_look2 (W:Wd) (N:Nat) (nx:Option Int) (l:List Int) (tu:Nat) (L:Int) (gl:List Int) (sl:Int) (st:Nat) (hL:¬ (0 < L ∧ nx.isSome)) {g:Int} {l2 gl2:List Int}
  (hg:g ≠ -1) (hn:alNear (mTurn N ⟨nx,l⟩ gl).1.l tu (mTurn N ⟨nx,l⟩ gl).2.1 = some (g,l2,gl2)) :
  (stepM (alS W N nx l tu (-1) L gl sl st) 0 0).1 = alS W N none l2 (tu + 1) g sl gl2 sl (st + 1):=by
 have ht:turnM (alS W N nx l tu (-1) L gl sl st) 0 = alS W N none (mTurn N ⟨nx,l⟩ gl).1.l tu (-1) L (mTurn N ⟨nx,l⟩ gl).2.1 sl st:=by
  have h1:=mTurn_nx N nx l gl
  unfold turnM alS Sd.setP Sd.p
  simp only [List.getD_cons_zero,List.set_cons_zero]
  generalize mTurn N ⟨nx,l⟩ gl = q at *
  obtain ⟨⟨a,b⟩,c,d⟩:=q
  simp only at h1
  subst h1
  rfl
 generalize (mTurn N ⟨nx,l⟩ gl).1.l = l1 at *
 generalize (mTurn N ⟨nx,l⟩ gl).2.1 = gl1 at *
 have hr:nearM (alS W N none l1 tu (-1) L gl1 sl st) 0 = (alS W N none l2 tu (-1) L gl2 sl st,some g):=by
  unfold nearM
  unfold alNear at hn
  have e1:((alS W N none l1 tu (-1) L gl1 sl st).p 0).tu = tu:=rfl
  have e2:(alS W N none l1 tu (-1) L gl1 sl st).gl = gl1:=rfl
  have e3:((alS W N none l1 tu (-1) L gl1 sl st).p 0).q = ⟨none,l1⟩:=rfl
  have e4:((alS W N none l1 tu (-1) L gl1 sl st).p 0).N = N:=rfl
  rw [e1,e2,e3,e4]
  split at hn
  ·rename_i hc
   rw [if_pos hc]
   match gl1,hn with
   | x :: t,hn =>
    simp only [Option.some.injEq,Prod.mk.injEq] at hn
    obtain ⟨rfl,rfl,rfl⟩:=hn
    rfl
  ·rename_i hc
   rw [if_neg hc]
   match l1,hn with
   | x :: t,hn =>
    simp only [Option.some.injEq,Prod.mk.injEq] at hn
    obtain ⟨rfl,rfl,rfl⟩:=hn
    rfl
   | [],hn =>
    match gl1,hn with
    | x :: t,hn =>
     simp only [Option.some.injEq,Prod.mk.injEq] at hn
     obtain ⟨rfl,rfl,rfl⟩:=hn
     have hs:mShare N ⟨none,[]⟩ (x :: t) 0 = 1:=by unfold mShare;rw [if_neg (by omega)];omega
     simp only [mGet,mFetch,hs]
     rfl
 have hw:newTurnM (alS W N nx l tu (-1) L gl sl st) 0 0 = (alS W N none l2 tu (-1) L gl2 sl st,4,g):=by
  unfold newTurnM
  rw [ht,hr]
 have hk:lookM (alS W N nx l tu (-1) L gl sl st) 0 0 = (alS W N none l2 (tu + 1) g sl gl2 sl st,4,g):=by
  unfold lookM
  have e1:((alS W N nx l tu (-1) L gl sl st).m 0).P.toNat = 0:=rfl
  have e2:((alS W N nx l tu (-1) L gl sl st).m 0).L = L:=rfl
  have e3:((alS W N nx l tu (-1) L gl sl st).p 0).q.nx = nx:=rfl
  simp only [e1,e2,e3]
  rw [if_neg hL,hw]
  rfl
 have hp:pickedM (alS W N nx l tu (-1) L gl sl st) 0 0 = (alS W N none l2 (tu + 1) g sl gl2 sl st,⟨4,0,g,[]⟩):=by
  unfold pickedM
  rw [if_neg (by show ¬ (0 = 1);omega),if_neg (by show ¬ ((0:Int) = -1);omega),if_pos (show ((alS W N nx l tu (-1) L gl sl st).m 0).G = -1 from rfl)]
  rw [show (0:Int).toNat = 0 from rfl,hk]
  rfl
 unfold stepM
 rw [hp]
 rfl
theorem al_run0 {W W':Wd} {N:Nat} {nx:Option Int} {l:List Int} {tu:Nat} {G L:Int} {gl:List Int} {sl:Int} {st:Nat} {kp:Bool} (hG:G ≠ -1) (he:execM W G 0 = (W',kp,[])) :
  (stepM (alS W N nx l tu G L gl sl st) 0 0).1 = if kp = true ∧ 0 < L - 1 then alS W' N nx l tu G (L - 1) gl sl (st + 1) else alS W' N nx l tu (-1) (L - 1) (if (W'.g G.toNat).st = 1 then gl ++ [G] else gl) sl (st + 1):=by
 have hr:runM (alS W N nx l tu G L gl sl st) 0 0 = (if kp = true ∧ 0 < L - 1 then alS W' N nx l tu G (L - 1) gl sl st else alS W' N nx l tu (-1) (L - 1) (if (W'.g G.toNat).st = 1 then gl ++ [G] else gl) sl st,[]):=by
  unfold runM
  have e1:((alS W N nx l tu G L gl sl st).m 0).G = G:=rfl
  have e2:(alS W N nx l tu G L gl sl st).W = W:=rfl
  have e3:((alS W N nx l tu G L gl sl st).m 0).L = L:=rfl
  rw [e1,e2,e3,he]
  simp only [readyA]
  split <;> rfl
 unfold stepM pickedM
 rw [if_neg (by show ¬ (0 = 1);omega),if_neg (by show ¬ ((0:Int) = -1);omega),if_neg (show ¬ ((alS W N nx l tu G L gl sl st).m 0).G = -1 from hG),hr]
 split <;> rfl
theorem al_run1 {W W':Wd} {N:Nat} {nx:Option Int} {l:List Int} {tu:Nat} {G L:Int} {gl:List Int} {sl:Int} {st:Nat} {kp:Bool} {c:Int} (hG:G ≠ -1) (he:execM W G 0 = (W',kp,[c])) :
  (stepM (alS W N nx l tu G L gl sl st) 0 0).1 = if kp = true ∧ 0 < L - 1 then alS W' N (some c) (mTurn N ⟨nx,l⟩ gl).1.l tu G (L - 1) (mTurn N ⟨nx,l⟩ gl).2.1 sl (st + 1)
   else alS W' N (some c) (mTurn N ⟨nx,l⟩ gl).1.l tu (-1) (L - 1) (if (W'.g G.toNat).st = 1 then (mTurn N ⟨nx,l⟩ gl).2.1 ++ [G] else (mTurn N ⟨nx,l⟩ gl).2.1) sl (st + 1):=by
 have hr:runM (alS W N nx l tu G L gl sl st) 0 0 = (if kp = true ∧ 0 < L - 1 then alS W' N (some c) (mTurn N ⟨nx,l⟩ gl).1.l tu G (L - 1) (mTurn N ⟨nx,l⟩ gl).2.1 sl st
   else alS W' N (some c) (mTurn N ⟨nx,l⟩ gl).1.l tu (-1) (L - 1) (if (W'.g G.toNat).st = 1 then (mTurn N ⟨nx,l⟩ gl).2.1 ++ [G] else (mTurn N ⟨nx,l⟩ gl).2.1) sl st,[c]):=by
  unfold runM
  have e1:((alS W N nx l tu G L gl sl st).m 0).G = G:=rfl
  have e2:(alS W N nx l tu G L gl sl st).W = W:=rfl
  have e3:((alS W N nx l tu G L gl sl st).m 0).L = L:=rfl
  rw [e1,e2,e3,he]
  simp only [readyA]
  split <;> rfl
 unfold stepM pickedM
 rw [if_neg (by show ¬ (0 = 1);omega),if_neg (by show ¬ ((0:Int) = -1);omega),if_neg (show ¬ ((alS W N nx l tu G L gl sl st).m 0).G = -1 from hG),hr]
 split <;> rfl
def alRest (n y k:Nat) (cs:List Nat):Nat:=(n - k) * (y + 3) + (cs.map fun p=>y + 2 - p).sum
def alE (tu:Nat):Nat:=if tu % 7 = 6 then 4 else 1
def alPhi (n k tu:Nat) (G:Int) (gl:List Int):Nat :=
 if G = -1 then (if gl.getLast? = some 0 then alE tu else 7)
 else if G = 0 then (if k < n then 0 else (k - n + 1) + alE tu)
 else 0
theorem alPhi_le (n k tu:Nat) (G:Int) (gl:List Int) (hk:k ≤ n + 1):alPhi n k tu G gl ≤ 7:=by
 unfold alPhi alE
 repeat' split
 all_goals omega
structure AlI (n y N:Nat) (sl:Int) (X:Sd) (k:Nat) (v:Int) (cs:List Nat) (out:List Int) (nx:Option Int) (l:List Int) (tu:Nat) (G L:Int) (gl:List Int) (st:Nat):Prop where
 e:X = alS (alW n y k v cs out) N nx l tu G L gl sl st
 hk:k ≤ n + 1
 hcs:cs.length = min k n
 hp:∀ p ∈ cs,p ≤ y + 2
 ho:out.length = cs.countP fun p=>decide (y < p)
def AlX (n y N:Nat) (sl:Int) (X:Sd) (r M:Nat):Prop:=∃ k v cs out nx l tu G L gl st,AlI n y N sl X k v cs out nx l tu G L gl st ∧ r = alRest n y k cs ∧ M = 10 * alRest n y k cs + alPhi n k tu G gl
theorem al_sum_set:∀ (cs:List Nat) (c p q y:Nat),cs[c]? = some p → p < q → q ≤ y + 2 → ((cs.set c q).map fun p=>y + 2 - p).sum + (q - p) = (cs.map fun p=>y + 2 - p).sum
 | [],c,p,q,y,h,_,_=>by simp at h
 | x :: t,0,p,q,y,h,h1,h2=>by
  simp at h;subst h
  simp only [List.set_cons_zero,List.map_cons,List.sum_cons];omega
 | x :: t,c + 1,p,q,y,h,h1,h2=>by
  simp only [List.getElem?_cons_succ] at h
  have:=al_sum_set t c p q y h h1 h2
  simp only [List.set_cons_succ,List.map_cons,List.sum_cons];omega
theorem al_cnt_set:∀ (cs:List Nat) (c p q:Nat) (f:Nat → Bool),cs[c]? = some p → (cs.set c q).countP f + (if f p then 1 else 0) = cs.countP f + (if f q then 1 else 0)
 | [],c,p,q,f,h=>by simp at h
 | x :: t,0,p,q,f,h=>by
  simp at h;subst h
  simp only [List.set_cons_zero,List.countP_cons];omega
 | x :: t,c + 1,p,q,f,h=>by
  simp only [List.getElem?_cons_succ] at h
  have:=al_cnt_set t c p q f h
  simp only [List.set_cons_succ,List.countP_cons];omega
theorem al_sum0:∀ (cs:List Nat) (y:Nat),(cs.map fun p=>y + 2 - p).sum = 0 → ∀ p ∈ cs,y + 2 ≤ p
 | [],y,_,p,hp=>by simp at hp
 | x :: t,y,h,p,hp=>by
  simp only [List.map_cons,List.sum_cons] at h
  rcases List.mem_cons.1 hp with rfl | h2
  ·omega
  ·exact al_sum0 t y (by omega) p h2
theorem al_sumpos (cs:List Nat) (y:Nat) (h:0 < (cs.map fun p=>y + 2 - p).sum):∃ c p:Nat,cs[c]? = some p ∧ p < y + 2:=by
 refine Classical.byContradiction (fun hn=>?_)
 have h0:∀ (cs:List Nat),(¬ ∃ c p:Nat,cs[c]? = some p ∧ p < y + 2) → (cs.map fun p=>y + 2 - p).sum = 0:=by
  intro cs
  induction cs with
  | nil=>intro _;rfl
  | cons x t ih =>
   intro hn
   have h1:¬ x < y + 2:=fun hx=>hn ⟨0,x,rfl,hx⟩
   have h2:=ih (fun ⟨c,p,h3,h4⟩=>hn ⟨c + 1,p,by simpa using h3,h4⟩)
   simp only [List.map_cons,List.sum_cons];omega
 have:=h0 cs hn
 omega
theorem al_turn (N:Nat) (hN:2 ≤ N) (nx:Option Int) (l gl:List Int):(∀ x ∈ (mTurn N ⟨nx,l⟩ gl).1.l,x ∈ nx.toList ++ l) ∧ (∀ x,x ∈ gl ++ (nx.toList ++ l) → x ∈ (mTurn N ⟨nx,l⟩ gl).2.1 ∨ x ∈ (mTurn N ⟨nx,l⟩ gl).1.l) ∧
  (∀ x ∈ (mTurn N ⟨nx,l⟩ gl).2.1,x ∈ gl ++ (nx.toList ++ l)) ∧ ((mTurn N ⟨nx,l⟩ gl).1.l = [] → nx = none ∧ l = [] ∧ (mTurn N ⟨nx,l⟩ gl).2.1 = gl):=by
 unfold mTurn
 cases nx with
 | none =>
  simp only [Option.toList_none,List.nil_append]
  exact ⟨fun x h=>h,fun x h=>by rcases List.mem_append.1 h with h | h;exact .inl h;exact .inr h,fun x h=>List.mem_append_left _ h,fun h=>⟨trivial,h,trivial⟩⟩
 | some v =>
  simp only [Option.toList_some]
  unfold mPut
  split
  ·refine ⟨fun x h=>?_,fun x h=>?_,fun x h=>List.mem_append_left _ h,fun h=>by simp at h⟩
   ·simp only [List.mem_append,List.mem_singleton] at h ⊢;exact h.symm
   ·simp only [List.mem_append,List.mem_singleton] at h ⊢
    rcases h with h | h | h
    ·exact .inl h
    ·exact .inr (.inr h)
    ·exact .inr (.inl h)
  ·rename_i hlen
   simp only at hlen
   refine ⟨fun x h=>?_,fun x h=>?_,fun x h=>?_,fun h=>?_⟩
   ·simp only [List.mem_append,List.mem_singleton];exact .inr (List.mem_of_mem_drop h)
   ·simp only [List.mem_append,List.mem_singleton] at h ⊢
    rcases h with h | h | h
    ·exact .inl (.inl h)
    ·exact .inl (.inr (.inr h))
    ·rw [← List.take_append_drop (l.length / 2) l] at h
     rcases List.mem_append.1 h with h | h
     ·exact .inl (.inr (.inl h))
     ·exact .inr h
   ·simp only [List.mem_append,List.mem_singleton] at h ⊢
    rcases h with h | h | h
    ·exact .inl h
    ·exact .inr (.inr (List.mem_of_mem_take h))
    ·exact .inr (.inl h)
   ·have:=congrArg List.length h
    rw [List.length_drop] at this
    simp only [List.length_nil] at this
    omega
theorem al_last {l:List Int} {x:Int} (h:l.getLast? = some x):x ∈ l:=List.mem_of_getLast? h
theorem al_one:∀ {l:List Int} {x:Int} {t:List Int},l = x :: t → l.Nodup → l.getLast? = some x → t = []
 | _,x,[],_,_,_=>rfl
 | _,x,a :: t,e,hn,hl=>by
  subst e
  rw [List.getLast?_cons_cons] at hl
  have:=List.mem_of_getLast? hl
  exact absurd this (List.nodup_cons.1 hn).1
theorem al_near_some {l:List Int} {tu:Nat} {gl:List Int} (h:l ≠ [] ∨ gl ≠ []):∃ g l2 gl2,alNear l tu gl = some (g,l2,gl2):=by
 unfold alNear
 split
 ·rename_i hc
  match gl,hc.2 with
  | x :: t,_=>exact ⟨_,_,_,rfl⟩
 ·match l with
  | x :: t=>exact ⟨_,_,_,rfl⟩
  | [] =>
   match gl,h with
   | x :: t,_=>exact ⟨_,_,_,rfl⟩
   | [],h=>rcases h with h | h <;> exact absurd rfl h
theorem al_near_mem {l:List Int} {tu:Nat} {gl:List Int} {g:Int} {l2 gl2:List Int} (h:alNear l tu gl = some (g,l2,gl2)):g ∈ l ∨ g ∈ gl:=by
 unfold alNear at h
 split at h
 ·match gl,h with
  | x :: t,h=>simp only [Option.some.injEq,Prod.mk.injEq] at h;obtain ⟨rfl,-,-⟩:=h;exact .inr (by simp)
 ·match l,h with
  | x :: t,h=>simp only [Option.some.injEq,Prod.mk.injEq] at h;obtain ⟨rfl,-,-⟩:=h;exact .inl (by simp)
  | [],h =>
   match gl,h with
   | x :: t,h=>simp only [Option.some.injEq,Prod.mk.injEq] at h;obtain ⟨rfl,-,-⟩:=h;exact .inr (by simp)
theorem al_mk {n y N k:Nat} {sl:Int} {X:Sd} {v:Int} {cs:List Nat} {out:List Int} (hX:∃ nx l tu G L gl st,X = alS (alW n y k v cs out) N nx l tu G L gl sl st) (hk:k ≤ n + 1) (hcs:cs.length = min k n) (hp:∀ p ∈ cs,p ≤ y + 2) (ho:out.length = cs.countP fun p=>decide (y < p)) :
  ∃ M,AlX n y N sl X (alRest n y k cs) M ∧ M ≤ 10 * alRest n y k cs + 7:=by
 obtain ⟨nx,l,tu,G,L,gl,st,e⟩:=hX
 exact ⟨_,⟨k,v,cs,out,nx,l,tu,G,L,gl,st,⟨e,hk,hcs,hp,ho⟩,rfl,rfl⟩,Nat.add_le_add_left (alPhi_le n k tu G gl hk) _⟩
theorem al_cs_mem {cs:List Nat} {c q y:Nat} (hp:∀ p ∈ cs,p ≤ y + 2) (hq:q ≤ y + 2):∀ p ∈ cs.set c q,p ≤ y + 2:=fun p h=>by
 rcases List.mem_or_eq_of_mem_set h with h | rfl
 ·exact hp p h
 ·exact hq
theorem alNat_cases (g:Nat):g = 0 ∨ ∃ c,g = c + 1:=by cases g with
 | zero=>exact .inl rfl
 | succ c=>exact .inr ⟨c,rfl⟩
theorem al_cst {n y k:Nat} {v:Int} {cs:List Nat} {out:List Int} {c p:Nat} (h:cs[c]? = some p) (hp:p < y + 2):((alW n y k v cs out).g (c + 1)).st = 1:=by
 rw [al_gc h];unfold alC;simp only;rw [if_neg (by omega)]
theorem al_ok {n y N B:Nat} {sl:Int} {X:Sd} {r M:Nat} (h:AlX n y N sl X r M) (wf:SdWF B X):(decide (0 ≤ X.ms.length) && (decide (asks2 X 0 = none) && (decide (overM X = 0) && (decide (X.W.en = 0) && decide (X.W.ks = []))))) = true:=by
 obtain ⟨k,v,cs,out,nx,l,tu,G,L,gl,st,⟨rfl,hk,hcs,hp,ho⟩,-,-⟩:=h
 have hop:∀ q:Int,q = 21 ∨ q = 16 → ∀ g,(((alW n y k v cs out).ins g).getD (0,0,0,0)).1 ≠ q:=by
  intro q hq g
  refine no_op (B:=B) q (by omega) (fun l hl x hx=>?_) g
  have hl2:l ∈ [alMain n,alChild y]:=hl
  simp only [List.mem_cons,List.not_mem_nil,or_false] at hl2
  rcases hl2 with rfl | rfl
  ·unfold alMain at hx
   simp only [List.mem_append,List.mem_replicate,List.mem_cons,List.not_mem_nil,or_false] at hx
   rcases hx with ⟨-,rfl⟩ | rfl | rfl <;> (simp only;omega)
  ·unfold alChild at hx
   simp only [List.mem_append,List.mem_replicate,List.mem_cons,List.not_mem_nil,or_false] at hx
   rcases hx with ⟨-,rfl⟩ | rfl | rfl <;> (simp only;omega)
 have ha:asks2 (alS (alW n y k v cs out) N nx l tu G L gl sl st) 0 = none:=by
  unfold asks2
  rw [if_neg (by show ¬ (0 = 1);omega),if_neg (by show ¬ ((0:Int) = -1);omega)]
  split
  ·split
   ·rfl
   ·have:asksV (alS (alW n y k v cs out) N nx l tu G L gl sl st) ((alS (alW n y k v cs out) N nx l tu G L gl sl st).m 0).P.toNat = false:=by
     unfold asksV
     rw [show decide (1 < (alS (alW n y k v cs out) N nx l tu G L gl sl st).ps.length) = false from rfl,Bool.and_false]
    rw [this];rfl
  ·rw [if_neg]
   intro hh
   have h2:=hh.2
   have h3:askN (alW n y k v cs out) (((alW n y k v cs out).ins G.toNat).getD (0,0,0,0)) = 0:=by
    unfold askN
    rw [if_neg (hop 21 (.inl rfl) _),if_neg (hop 16 (.inr rfl) _)]
   have h4:askN (alW n y k v cs out) (((alW n y k v cs out).ins G.toNat).getD (0,0,0,0)) ≥ 1:=h2
   omega
 simp only [Bool.and_eq_true,decide_eq_true_eq]
 refine ⟨by omega,ha,?_,rfl,rfl⟩
 have hs:stuckM (alW n y k v cs out) = false:=rfl
 have h1:overM (alS (alW n y k v cs out) N nx l tu G L gl sl st) = if stuckM (alW n y k v cs out) then 3 else 0:=rfl
 rw [h1,hs]
 rfl
theorem al_step {n y N B:Nat} {sl:Int} {X:Sd} {r M:Nat} (hN:2 ≤ N) (hn:n ≤ 30) (h:AlX n y N sl X r M) (wf:SdWF B X):∃ r' M',AlX n y N sl (stepM X 0 0).1 r' M' ∧ (r = 0 → r' = 0) ∧ (0 < r → M' < M):=by
 obtain ⟨k,v,cs,out,nx,l,tu,G,L,gl,st,⟨rfl,hk,hcs,hp,ho⟩,rfl,rfl⟩:=h
 have hnd:=wf.nd
 have hmem:=wf.mem
 rw [alS_all] at hnd
 simp only [alS_all] at hmem
 change ∀ h,h ∈ gl ++ ((nx.toList ++ l) ++ (if G = -1 then [] else [G])) ↔ ∃ j:Nat,h = (j:Int) ∧ ((alW n y k v cs out).g j).st = 1 at hmem
 have h0:=(hmem 0).2 ⟨0,rfl,rfl⟩
 have hpos:∀ g,g ∈ gl ++ ((nx.toList ++ l) ++ (if G = -1 then [] else [G])) → 0 ≤ g:=fun g hg=>by
  obtain ⟨j,rfl,-⟩:=(hmem g).1 hg;omega
 by_cases hG:G = -1
 ·subst hG
  rw [if_pos rfl,List.append_nil] at h0 hnd
  simp only [if_true,List.append_nil] at hpos hmem
  have hone:gl.getLast? = some 0 → 0 ∉ nx.toList ++ l:=fun e hh=>(List.nodup_append.1 hnd).2.2 0 (al_last e) 0 hh rfl
  have key:∀ g tu' gl',g ≠ -1 → (g = 0 → n ≤ k → gl.getLast? = some 0 → alE tu = 4 ∧ alE tu' = 1) → alPhi n k tu' g gl' < alPhi n k tu (-1) gl:=by
   intro g tu' gl' hg hz
   have hb:∀ t,alE t ≤ 4:=fun t=>by unfold alE;split <;> omega
   have hc:∀ t,1 ≤ alE t:=fun t=>by unfold alE;split <;> omega
   have hd:alPhi n k tu (-1) gl = if gl.getLast? = some 0 then alE tu else 7:=by unfold alPhi;rw [if_pos rfl]
   rw [hd]
   unfold alPhi
   rw [if_neg hg]
   have b1:=hb tu'
   have c1:=hc tu
   by_cases hg0:g = 0
   ·rw [if_pos hg0]
    by_cases hkn:k < n
    ·rw [if_pos hkn];split <;> omega
    ·rw [if_neg hkn]
     split
     ·rename_i hl
      obtain ⟨e1,e2⟩:=hz hg0 (by omega) hl
      omega
     ·omega
   ·rw [if_neg hg0];split <;> omega
  by_cases hL:0 < L ∧ nx.isSome
  ·obtain ⟨g,rfl⟩:∃ g,nx = some g:=Option.isSome_iff_exists.1 hL.2
   have hg:g ≠ -1:=by have:=hpos g (by simp);omega
   rw [al_look1 _ _ _ _ _ _ _ _ _ hL.1]
   refine ⟨_,_,⟨k,v,cs,out,none,l,tu,g,L,gl,st + 1,⟨rfl,hk,hcs,hp,ho⟩,rfl,rfl⟩,fun h=>h,fun _=>?_⟩
   refine Nat.add_lt_add_left (key g tu gl hg (fun e _ hl=>?_)) _
   subst e
   exact absurd (by simp) (hone hl)
  ·obtain ⟨t1,t2,t3,t4⟩:=al_turn N hN nx l gl
   generalize hql:(mTurn N ⟨nx,l⟩ gl).1.l = l1 at *
   generalize hqg:(mTurn N ⟨nx,l⟩ gl).2.1 = gl1 at *
   have hne:l1 ≠ [] ∨ gl1 ≠ []:=by
    rcases t2 0 h0 with h | h
    ·exact .inr (fun e=>by rw [e] at h;cases h)
    ·exact .inl (fun e=>by rw [e] at h;cases h)
   obtain ⟨g,l2,gl2,hnear⟩:=al_near_some (tu:=tu) hne
   have hgm:g ∈ gl ++ (nx.toList ++ l):=by
    rcases al_near_mem hnear with h | h
    ·exact List.mem_append_right _ (t1 g h)
    ·exact t3 g h
   have hg:g ≠ -1:=by have:=hpos g hgm;omega
   rw [al_look2 _ _ _ _ _ _ _ _ _ hL hg (by rw [hql,hqg];exact hnear)]
   refine ⟨_,_,⟨k,v,cs,out,none,l2,tu + 1,g,sl,gl2,st + 1,⟨rfl,hk,hcs,hp,ho⟩,rfl,rfl⟩,fun h=>h,fun hr=>?_⟩
   refine Nat.add_lt_add_left (key g (tu + 1) gl2 hg (fun e hkn hl=>?_)) _
   subst e
   by_cases h6:tu % 7 = 6
   ·unfold alE
    rw [if_pos h6,if_neg (by omega)]
    exact ⟨rfl,rfl⟩
   ·exfalso
    unfold alNear at hnear
    rw [if_neg (fun hh=>h6 hh.1)] at hnear
    match l1,hnear,t1,t4 with
    | x :: t,hnear,t1,t4 =>
     simp only [Option.some.injEq,Prod.mk.injEq] at hnear
     obtain ⟨rfl,-,-⟩:=hnear
     exact hone hl (t1 0 (by simp))
    | [],hnear,t1,t4 =>
     obtain ⟨rfl,rfl,rfl⟩:=t4 rfl
     match gl1,hnear,hl,hnd,hmem with
     | x :: t,hnear,hl,hnd,hmem =>
      simp only [Option.some.injEq,Prod.mk.injEq] at hnear
      obtain ⟨rfl,-,-⟩:=hnear
      have hnd2:(0 :: t:List Int).Nodup:=by simpa using hnd
      have ht:=al_one rfl hnd2 hl
      subst ht
      have hs:0 < (cs.map fun p=>y + 2 - p).sum:=by
       unfold alRest at hr
       rw [Nat.sub_eq_zero_of_le hkn,Nat.zero_mul,Nat.zero_add] at hr
       exact hr
      obtain ⟨c,p,hc,hpc⟩:=al_sumpos cs y hs
      have:=(hmem ((c + 1:Nat):Int)).2 ⟨c + 1,rfl,al_cst hc hpc⟩
      simp at this
      omega
 ·obtain ⟨g,hg,hst⟩:=(hmem G).1 (by rw [if_neg hG];simp)
  subst hg
  rcases alNat_cases g with rfl | ⟨c,rfl⟩
  ·have hg0:((0:Nat):Int) = 0:=rfl
   rw [hg0] at hG ⊢
   rcases Nat.lt_or_ge k n with hkn | hkn
   ·-- another one comes
    have hr:=al_run1 (N:=N) (nx:=nx) (l:=l) (tu:=tu) (L:=L) (gl:=gl) (sl:=sl) (st:=st) hG (al_spawn (y:=y) (v:=v) (cs:=cs) (out:=out) hkn (by omega))
    have hrest:alRest n y (k + 1) (cs ++ [0]) + 1 = alRest n y k cs:=by
     unfold alRest
     rw [List.map_append,List.sum_append]
     have e:n - k = (n - (k + 1)) + 1:=by omega
     rw [e,Nat.add_mul]
     simp only [List.map_cons,List.map_nil,List.sum_cons,List.sum_nil]
     omega
    obtain ⟨M',hM,hle⟩:=al_mk (n:=n) (y:=y) (N:=N) (k:=k + 1) (sl:=sl) (X:=(stepM (alS (alW n y k v cs out) N nx l tu 0 L gl sl st) 0 0).1) (v:=((cs.length + 1:Nat):Int)) (cs:=cs ++ [0]) (out:=out)
     (by rw [hr];split <;> exact ⟨_,_,_,_,_,_,_,rfl⟩) (by omega) (by rw [List.length_append,hcs];simp;omega)
     (fun p hp'=>by
      rcases List.mem_append.1 hp' with h | h
      ·exact hp p h
      ·simp at h;omega) (by rw [List.countP_append,← ho];simp)
    exact ⟨_,M',hM,fun h=>by omega,fun _=>by omega⟩
   ·rcases Nat.lt_or_ge n k with hk2 | hk2
    ·-- it goes back
     have hke:k = n + 1:=by omega
     have hr:=al_run0 (N:=N) (nx:=nx) (l:=l) (tu:=tu) (L:=L) (gl:=gl) (sl:=sl) (st:=st) hG (al_jump (y:=y) (v:=v) (cs:=cs) (out:=out) hke)
     have hrest:alRest n y n cs = alRest n y k cs:=by
      unfold alRest
      rw [hke,Nat.sub_self,show n - (n + 1) = 0 by omega]
     have hst0:((alW n y n v cs out).g (0:Int).toNat).st = 1:=rfl
     rw [if_pos hst0] at hr
     rw [hr]
     have hphi:alPhi n k tu 0 gl = 2 + alE tu:=by
      unfold alPhi
      rw [if_neg (by omega),if_pos rfl,if_neg (by omega)];omega
     split
     ·refine ⟨_,_,⟨n,v,cs,out,nx,l,tu,0,L - 1,gl,st + 1,⟨rfl,by omega,by omega,hp,ho⟩,rfl,rfl⟩,fun h=>by rw [hrest];exact h,fun _=>?_⟩
      rw [hrest,hphi]
      have:alPhi n n tu 0 gl = 1 + alE tu:=by
       unfold alPhi
       rw [if_neg (by omega),if_pos rfl,if_neg (by omega)];omega
      omega
     ·refine ⟨_,_,⟨n,v,cs,out,nx,l,tu,-1,L - 1,gl ++ [0],st + 1,⟨rfl,by omega,by omega,hp,ho⟩,rfl,rfl⟩,fun h=>by rw [hrest];exact h,fun _=>?_⟩
      rw [hrest,hphi]
      have:alPhi n n tu (-1) (gl ++ [0]) = alE tu:=by
       unfold alPhi
       rw [if_pos rfl,if_pos (by simp)]
      omega
    ·-- it yields
     have hke:k = n:=by omega
     have hr:=al_run0 (N:=N) (nx:=nx) (l:=l) (tu:=tu) (L:=L) (gl:=gl) (sl:=sl) (st:=st) hG (al_yield (y:=y) (v:=v) (cs:=cs) (out:=out) hke)
     have hrest:alRest n y (n + 1) cs = alRest n y k cs:=by
      unfold alRest
      rw [hke,Nat.sub_self,show n - (n + 1) = 0 by omega]
     have hst0:((alW n y (n + 1) v cs out).g (0:Int).toNat).st = 1:=rfl
     rw [if_pos hst0,if_neg (fun hh=>by cases hh.1)] at hr
     rw [hr]
     have hphi:alPhi n k tu 0 gl = 1 + alE tu:=by
      unfold alPhi
      rw [if_neg (by omega),if_pos rfl,if_neg (by omega)];omega
     refine ⟨_,_,⟨n + 1,v,cs,out,nx,l,tu,-1,L - 1,gl ++ [0],st + 1,⟨rfl,by omega,by omega,hp,ho⟩,rfl,rfl⟩,fun h=>by rw [hrest];exact h,fun _=>?_⟩
     rw [hrest,hphi]
     have:alPhi n (n + 1) tu (-1) (gl ++ [0]) = alE tu:=by
      unfold alPhi
      rw [if_pos rfl,if_pos (by simp)]
     omega
  ·-- one of the others
   have hlen:c < cs.length:=by
    rcases Nat.lt_or_ge c cs.length with h | h
    ·exact h
    ·exfalso
     rw [g_out (by rw [al_len];omega)] at hst
     exact absurd hst (by decide)
   obtain ⟨p,hc⟩:∃ p,cs[c]? = some p:=⟨_,List.getElem?_eq_getElem hlen⟩
   have hpy:p < y + 2:=by
    have h1:=hp p (List.mem_of_getElem? hc)
    have h2:p ≠ y + 2:=fun e=>by
     rw [al_gc hc] at hst
     unfold alC at hst
     rw [if_pos e] at hst
     exact absurd (show (4:Int) = 1 from hst) (by decide)
    omega
   have hrest:alRest n y k (cs.set c (p + 1)) + 1 = alRest n y k cs:=by
    have:=al_sum_set cs c p (p + 1) y hc (by omega) (by omega)
    unfold alRest;omega
   have hcnt:=al_cnt_set cs c p (p + 1) (fun p=>decide (y < p)) hc
   have hol:out.length ≤ 30:=by
    have:=List.countP_le_length (p:=fun p=>decide (y < p)) (l:=cs)
    omega
   have fin:∀ out',(∃ nx' l' tu' G' L' gl' st',(stepM (alS (alW n y k v cs out) N nx l tu ((c + 1:Nat):Int) L gl sl st) 0 0).1 = alS (alW n y k v (cs.set c (p + 1)) out') N nx' l' tu' G' L' gl' sl st') → out'.length = (cs.set c (p + 1)).countP (fun p=>decide (y < p)) →
     ∃ r' M',AlX n y N sl (stepM (alS (alW n y k v cs out) N nx l tu ((c + 1:Nat):Int) L gl sl st) 0 0).1 r' M' ∧ (alRest n y k cs = 0 → r' = 0) ∧ (0 < alRest n y k cs → M' < 10 * alRest n y k cs + alPhi n k tu ((c + 1:Nat):Int) gl):=by
    intro out' hX ho'
    obtain ⟨M',hM,hle⟩:=al_mk (n:=n) (y:=y) (N:=N) (k:=k) (sl:=sl) (v:=v) (cs:=cs.set c (p + 1)) (out:=out') hX hk (by rw [List.length_set];exact hcs) (al_cs_mem hp (by omega)) ho'
    exact ⟨_,M',hM,fun h=>by omega,fun _=>by omega⟩
   rcases Nat.lt_or_ge p y with h1 | h1
   ·have hr:=al_run0 (N:=N) (nx:=nx) (l:=l) (tu:=tu) (L:=L) (gl:=gl) (sl:=sl) (st:=st) hG (al_cyield (y:=y) (n:=n) (k:=k) (v:=v) (out:=out) hc h1)
    refine fin out (by rw [hr];split <;> exact ⟨_,_,_,_,_,_,_,rfl⟩) ?_
    rw [decide_eq_false (by omega),decide_eq_false (by omega)] at hcnt
    simpa [ho] using hcnt.symm
   ·rcases Nat.lt_or_ge y p with h2 | h2
    ·have hr:=al_run0 (N:=N) (nx:=nx) (l:=l) (tu:=tu) (L:=L) (gl:=gl) (sl:=sl) (st:=st) hG (al_cret (y:=y) (n:=n) (k:=k) (v:=v) (out:=out) hc (by omega))
     refine fin out (by rw [hr];split <;> exact ⟨_,_,_,_,_,_,_,rfl⟩) ?_
     rw [decide_eq_true (by omega),decide_eq_true (by omega)] at hcnt
     simp at hcnt
     omega
    ·have hr:=al_run0 (N:=N) (nx:=nx) (l:=l) (tu:=tu) (L:=L) (gl:=gl) (sl:=sl) (st:=st) hG (al_cemit (y:=y) (n:=n) (k:=k) (v:=v) (out:=out) hc (by omega) (by omega))
     refine fin (out ++ [0]) (by rw [hr];split <;> exact ⟨_,_,_,_,_,_,_,rfl⟩) ?_
     rw [decide_eq_false (by omega),decide_eq_true (by omega)] at hcnt
     simp at hcnt
     rw [List.length_append]
     simp
     omega
theorem al_steps {n y N:Nat} {sl:Int} (hN:2 ≤ N) (hn:n ≤ 30):∀ (t B:Nat) (X:Sd) (r M:Nat),AlX n y N sl X r M → SdWF B X → B + t ≤ 80000 →
  okM X (List.replicate t 0) = true ∧ ∃ r' M',AlX n y N sl (itM X (List.replicate t 0)) r' M' ∧ (r = 0 → r' = 0) ∧ (r' = 0 ∨ M' + t ≤ M)
 | 0,B,X,r,M,h,_,_=>⟨rfl,r,M,h,fun h=>h,.inr (Nat.le_refl _)⟩
 | t + 1,B,X,r,M,h,wf,hB=>by
  have ho:=al_ok h wf
  obtain ⟨r1,M1,h1,h2,h3⟩:=al_step hN hn h wf
  have ho2:=ho
  simp only [Bool.and_eq_true,decide_eq_true_eq] at ho2
  have wf1:=wf.step (by omega) ho2.1 ho2.2.2.2.1 (d:=0) (fun k n e=>by rw [ho2.2.1] at e;cases e)
  rw [ho2.2.2.2.2] at wf1
  obtain ⟨k1,r',M',k2,k3,k4⟩:=al_steps hN hn t _ _ r1 M1 h1 wf1 (by simp;omega)
  refine ⟨?_,r',M',k2,fun e=>k3 (h2 e),?_⟩
  ·rw [List.replicate_succ]
   show (_ && okM _ (List.replicate t 0)) = true
   rw [k1,Bool.and_true]
   exact ho
  ·rcases Nat.eq_zero_or_pos r with e | e
   ·exact .inl (k3 (h2 e))
   ·have:=h3 e
    rcases k4 with k4 | k4
    ·exact .inl k4
    ·exact .inr (by omega)
def alX0 (n y r s:Nat):Sd:=newSd (newM (alFs n y) [] [] 0) 1 1 ((2 + r:Nat):Int) ((1 + s:Nat):Int)
def alGood (n y:Nat):Bool:=(alFs n y).all fun l=>l.all fun x=>decide (0 ≤ x.1 ∧ goodB (alFs n y).length 0 ([]:List Cs3).length ((0:Nat):Int) l.length x = some true)
theorem al_good:∀ n,n < 30 → ∀ y,y < 5 → alGood (n + 1) y = true:=by decide +kernel
theorem al_pw {n y:Nat} (h:alGood n y = true) (hn:n ≤ 40) (hy:y ≤ 40):PW (alFs n y) [] ([]:List Int).length 0:=by
 refine ⟨by show 1 ≤ 2 ∧ 2 ≤ 1000;omega,fun l hl=>?_,fun l hl x hx=>?_,by decide,fun k hk=>by simp at hk,by decide,by decide⟩
 ·simp [alFs] at hl
  rcases hl with rfl | rfl
  ·simp [alMain];omega
  ·simp [alChild];omega
 ·have h1:=List.all_eq_true.1 h l hl
  have h2:=List.all_eq_true.1 h1 x hx
  simpa using h2
structure AlOk (n y r s:Nat):Prop where
 wf:SdWF 0 (alX0 n y r s)
 ok:okM (alX0 n y r s) (List.replicate 4000 0) = true
 fin:overM (itM (alX0 n y r s) (List.replicate 4000 0)) = 0
 out:(itM (alX0 n y r s) (List.replicate 4000 0)).W.out.length = n
theorem al_first (n y r s:Nat):(stepM (alX0 n y r s) 0 0).1 = alS (alW n y 0 0 [] []) (roomOf ((2 + r:Nat):Int)) none [] 0 (-1) 0 [0] ((1 + s:Nat):Int) 1:=rfl
theorem it_succ (X:Sd) (t:Nat):itM X (List.replicate (t + 1) 0) = itM (stepM X 0 0).1 (List.replicate t 0):=by rw [List.replicate_succ];rfl
theorem ok_succ {X:Sd} {t:Nat} (h1:(decide (0 ≤ X.ms.length) && (decide (asks2 X 0 = none) && (decide (overM X = 0) && (decide (X.W.en = 0) && decide (X.W.ks = []))))) = true) (h2:okM (stepM X 0 0).1 (List.replicate t 0) = true):okM X (List.replicate (t + 1) 0) = true:=by
 rw [List.replicate_succ]
 show (_ && okM _ (List.replicate t 0)) = true
 rw [h2,Bool.and_true]
 exact h1
theorem al_all {n y r s:Nat} (hn:n < 30) (hy:y < 5) (hr:r < 5) (hs:s < 12):AlOk (n + 1) y r s:=by
 have wf:SdWF 0 (alX0 (n + 1) y r s):=newSd_wf (rooms:=[]) (al_pw (al_good n hn y hy) (by omega) (by omega)) (by omega) (by omega) (by omega)
 have hN:2 ≤ roomOf ((2 + r:Nat):Int):=by unfold roomOf;omega
 have ho:(decide (0 ≤ (alX0 (n + 1) y r s).ms.length) && (decide (asks2 (alX0 (n + 1) y r s) 0 = none) && (decide (overM (alX0 (n + 1) y r s) = 0) && (decide ((alX0 (n + 1) y r s).W.en = 0) && decide ((alX0 (n + 1) y r s).W.ks = []))))) = true:=rfl
 have ho2:=ho
 simp only [Bool.and_eq_true,decide_eq_true_eq] at ho2
 have wf1:=wf.step (by omega) ho2.1 ho2.2.2.2.1 (d:=0) (fun k n e=>by rw [ho2.2.1] at e;cases e)
 rw [ho2.2.2.2.2] at wf1
 have hX:AlX (n + 1) y (roomOf ((2 + r:Nat):Int)) ((1 + s:Nat):Int) (stepM (alX0 (n + 1) y r s) 0 0).1 (alRest (n + 1) y 0 []) (10 * alRest (n + 1) y 0 [] + alPhi (n + 1) 0 0 (-1) [0]) :=
  ⟨0,0,[],[],none,[],0,-1,0,[0],1,⟨al_first _ _ _ _,by omega,rfl,by simp,rfl⟩,rfl,rfl⟩
 have hb:alRest (n + 1) y 0 [] ≤ 210:=by
  unfold alRest
  simp only [List.map_nil,List.sum_nil,Nat.add_zero,Nat.sub_zero]
  calc (n + 1) * (y + 3) ≤ 30 * 7:=Nat.mul_le_mul (by omega) (by omega)
   _ = 210:=rfl
 have hphi:=alPhi_le (n + 1) 0 0 (-1) [0] (by omega)
 obtain ⟨k1,r',M',k2,-,k4⟩:=al_steps hN (by omega) 3999 _ _ _ _ hX wf1 (by simp)
 have hr0:r' = 0:=by omega
 have hit:itM (alX0 (n + 1) y r s) (List.replicate 4000 0) = itM (stepM (alX0 (n + 1) y r s) 0 0).1 (List.replicate 3999 0):=it_succ _ 3999
 refine ⟨wf,ok_succ (t:=3999) ho k1,?_,?_⟩
 ·rw [hit]
  obtain ⟨k,v,cs,out,nx,l,tu,G,L,gl,st,⟨e,-,-,-,-⟩,-,-⟩:=k2
  rw [e]
  rfl
 ·rw [hit]
  obtain ⟨k,v,cs,out,nx,l,tu,G,L,gl,st,⟨e,hk,hcs,hp,ho⟩,e2,-⟩:=k2
  rw [e]
  show out.length = n + 1
  unfold alRest at e2
  rw [hr0] at e2
  have hkn:n + 1 ≤ k:=by
   rcases Nat.lt_or_ge k (n + 1) with h | h
   ·exfalso
    have h1:1 ≤ n + 1 - k:=by omega
    have h2:=Nat.mul_le_mul h1 (Nat.le_refl (y + 3))
    omega
   ·exact h
  have hs0:=al_sum0 cs y (by omega)
  have hc:cs.countP (fun p=>decide (y < p)) = cs.length:=List.countP_eq_length.2 (fun p hp'=>by have:=hs0 p hp';simp;omega)
  rw [ho,hc,hcs]
  omega
end Go.Proofs.YtodjgipiomnnfaaGreat


open Go Go.RowKit
set_option linter.unusedVariables false
namespace Go.Proofs.YtodjgipiomnnfaaGreat
theorem some1_any (w:World) (x:Int) (m n:Nat) (hm:0 < m) (hm2:m ≤ 1000) (hn:(bits BinOp.and IntKind.i64 x 255).tmod (m:Int) = (n:Int)) (hn2:n ≤ 255) :
  Calls Tryz.prog 25 #[.int .i64 x,.int .i64 (m:Int)] w fun r w'=>r = .returned (.int .i64 (n:Int)) ∧ w' = w:=by
 have hz:(m:Int) ≠ 0:=by omega
 have hw:IntKind.i64.wrap (n:Int) = n:=by rw [IntKind.wrap_i64];omega
 go_enter Tryz.func25,Tryz.ntmps25
 go_wp2
 go_ret
 exact ⟨rfl,rfl⟩
def SmC (x:Int) (m n:Nat):Prop:=0 < m ∧ m ≤ 1000 ∧ (bits BinOp.and IntKind.i64 x 255).tmod (m:Int) = (n:Int) ∧ n < m ∧ n ≤ 255
theorem smC_any {x:Int} {m n:Nat} (h:SmC x m n) (w:World):Calls Tryz.prog 25 #[.int .i64 x,.int .i64 (m:Int)] w fun r w'=>r = .returned (.int .i64 (n:Int)) ∧ w' = w :=
 some1_any w x m n h.1 h.2.1 h.2.2.1 h.2.2.2.2
theorem smC_of (x:Int) (m:Nat) (hm:0 < m) (hm2:m ≤ 1000):∃ n,SmC x m n:=by
 obtain ⟨n,h1,h2,h3⟩:=small_of x m hm
 exact ⟨n,hm,hm2,h1,h2,h3⟩
theorem cfg_get {w:World} {q:Nat} {a b c d:Int} (e0:w.cell? ⟨q,0,none⟩ = some (.int .i64 a)) (e1:w.cell? ⟨q,1,none⟩ = some (.int .i64 b)) (e2:w.cell? ⟨q,2,none⟩ = some (.int .i64 c)) (e3:w.cell? ⟨q,3,none⟩ = some (.int .i64 d)) :
  (loadVar 23 ⟨q,0,none⟩).run Tryz.prog w = .ok (.agg #[.int .i64 a,.int .i64 b,.int .i64 c,.int .i64 d]) w:=by
 simp [go_sem,e0,e1,e2,e3]
theorem some18_any (w:World) (p m r s:Int) (a b c d:Nat) (ha:SmC p 5 a) (hb:SmC m 5 b) (hc:SmC r 5 c) (hd:SmC s 12 d) :
  Calls Tryz.prog 10 #[.agg #[.int .i64 p,.int .i64 m,.int .i64 r,.int .i64 s]] w fun e w' =>
   e = .returned (.agg #[.int .i64 (1 + (a:Int)),.int .i64 (1 + (b:Int)),.int .i64 (2 + (c:Int)),.int .i64 (1 + (d:Int))]) ∧ Below w.heap.size w w':=by
 have a5:=ha.2.2.2.1
 have b5:=hb.2.2.2.1
 have c5:=hc.2.2.2.1
 have d5:=hd.2.2.2.1
 have ka:=Lib.hid (smC_any ha)
 have kb:=Lib.hid (smC_any hb)
 have kc:=Lib.hid (smC_any hc)
 have kd:=Lib.hid (smC_any hd)
 clear ha hb hc hd
 go_enter Tryz.func10,Tryz.ntmps10
 go_upto_region 2 with fail
 have o0:Own w ((w.alloc (.cells #[.int .i64 p,.int .i64 m,.int .i64 r,.int .i64 s] 23)).alloc (.cells #[.int .i64 0,.int .i64 0,.int .i64 0,.int .i64 0] 23))
   [CelA (w.heap.size + 1) [.int .i64 0,.int .i64 0,.int .i64 0,.int .i64 0],CelA w.heap.size [.int .i64 p,.int .i64 m,.int .i64 r,.int .i64 s]]:=by
  have h:=((Own.nil (Below.refl _ w)).alloc [.int .i64 p,.int .i64 m,.int .i64 r,.int .i64 s] 23 (b:=w.heap.size) rfl).alloc [.int .i64 0,.int .i64 0,.int .i64 0,.int .i64 0] 23 (b:=w.heap.size + 1) (by simp)
  exact h
 generalize ((w.alloc (.cells #[.int .i64 p,.int .i64 m,.int .i64 r,.int .i64 s] 23)).alloc (.cells #[.int .i64 0,.int .i64 0,.int .i64 0,.int .i64 0] 23)) = w1 at *
 generalize w.heap.size + 1 = q1 at *
 generalize hq:w.heap.size = q at *
 have HQ:=Lib.hid hq
 clear hq
 have o1:=o0.step (below_drew1 w1)
 clear o0
 have SB:Hid (∀ wx:World,Own w wx [CelA q1 [.int .i64 0,.int .i64 0,.int .i64 0,.int .i64 0],CelA q [.int .i64 p,.int .i64 m,.int .i64 r,.int .i64 s]] → wx.cell? ⟨q,0,none⟩ = some (.int .i64 p) ∧ wx.cell? ⟨q,1,none⟩ = some (.int .i64 m) ∧ wx.cell? ⟨q,2,none⟩ = some (.int .i64 r) ∧ wx.cell? ⟨q,3,none⟩ = some (.int .i64 s)) :=
  Lib.hid (fun wx h=>⟨(h.cel 1 rfl 0 _ rfl).1,(h.cel 1 rfl 1 _ rfl).1,(h.cel 1 rfl 2 _ rfl).1,(h.cel 1 rfl 3 _ rfl).1⟩)
 refine wp_region_lexZ (fun wx=>wx.cell? ⟨q,0,none⟩ = some (.int .i64 p) ∧ wx.cell? ⟨q,1,none⟩ = some (.int .i64 m) ∧ wx.cell? ⟨q,2,none⟩ = some (.int .i64 r) ∧ wx.cell? ⟨q,3,none⟩ = some (.int .i64 s)) 22 (Array.replicate 22 false) (by kernel_rfl) (by kernel_rfl) ?_
 generalize w1.drew = w2 at *
 refine wpAnyZ_seg 0 3 _ #[true,true,true,false,false,false,false,false,false,false,false,false,false,false,false,false,false,false,false,false,false,false] 19 (by kernel_rfl) noPanic_put (SB.out _ o1) (by kernel_rfl) ?_
 simp only [List.take_succ_cons,List.take_zero,List.drop_zero]
 repeat ((first | refine wpSegH_no (by rfl) ?_ | (refine wpSegH_yes (by rfl) ?_;apply Exists.intro;apply And.intro;(· (intro wx hS;(try dsimp only at hS);go_simp;first | done | with_reducible rfl))));simp only [Act.put,List.setIfInBounds_toArray,List.set_cons_zero,List.set_cons_succ])
 refine wpSegH_nil ?_
 refine wpAnyZ_seg 5 3 _ #[true,true,true,false,false,true,true,true,false,false,false,false,false,false,false,false,false,false,false,false,false,false] 16 (by kernel_rfl) noPanic_put (SB.out _ o1) (by kernel_rfl) ?_
 simp only [List.take_succ_cons,List.take_zero,List.drop_succ_cons,List.drop_zero]
 repeat ((first | refine wpSegH_no (by rfl) ?_ | (refine wpSegH_yes (by rfl) ?_;apply Exists.intro;apply And.intro;(· (intro wx hS;(try dsimp only at hS);go_simp;first | done | with_reducible rfl))));simp only [Act.put,List.setIfInBounds_toArray,List.set_cons_zero,List.set_cons_succ])
 refine wpSegH_nil ?_
 refine wpAnyZ_seg 10 3 _ #[true,true,true,false,false,true,true,true,false,false,true,true,true,false,false,false,false,false,false,false,false,false] 13 (by kernel_rfl) noPanic_put (SB.out _ o1) (by kernel_rfl) ?_
 simp only [List.take_succ_cons,List.take_zero,List.drop_succ_cons,List.drop_zero]
 repeat ((first | refine wpSegH_no (by rfl) ?_ | (refine wpSegH_yes (by rfl) ?_;apply Exists.intro;apply And.intro;(· (intro wx hS;(try dsimp only at hS);go_simp;first | done | with_reducible rfl))));simp only [Act.put,List.setIfInBounds_toArray,List.set_cons_zero,List.set_cons_succ])
 refine wpSegH_nil ?_
 refine wpAnyZ_seg 15 3 _ #[true,true,true,false,false,true,true,true,false,false,true,true,true,false,false,true,true,true,false,false,false,false] 10 (by kernel_rfl) noPanic_put (SB.out _ o1) (by kernel_rfl) ?_
 simp only [List.take_succ_cons,List.take_zero,List.drop_succ_cons,List.drop_zero]
 repeat ((first | refine wpSegH_no (by rfl) ?_ | (refine wpSegH_yes (by rfl) ?_;apply Exists.intro;apply And.intro;(· (intro wx hS;(try dsimp only at hS);go_simp;first | done | with_reducible rfl))));simp only [Act.put,List.setIfInBounds_toArray,List.set_cons_zero,List.set_cons_succ])
 refine wpSegH_nil ?_
 refine wpAnyZ_one 3 _ #[true,true,true,true,false,true,true,true,false,false,true,true,true,false,false,true,true,true,false,false,false,false] 9 (by kernel_rfl) (fun K hK=>?_)
 have HKK:=Lib.hid hK
 clear hK
 simp only [List.drop_succ_cons,List.drop_zero]
 refine headH_mk (by rfl) ?_
 go_simp
 refine (ka.out _).mono ?_
 rintro e w3 ⟨rfl,rfl⟩
 refine HKK.out _ _ (SB.out _ o1) ?_
 clear HKK K
 refine wpAnyZ_seg 4 1 _ #[true,true,true,true,true,true,true,true,false,false,true,true,true,false,false,true,true,true,false,false,false,false] 8 (by kernel_rfl) noPanic_put (SB.out _ o1) (by kernel_rfl) ?_
 simp only [List.take_succ_cons,List.take_zero,List.drop_succ_cons,List.drop_zero]
 repeat ((first | refine wpSegH_no (by rfl) ?_ | (refine wpSegH_yes (by rfl) ?_;apply Exists.intro;apply And.intro;(· (intro wx hS;(try dsimp only at hS);go_simp;first | done | with_reducible rfl))));simp only [Act.put,List.setIfInBounds_toArray,List.set_cons_zero,List.set_cons_succ])
 refine wpSegH_nil ?_
 refine wpAnyZ_one 8 _ #[true,true,true,true,true,true,true,true,true,false,true,true,true,false,false,true,true,true,false,false,false,false] 7 (by kernel_rfl) (fun K hK=>?_)
 have HKK:=Lib.hid hK
 clear hK
 simp only [List.drop_succ_cons,List.drop_zero]
 refine headH_mk (by rfl) ?_
 go_simp
 refine (kb.out _).mono ?_
 rintro e w3 ⟨rfl,rfl⟩
 refine HKK.out _ _ (SB.out _ o1) ?_
 clear HKK K
 refine wpAnyZ_seg 9 1 _ #[true,true,true,true,true,true,true,true,true,true,true,true,true,false,false,true,true,true,false,false,false,false] 6 (by kernel_rfl) noPanic_put (SB.out _ o1) (by kernel_rfl) ?_
 simp only [List.take_succ_cons,List.take_zero,List.drop_succ_cons,List.drop_zero]
 repeat ((first | refine wpSegH_no (by rfl) ?_ | (refine wpSegH_yes (by rfl) ?_;apply Exists.intro;apply And.intro;(· (intro wx hS;(try dsimp only at hS);go_simp;first | done | with_reducible rfl))));simp only [Act.put,List.setIfInBounds_toArray,List.set_cons_zero,List.set_cons_succ])
 refine wpSegH_nil ?_
 refine wpAnyZ_one 13 _ #[true,true,true,true,true,true,true,true,true,true,true,true,true,true,false,true,true,true,false,false,false,false] 5 (by kernel_rfl) (fun K hK=>?_)
 have HKK:=Lib.hid hK
 clear hK
 simp only [List.drop_succ_cons,List.drop_zero]
 refine headH_mk (by rfl) ?_
 go_simp
 refine (kc.out _).mono ?_
 rintro e w3 ⟨rfl,rfl⟩
 refine HKK.out _ _ (SB.out _ o1) ?_
 clear HKK K
 refine wpAnyZ_seg 14 1 _ #[true,true,true,true,true,true,true,true,true,true,true,true,true,true,true,true,true,true,false,false,false,false] 4 (by kernel_rfl) noPanic_put (SB.out _ o1) (by kernel_rfl) ?_
 simp only [List.take_succ_cons,List.take_zero,List.drop_succ_cons,List.drop_zero]
 repeat ((first | refine wpSegH_no (by rfl) ?_ | (refine wpSegH_yes (by rfl) ?_;apply Exists.intro;apply And.intro;(· (intro wx hS;(try dsimp only at hS);go_simp;first | done | with_reducible rfl))));simp only [Act.put,List.setIfInBounds_toArray,List.set_cons_zero,List.set_cons_succ])
 refine wpSegH_nil ?_
 refine wpAnyZ_one 18 _ #[true,true,true,true,true,true,true,true,true,true,true,true,true,true,true,true,true,true,true,false,false,false] 3 (by kernel_rfl) (fun K hK=>?_)
 have HKK:=Lib.hid hK
 clear hK
 simp only [List.drop_succ_cons,List.drop_zero]
 refine headH_mk (by rfl) ?_
 go_simp
 refine (kd.out _).mono ?_
 rintro e w3 ⟨rfl,rfl⟩
 refine HKK.out _ _ (SB.out _ o1) ?_
 clear HKK K
 refine wpAnyZ_seg 19 2 _ #[true,true,true,true,true,true,true,true,true,true,true,true,true,true,true,true,true,true,true,true,true,false] 1 (by kernel_rfl) noPanic_put (SB.out _ o1) (by kernel_rfl) ?_
 simp only [List.take_succ_cons,List.take_zero,List.drop_succ_cons,List.drop_zero]
 repeat ((first | refine wpSegH_no (by rfl) ?_ | (refine wpSegH_yes (by rfl) ?_;apply Exists.intro;apply And.intro;(· (intro wx hS;(try dsimp only at hS);go_simp;first | done | with_reducible rfl))));simp only [Act.put,List.setIfInBounds_toArray,List.set_cons_zero,List.set_cons_succ])
 refine wpSegH_nil ?_
 obtain ⟨x0,y0⟩:=o1.cel 0 rfl 0 _ rfl
 obtain ⟨x1,y1⟩:=o1.cel 0 rfl 1 _ rfl
 obtain ⟨x2,y2⟩:=o1.cel 0 rfl 2 _ rfl
 obtain ⟨x3,y3⟩:=o1.cel 0 rfl 3 _ rfl
 have o2:=(((o1.set 0 (.int .i64 (1 + (a:Int)))).set 1 (.int .i64 (1 + (b:Int)))).set 2 (.int .i64 (2 + (c:Int)))).set 3 (.int .i64 (1 + (d:Int)))
 have z0:=(o2.cel 0 rfl 0 _ rfl).1
 have z1:=(o2.cel 0 rfl 1 _ rfl).1
 have z2:=(o2.cel 0 rfl 2 _ rfl).1
 have z3:=(o2.cel 0 rfl 3 _ rfl).1
 have O2:=Lib.hid o2.bel
 clear o1 o2 SB ka kb kc kd
 refine wpAnyZ_end 21 _ #[true,true,true,true,true,true,true,true,true,true,true,true,true,true,true,true,true,true,true,true,true,true] (by kernel_rfl) (fun K hK=>?_)
 have HKK:=Lib.hid hK
 clear hK
 simp only [List.drop_succ_cons,List.drop_zero]
 refine headH_mk (by rfl) ?_
 go_simp
 refine HKK.out _ _ (NoPanic.normal ?_)
 clear HKK K
 have EG:=cfg_get z0 z1 z2 z3
 clear z0 z1 z2 z3
 have E1:Hid (∀ k:Nat,k < 12 → IntKind.i64.wrap (1 + (k:Int)) = 1 + k):=Lib.hid (fun k hk=>by rw [IntKind.wrap_i64];omega)
 have E2:Hid (∀ k:Nat,k < 12 → IntKind.i64.wrap (2 + (k:Int)) = 2 + k):=Lib.hid (fun k hk=>by rw [IntKind.wrap_i64];omega)
 go_wp2
 rw [E1.out a (by omega),E1.out b (by omega),E1.out d (by omega),E2.out c (by omega)]
 exact bodyPost_ret (results_cell Tryz.results10 _ ⟨q1,0,none⟩ rfl EG) rfl ⟨rfl,by rw [← HQ.out] at *;exact O2.out⟩
theorem mk_app (l m:List In4):i4s (l ++ m) = i4s l ++ i4s m:=by unfold i4s;rw [List.flatMap_append]
theorem mk_cells {w:World} {b:Nat} {cs:List Value} (h:Blk w b cs):CellsAt w (some ⟨b,0,none⟩) cs:=fun j v hj=>⟨b,0,rfl,by rw [Nat.zero_add];exact (h j v hj).1⟩
theorem mk_ins:(Tryz.prog.info? 34).map (fun i=>(i.zero,i.size,i.bytes)) = some (some (.agg #[.int .i64 0,.int .i64 0,.int .i64 0,.int .i64 0]),4,32):=by kernel_rfl
theorem mk_u64 (n:Nat):(madeCells #[Value.int .u64 0] (n * 1)).toList = numc (List.replicate n 0):=by
 rw [Nat.mul_one,toList_madeCells_one];simp [numc]
theorem mk_nums (w:World) (n:Nat) (hn:n ≤ 1000000):∃ w1,(Instr.makeSlice 44 (.int .i64 (n:Int)) (.int .i64 (n:Int))).run Tryz.prog w = .ok (.slice (some ⟨w.heap.size,0,none⟩) n n) w1 ∧ RowG 1 w1 (some ⟨w.heap.size,0,none⟩) n n (numc (List.replicate n 0)) ∧ Below w.heap.size w w1:=by
 obtain ⟨i0,hi,hz0,hz1,hz2⟩:=info_parts info_u6
 obtain ⟨w1,h1,h2,h3⟩:=run_make_full (P:=Tryz.prog) w w.heap.size 44 55 i0 _ 1 Tryz.underlying44 hi hz0 hz1 .i64 .i64 n (by rw [hz2];omega) (by unfold maxLen;omega) (Nat.le_refl _)
 obtain ⟨a,cap,e,hr,hb⟩:=RowG.of_own h2
 simp only [Value.slice.injEq] at e
 obtain ⟨e1,e2,e3⟩:=e
 subst e1
 rw [← e3] at hr
 rw [show (Value.int .u64 0).cells = #[Value.int .u64 0] from rfl,mk_u64] at hr
 exact ⟨w1,h1,hr,(grownBy_chg h3).to_below0⟩
end Go.Proofs.YtodjgipiomnnfaaGreat
open Go Go.RowKit
set_option linter.unusedVariables false
namespace Go.Proofs.YtodjgipiomnnfaaGreat.schedAlone
theorem rep_succ (i:Nat) (x:In4):i4s (List.replicate (i + 1) x) = i4s (List.replicate i x) ++ i4c x:=by
 rw [List.replicate_succ',mk_app];simp [i4s]
theorem al_prog {w:World} {a b:Option Addr} {cap cap2 n y cf:Nat} (h0:CellsAt w a (i4s (alMain n))) (hn:a = none → cap = 0) (h1:CellsAt w b (i4s (alChild y))) (hn1:b = none → cap2 = 0)
  (hf:CellsAt w (some ⟨cf,0,none⟩) [.slice a (n + 2) cap,.slice b (y + 2) cap2]) (hN:n ≤ 40) (hY:y ≤ 40) :
  ProgIn w (some ⟨cf,0,none⟩) [(a,cap),(b,cap2)] (alFs n y) none [] none 0 []:=by
 have e:(alMain n).length = n + 2:=by simp [alMain]
 have e1:(alChild y).length = y + 2:=by simp [alChild]
 refine ⟨?_,rfl,fun i r l hr hl=>?_,CellsAt.nil _ _,CellsAt.nil _ _,fun _=>rfl,by decide,by show 2 ≤ 1000;omega,by decide⟩
 ·show CellsAt w _ [.slice a (alMain n).length cap,.slice b (alChild y).length cap2]
  rw [e,e1];exact hf
 ·match i with
  | 0=>simp [alFs] at hr hl;subst hr hl;exact ⟨h0,hn,by omega⟩
  | 1=>simp [alFs] at hr hl;subst hr hl;exact ⟨h1,hn1,by omega⟩
  | i + 2=>simp at hr
def alNum:List Nat:=List.replicate 4000 0
theorem alNum_len:alNum.length = 4000:=List.length_replicate
theorem al_nums (w:World):∃ w1,(Instr.makeSlice 44 (.int .i64 4000) (.int .i64 4000)).run Tryz.prog w = .ok (.slice (some ⟨w.heap.size,0,none⟩) 4000 4000) w1 ∧ RowG 1 w1 (some ⟨w.heap.size,0,none⟩) 4000 4000 (numc alNum) ∧ Below w.heap.size w w1:=mk_nums w 4000 (by omega)
theorem al_keep {w wx:World} {A:Asr} {As:List Asr} (h:Own w wx (A :: As)) (k:Nat) {B:Asr} (hk:As[k]? = some B):Own w wx [A,B]:=by
 have h3:=pick_perm As k B hk
 have h5:=(h.perm (List.Perm.cons A h3)).perm (List.perm_append_comm (l₁:=[A,B]) (l₂:=As.eraseIdx k))
 exact h5.dropL
theorem alNum_at {k:Nat} (hk:k < 4000):alNum[k]? = some 0:=by
 unfold alNum
 rw [List.getElem?_replicate,if_pos hk]
theorem als_step {w0 w:World} {b sp n y r s k:Nat} {R:List Asr} (hs:AlOk n y r s) (hk:k < 4000) (h:Own w0 w (SchA b sp (itM (alX0 n y r s) (alNum.take k)) :: SrcA sp 0 (orS alNum (alNum.take k)) .nilFunc :: R)) :
  Calls Tryz.prog 13 #[.pointer (some ⟨b,0,none⟩)] w fun r' w'=>∃ kk mm gg rn ra rc,r' = .returned (.tuple #[.agg #[.int .i64 kk,.int .i64 mm,.int .i64 gg,.slice ra rn rc],.int .i64 0]) ∧
   Own w0 w' (SchA b sp (itM (alX0 n y r s) (alNum.take (k + 1))) :: SrcA sp 0 (orS alNum (alNum.take (k + 1))) .nilFunc :: R):=by
 refine (pk_step (p:=0) h hs.wf hs.ok (alNum_at hk) ?_ (by rw [alNum_len];omega) (fun n hn=>?_) (by rw [alNum_len];omega)).mono (fun r w' hh=>?_)
 ·rw [List.getD_eq_getElem?_getD,alNum_at hk];rfl
 ·have e:n = 0:=List.eq_of_mem_replicate hn
  rw [e];decide
 ·obtain ⟨ra,rc,rfl,ho⟩:=hh
  exact ⟨_,_,_,_,ra,rc,rfl,ho⟩
theorem als_end {w0 w:World} {b sp n y r s:Nat} {R:List Asr} (hs:AlOk n y r s) (h:Own w0 w (SchA b sp (itM (alX0 n y r s) (alNum.take 4000)) :: R)) :
  ∃ (L:Sl) (T:List Value) (Q:List Asr),SAt w0 w b sp L (itM (alX0 n y r s) alNum) R ∧ Own w0 w (WldA b (itM (alX0 n y r s) alNum).W T :: (Q ++ R)) ∧ WF (0 + alNum.length) (itM (alX0 n y r s) alNum).W ∧ overM (itM (alX0 n y r s) alNum) = 0 ∧ (itM (alX0 n y r s) alNum).W.out.length = n ∧ (itM (alX0 n y r s) alNum).W.gs.length ≤ 1000000:=by
 rw [List.take_of_length_le (by rw [alNum_len];omega)] at h
 obtain ⟨L,h1⟩:=h.sat
 obtain ⟨T,Q,h2,-⟩:=h1.world
 have wf:=SdWF.its alNum hs.wf hs.ok (by rw [alNum_len];omega)
 have e:List.replicate 4000 0 = alNum:=rfl
 have hf:=hs.fin
 have ho:=hs.out
 rw [e] at hf ho
 have hg:=wf.wf.g1.2
 exact ⟨L,T,Q,h1,h2,wf.wf,hf,ho,by omega⟩
theorem walk (a0 a1:Int) (p m r s:Int) (w:World) (w0:(Lit.int .i64 a0).wf = true) (w1:(Lit.int .i64 a1).wf = true) (wp:(Lit.int .i64 p).wf = true) (wm:(Lit.int .i64 m).wf = true) (wr:(Lit.int .i64 r).wf = true) (ws:(Lit.int .i64 s).wf = true) :
  Calls Tryz.prog 4 #[.int .i64 a0,.int .i64 a1,.agg #[.int .i64 p,.int .i64 m,.int .i64 r,.int .i64 s]] w fun e w'=>e = .returned (.bool true) ∧ Below w.heap.size w w':=by
 obtain ⟨a,ha⟩:=smC_of p 5 (by omega) (by omega)
 obtain ⟨b,hb⟩:=smC_of m 5 (by omega) (by omega)
 obtain ⟨c,hc⟩:=smC_of r 5 (by omega) (by omega)
 obtain ⟨d,hd⟩:=smC_of s 12 (by omega) (by omega)
 have KS:=Lib.hid (fun wx=>some18_any wx p m r s a b c d ha hb hc hd)
 have hc5:=hc.2.2.2.1
 have hd5:=hd.2.2.2.1
 have HCD:=Lib.hid (And.intro hc5 hd5)
 obtain ⟨M,hM',hM2,-⟩:=small_of a0 30 (by omega)
 have hM:(bits BinOp.and IntKind.i64 a0 255).tmod 30 = (M:Int):=hM'
 obtain ⟨y,hy',hy2,-⟩:=small_of a1 5 (by omega)
 have hy:(bits BinOp.and IntKind.i64 a1 255).tmod 5 = (y:Int):=hy'
 clear hM' hy' w0 w1 wp wm wr ws ha hb hc hd hc5 hd5
 obtain ⟨i0,hi0,hz0,hz1,hz2⟩:=info_parts mk_ins
 have Hi:=Lib.hid hi0;clear hi0
 have Hz0:=Lib.hid hz0;clear hz0
 have Hz1:=Lib.hid hz1;clear hz1
 have Hz2:=Lib.hid hz2;clear hz2
 go_enter Tryz.func4,Tryz.ntmps4
 go_upto_region 1 with fail
 have o0:Own w (w.alloc (.cells #[.int .i64 p,.int .i64 m,.int .i64 r,.int .i64 s] 23)) [CelA w.heap.size [.int .i64 p,.int .i64 m,.int .i64 r,.int .i64 s]]:=by
  have h:=(Own.nil (Below.refl _ w)).alloc [.int .i64 p,.int .i64 m,.int .i64 r,.int .i64 s] 23 (b:=w.heap.size) rfl
  exact h
 generalize (w.alloc (.cells #[.int .i64 p,.int .i64 m,.int .i64 r,.int .i64 s] 23)) = wa at *
 generalize hq:w.heap.size = q at *
 have HQ:=Lib.hid hq
 clear hq
 go_wp2_with fail
 refine (awake18_any _).mono ?_
 rintro e w1 ⟨rfl,hb⟩
 have o1:=o0.step hb
 clear o0 hb
 obtain ⟨N,hN⟩:∃ N,N = M + 1:=⟨_,rfl⟩
 have hN2:1 ≤ N ∧ N ≤ 30:=by omega
 have hNM:1 + (M:Int) = (N:Int):=by omega
 have hw2:IntKind.i64.wrap (1 + (M:Int)) = (N:Int):=by rw [IntKind.wrap_i64];omega
 have HNM:=Lib.hid (And.intro hN (And.intro hM2 hy2))
 have O1:=Lib.hid o1
 clear hN o1
 go_upto_region 5 with fail
 try rw [hw2]
 try rw [hNM]
 clear hNM hw2 hM hM2 hy
 have ho0:=(O1.out.add (below_alloc1 w1 (.cells #[] 34)) (A:=RowGA 4 (some ⟨w1.heap.size,0,none⟩) 0 0 []) (F:=[w1.heap.size]) ⟨rfl,RowG.zero (by simp)⟩ (by intro x hx;simp at hx;omega))
 have HO:=Lib.hid ho0;clear ho0
 go_wp2_with fail
 go_loopw [7,24] (fun sv iv wr=>∃ i:Nat,∃ ra cap,i ≤ N ∧ iv = .int .i64 i ∧ sv = .slice ra i cap ∧ Hid (Own w wr [RowGA 4 ra cap i (i4s (List.replicate i (11,1,0,1))),CelA q [.int .i64 p,.int .i64 m,.int .i64 r,.int .i64 s]])) (fun _ iv _=>N - (intOf iv).toNat)
 case atStart=>exact ⟨0,some ⟨w1.heap.size,0,none⟩,0,by omega,rfl,rfl,HO⟩
 case round =>
  obtain ⟨i,ra,cap,hi,rfl,rfl,hr⟩:=hrel
  by_cases hlt:i < N
  ·have hlt2:(i:Int) < (N:Int):=by omega
   have o1:=hr.out.step (below_alloc1 wr (.cells #[.int .i64 11,.int .i64 1,.int .i64 0,.int .i64 1] 34))
   have H1:=Lib.hid o1
   clear o1 hr
   go_wp2_with (at_builtin;go_loud (refine wpList_append_rowG rfl _ _ 31 rfl 34 i0 _ Tryz.underlying31 Hi.out Hz0.out Hz1.out Hz2.out rfl (by decide) (by decide) (n:=i) (m:=1) (cs:=i4s (List.replicate i (11,1,0,1))) (ds:=[.int .i64 11,.int .i64 1,.int .i64 0,.int .i64 1]) (by rfl) (by rfl) (H1.out.rowG 0 rfl) (CellsAt.new _ [.int .i64 11,.int .i64 1,.int .i64 0,.int .i64 1] _ rfl) rfl (by simp [Value.oneCell']) (by omega) ?_))
   intro a9 c9 w9 k9 ch9 f9
   have o2:=Own.rowTurn H1.out k9 ch9 (fun x hx=>by simpa using f9 x hx)
   have H2:Hid (Own w w9 [RowGA 4 a9 c9 (i + 1) (i4s (List.replicate (i + 1) (11,1,0,1))),CelA q [.int .i64 p,.int .i64 m,.int .i64 r,.int .i64 s]]):=Lib.hid (by rw [rep_succ];exact o2)
   clear o2 k9 ch9 f9 H1
   go_wp2
   exact ⟨⟨i + 1,a9,c9,by omega,by go_num,rfl,H2⟩,by simp [intOf];omega⟩
  ·obtain rfl:i = N:=by omega
   have hge:¬ ((i:Int) < (i:Int)):=by omega
   go_upto_region 9 with fail
   clear hlt hi hge HO O1
   have o1:=hr.out.step (below_alloc1 wr (.cells #[.int .i64 12,.int .i64 0,.int .i64 0,.int .i64 0,.int .i64 7,.int .i64 i,.int .i64 0,.int .i64 0] 34))
   have H1:=Lib.hid o1
   clear o1 hr
   go_wp2_with (at_builtin;go_loud (refine wpList_append_rowG rfl _ _ 31 rfl 34 i0 _ Tryz.underlying31 Hi.out Hz0.out Hz1.out Hz2.out rfl (by decide) (by decide) (n:=i) (m:=2) (cs:=i4s (List.replicate i (11,1,0,1))) (ds:=[.int .i64 12,.int .i64 0,.int .i64 0,.int .i64 0,.int .i64 7,.int .i64 i,.int .i64 0,.int .i64 0]) (by rfl) (by rfl) (H1.out.rowG 0 rfl) (CellsAt.new _ [.int .i64 12,.int .i64 0,.int .i64 0,.int .i64 0,.int .i64 7,.int .i64 i,.int .i64 0,.int .i64 0] _ rfl) rfl (by simp [Value.oneCell']) (by omega) ?_))
   intro a9 c9 w9 k9 ch9 f9
   have o2:=Own.rowTurn H1.out k9 ch9 (fun x hx=>by simpa using f9 x hx)
   have H2:Hid (Own w w9 [RowGA 4 a9 c9 (i + 2) (i4s (alMain i)),CelA q [.int .i64 p,.int .i64 m,.int .i64 r,.int .i64 s]]):=Lib.hid (by unfold alMain;rw [mk_app];exact o2)
   clear o2 k9 ch9 f9 H1
   go_upto_region 11 with fail
   have ho0:=(H2.out.add (below_alloc1 w9 (.cells #[] 34)) (A:=RowGA 4 (some ⟨w9.heap.size,0,none⟩) 0 0 []) (F:=[w9.heap.size]) ⟨rfl,RowG.zero (by simp)⟩ (by intro x hx;simp at hx;omega))
   have HO:=Lib.hid ho0;clear ho0 H2
   go_wp2_with fail
   go_loopw [8,39] (fun sv iv wr=>∃ j:Nat,∃ ra cap,j ≤ y ∧ iv = .int .i64 j ∧ sv = .slice ra j cap ∧ Hid (Own w wr [RowGA 4 ra cap j (i4s (List.replicate j (12,0,0,0))),RowGA 4 a9 c9 (i + 2) (i4s (alMain i)),CelA q [.int .i64 p,.int .i64 m,.int .i64 r,.int .i64 s]])) (fun _ iv _=>y - (intOf iv).toNat)
   case atStart=>exact ⟨0,some ⟨w9.heap.size,0,none⟩,0,by omega,rfl,rfl,HO⟩
   case round =>
    obtain ⟨j,ra,cap,hj,rfl,rfl,hr⟩:=hrel
    by_cases hlt:j < y
    ·have hlt2:(j:Int) < (y:Int):=by omega
     have o1:=hr.out.step (below_alloc1 wr (.cells #[.int .i64 12,.int .i64 0,.int .i64 0,.int .i64 0] 34))
     have H1:=Lib.hid o1
     clear o1 hr
     go_wp2_with (at_builtin;go_loud (refine wpList_append_rowG rfl _ _ 31 rfl 34 i0 _ Tryz.underlying31 Hi.out Hz0.out Hz1.out Hz2.out rfl (by decide) (by decide) (n:=j) (m:=1) (cs:=i4s (List.replicate j (12,0,0,0))) (ds:=[.int .i64 12,.int .i64 0,.int .i64 0,.int .i64 0]) (by rfl) (by rfl) (H1.out.rowG 0 rfl) (CellsAt.new _ [.int .i64 12,.int .i64 0,.int .i64 0,.int .i64 0] _ rfl) rfl (by simp [Value.oneCell']) (by omega) ?_))
     intro a8 c8 w8 k8 ch8 f8
     have o2:=Own.rowTurn H1.out k8 ch8 (fun x hx=>by simpa using f8 x hx)
     have H2:Hid (Own w w8 [RowGA 4 a8 c8 (j + 1) (i4s (List.replicate (j + 1) (12,0,0,0))),RowGA 4 a9 c9 (i + 2) (i4s (alMain i)),CelA q [.int .i64 p,.int .i64 m,.int .i64 r,.int .i64 s]]):=Lib.hid (by rw [rep_succ];exact o2)
     clear o2 k8 ch8 f8 H1
     go_wp2
     exact ⟨⟨j + 1,a8,c8,by omega,by go_num,rfl,H2⟩,by simp [intOf];omega⟩
    ·obtain rfl:j = y:=by omega
     have hge:¬ ((j:Int) < (j:Int)):=by omega
     go_upto_region 15 with fail
     clear hlt hj hge HO
     have o1:=hr.out.step (below_alloc1 wr (.cells #[.int .i64 20,.int .i64 0,.int .i64 0,.int .i64 0,.int .i64 10,.int .i64 0,.int .i64 0,.int .i64 0] 34))
     have H1:=Lib.hid o1
     clear o1 hr
     go_wp2_with (at_builtin;go_loud (refine wpList_append_rowG rfl _ _ 31 rfl 34 i0 _ Tryz.underlying31 Hi.out Hz0.out Hz1.out Hz2.out rfl (by decide) (by decide) (n:=j) (m:=2) (cs:=i4s (List.replicate j (12,0,0,0))) (ds:=[.int .i64 20,.int .i64 0,.int .i64 0,.int .i64 0,.int .i64 10,.int .i64 0,.int .i64 0,.int .i64 0]) (by rfl) (by rfl) (H1.out.rowG 0 rfl) (CellsAt.new _ [.int .i64 20,.int .i64 0,.int .i64 0,.int .i64 0,.int .i64 10,.int .i64 0,.int .i64 0,.int .i64 0] _ rfl) rfl (by simp [Value.oneCell']) (by omega) ?_))
     intro a8 c8 w8 k8 ch8 f8
     have o2:=Own.rowTurn H1.out k8 ch8 (fun x hx=>by simpa using f8 x hx)
     have H2:Hid (Own w w8 [RowGA 4 a8 c8 (j + 2) (i4s (alChild j)),RowGA 4 a9 c9 (i + 2) (i4s (alMain i)),CelA q [.int .i64 p,.int .i64 m,.int .i64 r,.int .i64 s]]):=Lib.hid (by unfold alChild;rw [mk_app];exact o2)
     obtain ⟨x0,-⟩:=o2.cel 2 rfl 0 _ rfl
     obtain ⟨x1,-⟩:=o2.cel 2 rfl 1 _ rfl
     obtain ⟨x2,-⟩:=o2.cel 2 rfl 2 _ rfl
     obtain ⟨x3,-⟩:=o2.cel 2 rfl 3 _ rfl
     clear o2 k8 ch8 f8 H1
     go_wp2_with fail
     refine (KS.out _).mono ?_
     rintro e w3 ⟨rfl,hb⟩
     have o4:=((H2.out.step hb).alloc [.int .i64 (1 + (a:Int)),.int .i64 (1 + (b:Int)),.int .i64 (2 + (c:Int)),.int .i64 (1 + (d:Int))] 26 (b:=w3.heap.size) rfl)
     obtain ⟨f0,g0⟩:=o4.cel 0 rfl 0 _ rfl
     obtain ⟨f1,g1⟩:=o4.cel 0 rfl 1 _ rfl
     have o5:=(o4.set 0 (.int .i64 1)).set 1 (.int .i64 1)
     have H5:=Lib.hid o5
     clear o4 o5 hb H2 KS x0 x1 x2 x3
     go_upto_region 17 with fail
     generalize w3.alloc (.cells [.int .i64 (1 + (a:Int)),.int .i64 (1 + (b:Int)),.int .i64 (2 + (c:Int)),.int .i64 (1 + (d:Int))].toArray 26) = w4 at *
     generalize w3.heap.size = qd at *
     go_upto_region 18 with fail
     clear f0 g0 f1 g1
     obtain ⟨hc5,hd5⟩:=HCD.out
     generalize (w4.setCell ⟨qd,0,none⟩ (.int .i64 1)).setCell ⟨qd,1,none⟩ (.int .i64 1) = w5 at *
     have HSB:Hid (∀ (wx:World) (As:List Asr) (k:Nat),Own w wx As → As[k]? = some (CelA qd [.int .i64 1,.int .i64 1,.int .i64 (2 + (c:Int)),.int .i64 (1 + (d:Int))]) → wx.cell? ⟨qd,0,none⟩ = some (.int .i64 1) ∧ wx.cell? ⟨qd,1,none⟩ = some (.int .i64 1) ∧ wx.cell? ⟨qd,2,none⟩ = some (.int .i64 (2 + (c:Int))) ∧ wx.cell? ⟨qd,3,none⟩ = some (.int .i64 (1 + (d:Int)))) :=
      Lib.hid (fun wx As k h hk=>⟨(h.cel k hk 0 _ rfl).1,(h.cel k hk 1 _ rfl).1,(h.cel k hk 2 _ rfl).1,(h.cel k hk 3 _ rfl).1⟩)
     go_cut [10] (fun sv wx=>∃ bs sp,sv = .pointer (some ⟨bs,0,none⟩) ∧ Hid (Own w wx (SchA bs sp (alX0 i j c d) :: SrcA sp 0 (orS alNum []) .nilFunc :: [])))
     case first =>
      have o0:Own w w5.drew [CelA qd [.int .i64 1,.int .i64 1,.int .i64 (2 + (c:Int)),.int .i64 (1 + (d:Int))],RowGA 4 a8 c8 (j + 2) (i4s (alChild j)),RowGA 4 a9 c9 (i + 2) (i4s (alMain i)),CelA q [.int .i64 p,.int .i64 m,.int .i64 r,.int .i64 s]]:=H5.out.step (below_drew1 w5)
      refine wp_region_lexH (fun wx=>wx.cell? ⟨qd,0,none⟩ = some (.int .i64 1) ∧ wx.cell? ⟨qd,1,none⟩ = some (.int .i64 1) ∧ wx.cell? ⟨qd,2,none⟩ = some (.int .i64 (2 + (c:Int))) ∧ wx.cell? ⟨qd,3,none⟩ = some (.int .i64 (1 + (d:Int)))) 9 (Array.replicate 9 false) (by kernel_rfl) (by kernel_rfl) ?_
      generalize w5.drew = w6 at *
      clear H5
      refine wpAnyH_seg 0 2 _ #[true,true,false,false,false,false,false,false,false] 7 (by kernel_rfl) noPanic_put (HSB.out _ _ 0 o0 rfl) (by kernel_rfl) ?_
      simp only [List.take_succ_cons,List.take_zero,List.drop_zero]
      repeat ((first | refine wpSegH_no (by rfl) ?_ | (refine wpSegH_yes (by rfl) ?_;apply Exists.intro;apply And.intro;(· (intro wx hS;(try dsimp only at hS);go_simp;first | done | with_reducible rfl))));simp only [Act.put,List.setIfInBounds_toArray,List.set_cons_zero,List.set_cons_succ])
      refine wpSegH_nil ?_
      refine wpAnyH_seg 4 1 _ #[true,true,false,false,true,false,false,false,false] 6 (by kernel_rfl) noPanic_put (HSB.out _ _ 0 o0 rfl) (by kernel_rfl) ?_
      simp only [List.take_succ_cons,List.take_zero,List.drop_succ_cons,List.drop_zero]
      repeat ((first | refine wpSegH_no (by rfl) ?_ | (refine wpSegH_yes (by rfl) ?_;apply Exists.intro;apply And.intro;(· (intro wx hS;(try dsimp only at hS);go_simp;first | done | with_reducible rfl))));simp only [Act.put,List.setIfInBounds_toArray,List.set_cons_zero,List.set_cons_succ])
      refine wpSegH_nil ?_
      refine wpAnyH_two 2 5 _ #[true,true,true,false,true,false,false,false,false] #[true,true,false,false,true,true,false,false,false] 5 (by kernel_rfl) (fun K hK=>?_) (fun K hK=>?_)
      ·skip
       have HKK:=Lib.hid hK
       clear hK
       simp only [List.drop_succ_cons,List.drop_zero]
       refine headH_mk (by rfl) ?_
       go_simp
       have o1:=o0.alloc [.slice a9 (i + 2) c9,.slice a8 (j + 2) c8] 31 rfl
       refine HKK.out _ _ (HSB.out _ _ 1 o1 rfl) ?_
       clear HKK K
       generalize w6.alloc (.cells [.slice a9 (i + 2) c9,.slice a8 (j + 2) c8].toArray 31) = wa1 at *
       generalize w6.heap.size = cf at *
       refine wpAnyH_seg 3 1 _ #[true,true,true,true,true,false,false,false,false] 4 (by kernel_rfl) noPanic_put (HSB.out _ _ 1 o1 rfl) (by kernel_rfl) ?_
       simp only [List.take_succ_cons,List.take_zero,List.drop_succ_cons,List.drop_zero]
       repeat ((first | refine wpSegH_no (by rfl) ?_ | (refine wpSegH_yes (by rfl) ?_;apply Exists.intro;apply And.intro;(· (intro wx hS;(try dsimp only at hS);go_simp;first | done | with_reducible rfl))));simp only [Act.put,List.setIfInBounds_toArray,List.set_cons_zero,List.set_cons_succ])
       refine wpSegH_nil ?_
       obtain ⟨wn,hmk,hmr,hmB⟩:=al_nums wa1
       have o2:=o1.add hmB (A:=RowGA 1 (some ⟨wa1.heap.size,0,none⟩) 4000 4000 (numc alNum)) (F:=[wa1.heap.size]) ⟨rfl,hmr⟩ (by intro x hx;simp at hx;omega)
       refine wpAnyH_one 5 _ #[true,true,true,true,true,true,false,false,false] 3 (by kernel_rfl) (fun K hK=>?_)
       have HKK:=Lib.hid hK
       clear hK
       simp only [List.drop_succ_cons,List.drop_zero]
       refine headH_mk (by rfl) ?_
       go_simp
       refine HKK.out _ _ (HSB.out _ _ 2 o2 rfl) ?_
       clear HKK K
       clear hmk hmr hmB
       generalize wa1.heap.size = qn at *
       have hon:=onew_any o2 (some ⟨qn,0,none⟩) 4000 alNum (o2.rowG 0 rfl).cells (fun e=>by cases e) (by rw [alNum_len];omega)
       rw [alNum_len] at hon
       refine wpAnyH_one 6 _ #[true,true,true,true,true,true,true,false,false] 2 (by kernel_rfl) (fun K hK=>?_)
       have HKK:=Lib.hid hK
       clear hK
       simp only [List.drop_succ_cons,List.drop_zero]
       refine headH_mk (by rfl) ?_
       go_simp
       refine hon.mono ?_
       rintro r wo ⟨sp,rfl,o3,hbo⟩
       clear hon hbo
       refine HKK.out _ _ (HSB.out _ _ 3 o3 rfl) ?_
       clear HKK K
       refine wpAnyH_one 7 _ #[true,true,true,true,true,true,true,true,false] 1 (by kernel_rfl) (fun K hK=>?_)
       have HKK:=Lib.hid hK
       clear hK
       simp only [List.drop_succ_cons,List.drop_zero]
       refine headH_mk (by rfl) ?_
       go_simp
       refine (snew_any o3 (some ⟨cf,0,none⟩) 2 [(a9,c9),(a8,c8)] (alFs i j) none 0 [] 0 none 0 [] (al_prog (n:=i) (y:=j) (o3.rowG 5 rfl).cells (o3.rowG 5 rfl).none0 (o3.rowG 4 rfl).cells (o3.rowG 4 rfl).none0 (mk_cells (o3.cel 2 rfl)) (by omega) (by omega)) (by decide) 1 1 (2 + (c:Int)) (1 + (d:Int)) (by omega) (by omega) sp).mono ?_
       rintro r wz ⟨bs,rfl,oz⟩
       refine HKK.out _ _ (HSB.out _ _ 4 oz rfl) ?_
       clear HKK K
       refine wpAnyH_seg 8 1 _ #[true,true,true,true,true,true,true,true,true] 0 (by kernel_rfl) noPanic_put (HSB.out _ _ 4 oz rfl) (by kernel_rfl) ?_
       simp only [List.take_succ_cons,List.take_zero,List.drop_succ_cons,List.drop_zero]
       repeat ((first | refine wpSegH_no (by rfl) ?_ | (refine wpSegH_yes (by rfl) ?_;apply Exists.intro;apply And.intro;(· (intro wx hS;(try dsimp only at hS);go_simp;first | done | with_reducible rfl))));simp only [Act.put,List.setIfInBounds_toArray,List.set_cons_zero,List.set_cons_succ])
       refine wpSegH_nil ?_
       refine wpAnyH_done (by kernel_rfl) (NoPanic.normal ?_) _
       have HZ:=Lib.hid (al_keep oz 0 rfl)
       clear oz
       go_wp2_with fail
       go_meet
       exact ⟨bs,sp,rfl,HZ⟩
      ·skip
       obtain ⟨wn,hmk,hmr,hmB⟩:=al_nums w6
       have o1:=o0.add hmB (A:=RowGA 1 (some ⟨w6.heap.size,0,none⟩) 4000 4000 (numc alNum)) (F:=[w6.heap.size]) ⟨rfl,hmr⟩ (by intro x hx;simp at hx;omega)
       have HKK:=Lib.hid hK
       clear hK
       simp only [List.drop_succ_cons,List.drop_zero]
       refine headH_mk (by rfl) ?_
       go_simp
       refine HKK.out _ _ (HSB.out _ _ 1 o1 rfl) ?_
       clear HKK K
       clear hmk hmr hmB
       generalize w6.heap.size = qn at *
       refine wpAnyH_two 2 6 _ #[true,true,true,false,true,true,false,false,false] #[true,true,false,false,true,true,true,false,false] 4 (by kernel_rfl) (fun K hK=>?_) (fun K hK=>?_)
       ·skip
        have HKK:=Lib.hid hK
        clear hK
        simp only [List.drop_succ_cons,List.drop_zero]
        refine headH_mk (by rfl) ?_
        go_simp
        have o2:=o1.alloc [.slice a9 (i + 2) c9,.slice a8 (j + 2) c8] 31 rfl
        refine HKK.out _ _ (HSB.out _ _ 2 o2 rfl) ?_
        clear HKK K
        generalize wn.alloc (.cells [.slice a9 (i + 2) c9,.slice a8 (j + 2) c8].toArray 31) = wa2 at *
        generalize wn.heap.size = cf at *
        refine wpAnyH_seg 3 1 _ #[true,true,true,true,true,true,false,false,false] 3 (by kernel_rfl) noPanic_put (HSB.out _ _ 2 o2 rfl) (by kernel_rfl) ?_
        simp only [List.take_succ_cons,List.take_zero,List.drop_succ_cons,List.drop_zero]
        repeat ((first | refine wpSegH_no (by rfl) ?_ | (refine wpSegH_yes (by rfl) ?_;apply Exists.intro;apply And.intro;(· (intro wx hS;(try dsimp only at hS);go_simp;first | done | with_reducible rfl))));simp only [Act.put,List.setIfInBounds_toArray,List.set_cons_zero,List.set_cons_succ])
        refine wpSegH_nil ?_
        have hon:=onew_any o2 (some ⟨qn,0,none⟩) 4000 alNum (o2.rowG 1 rfl).cells (fun e=>by cases e) (by rw [alNum_len];omega)
        rw [alNum_len] at hon
        refine wpAnyH_one 6 _ #[true,true,true,true,true,true,true,false,false] 2 (by kernel_rfl) (fun K hK=>?_)
        have HKK:=Lib.hid hK
        clear hK
        simp only [List.drop_succ_cons,List.drop_zero]
        refine headH_mk (by rfl) ?_
        go_simp
        refine hon.mono ?_
        rintro r wo ⟨sp,rfl,o3,hbo⟩
        clear hon hbo
        refine HKK.out _ _ (HSB.out _ _ 3 o3 rfl) ?_
        clear HKK K
        refine wpAnyH_one 7 _ #[true,true,true,true,true,true,true,true,false] 1 (by kernel_rfl) (fun K hK=>?_)
        have HKK:=Lib.hid hK
        clear hK
        simp only [List.drop_succ_cons,List.drop_zero]
        refine headH_mk (by rfl) ?_
        go_simp
        refine (snew_any o3 (some ⟨cf,0,none⟩) 2 [(a9,c9),(a8,c8)] (alFs i j) none 0 [] 0 none 0 [] (al_prog (n:=i) (y:=j) (o3.rowG 5 rfl).cells (o3.rowG 5 rfl).none0 (o3.rowG 4 rfl).cells (o3.rowG 4 rfl).none0 (mk_cells (o3.cel 1 rfl)) (by omega) (by omega)) (by decide) 1 1 (2 + (c:Int)) (1 + (d:Int)) (by omega) (by omega) sp).mono ?_
        rintro r wz ⟨bs,rfl,oz⟩
        refine HKK.out _ _ (HSB.out _ _ 4 oz rfl) ?_
        clear HKK K
        refine wpAnyH_seg 8 1 _ #[true,true,true,true,true,true,true,true,true] 0 (by kernel_rfl) noPanic_put (HSB.out _ _ 4 oz rfl) (by kernel_rfl) ?_
        simp only [List.take_succ_cons,List.take_zero,List.drop_succ_cons,List.drop_zero]
        repeat ((first | refine wpSegH_no (by rfl) ?_ | (refine wpSegH_yes (by rfl) ?_;apply Exists.intro;apply And.intro;(· (intro wx hS;(try dsimp only at hS);go_simp;first | done | with_reducible rfl))));simp only [Act.put,List.setIfInBounds_toArray,List.set_cons_zero,List.set_cons_succ])
        refine wpSegH_nil ?_
        refine wpAnyH_done (by kernel_rfl) (NoPanic.normal ?_) _
        have HZ:=Lib.hid (al_keep oz 0 rfl)
        clear oz
        go_wp2_with fail
        go_meet
        exact ⟨bs,sp,rfl,HZ⟩
       ·skip
        have hon:=onew_any o1 (some ⟨qn,0,none⟩) 4000 alNum (o1.rowG 0 rfl).cells (fun e=>by cases e) (by rw [alNum_len];omega)
        rw [alNum_len] at hon
        have HKK:=Lib.hid hK
        clear hK
        simp only [List.drop_succ_cons,List.drop_zero]
        refine headH_mk (by rfl) ?_
        go_simp
        refine hon.mono ?_
        rintro r wo ⟨sp,rfl,o2,hbo⟩
        clear hon hbo
        refine HKK.out _ _ (HSB.out _ _ 2 o2 rfl) ?_
        clear HKK K
        refine wpAnyH_one 2 _ #[true,true,true,false,true,true,true,false,false] 3 (by kernel_rfl) (fun K hK=>?_)
        have HKK:=Lib.hid hK
        clear hK
        simp only [List.drop_succ_cons,List.drop_zero]
        refine headH_mk (by rfl) ?_
        go_simp
        have o3:=o2.alloc [.slice a9 (i + 2) c9,.slice a8 (j + 2) c8] 31 rfl
        refine HKK.out _ _ (HSB.out _ _ 3 o3 rfl) ?_
        clear HKK K
        generalize wo.alloc (.cells [.slice a9 (i + 2) c9,.slice a8 (j + 2) c8].toArray 31) = wa3 at *
        generalize wo.heap.size = cf at *
        refine wpAnyH_seg 3 1 _ #[true,true,true,true,true,true,true,false,false] 2 (by kernel_rfl) noPanic_put (HSB.out _ _ 3 o3 rfl) (by kernel_rfl) ?_
        simp only [List.take_succ_cons,List.take_zero,List.drop_succ_cons,List.drop_zero]
        repeat ((first | refine wpSegH_no (by rfl) ?_ | (refine wpSegH_yes (by rfl) ?_;apply Exists.intro;apply And.intro;(· (intro wx hS;(try dsimp only at hS);go_simp;first | done | with_reducible rfl))));simp only [Act.put,List.setIfInBounds_toArray,List.set_cons_zero,List.set_cons_succ])
        refine wpSegH_nil ?_
        refine wpAnyH_one 7 _ #[true,true,true,true,true,true,true,true,false] 1 (by kernel_rfl) (fun K hK=>?_)
        have HKK:=Lib.hid hK
        clear hK
        simp only [List.drop_succ_cons,List.drop_zero]
        refine headH_mk (by rfl) ?_
        go_simp
        refine (snew_any o3 (some ⟨cf,0,none⟩) 2 [(a9,c9),(a8,c8)] (alFs i j) none 0 [] 0 none 0 [] (al_prog (n:=i) (y:=j) (o3.rowG 5 rfl).cells (o3.rowG 5 rfl).none0 (o3.rowG 4 rfl).cells (o3.rowG 4 rfl).none0 (mk_cells (o3.cel 0 rfl)) (by omega) (by omega)) (by decide) 1 1 (2 + (c:Int)) (1 + (d:Int)) (by omega) (by omega) sp).mono ?_
        rintro r wz ⟨bs,rfl,oz⟩
        refine HKK.out _ _ (HSB.out _ _ 4 oz rfl) ?_
        clear HKK K
        refine wpAnyH_seg 8 1 _ #[true,true,true,true,true,true,true,true,true] 0 (by kernel_rfl) noPanic_put (HSB.out _ _ 4 oz rfl) (by kernel_rfl) ?_
        simp only [List.take_succ_cons,List.take_zero,List.drop_succ_cons,List.drop_zero]
        repeat ((first | refine wpSegH_no (by rfl) ?_ | (refine wpSegH_yes (by rfl) ?_;apply Exists.intro;apply And.intro;(· (intro wx hS;(try dsimp only at hS);go_simp;first | done | with_reducible rfl))));simp only [Act.put,List.setIfInBounds_toArray,List.set_cons_zero,List.set_cons_succ])
        refine wpSegH_nil ?_
        refine wpAnyH_done (by kernel_rfl) (NoPanic.normal ?_) _
        have HZ:=Lib.hid (al_keep oz 1 rfl)
        clear oz
        go_wp2_with fail
        go_meet
        exact ⟨bs,sp,rfl,HZ⟩
     case rest =>
      obtain ⟨bs,sp,rfl,HZ⟩:=hcut
      clear HSB H5
      have hST:AlOk i j c d:=by
       obtain ⟨e,h1,h2⟩:=HNM.out
       rw [e]
       exact al_all h1 h2 hc5 hd5
      have HST:=Lib.hid hST
      clear hST
      go_wp2_with fail
      go_loopw [63] (fun kv wr=>∃ k:Nat,k ≤ 4000 ∧ kv = .int .i64 k ∧ Hid (Own w wr (SchA bs sp (itM (alX0 i j c d) (alNum.take k)) :: SrcA sp 0 (orS alNum (alNum.take k)) .nilFunc :: []))) (fun kv _=>4000 - (intOf kv).toNat)
      case atStart=>exact ⟨0,by omega,rfl,HZ⟩
      case round =>
       obtain ⟨k,hk,rfl,hr⟩:=hrel
       clear HZ
       by_cases hlt:k < 4000
       ·have hlt2:(k:Int) < 4000:=by omega
        have HX:=Lib.hid (als_step HST.out hlt hr.out)
        clear hr
        go_wp2_with fail
        refine HX.out.mono ?_
        rintro r w2 ⟨kk,mm,gg,rn,ra,rc,rfl,ho⟩
        have HF:=Lib.hid (ho.step (below_alloc1 w2 (.cells #[.int .i64 kk,.int .i64 mm,.int .i64 gg,.slice ra rn rc] 46)))
        clear ho HX
        go_wp2
        exact ⟨⟨k + 1,by omega,by go_num,HF⟩,by simp [intOf];omega⟩
       ·obtain rfl:k = 4000:=by omega
        obtain ⟨L,T,Q,hs,hw,hwf,hov,hout,hl⟩:=als_end HST.out hr.out
        have HS:=Lib.hid hs
        have ho:=out_w hw hwf
        rw [hout] at ho
        have HOUT:=Lib.hid ho
        have HW:=Lib.hid (sworld_any hs)
        have HT:Hid (∀ (wx:World),Below wr.heap.size wr wx → Calls Tryz.prog 16 #[.pointer (some ⟨bs,0,none⟩)] wx fun r w'=>r = .returned (.int .i64 0) ∧ Below w.heap.size w w'):=Lib.hid (fun wx hb=>by
         have h:=stat_any (HS.out.step hb) hl
         rw [hov] at h
         exact h.mono (fun r w' hh=>⟨hh.1,below_on (HS.out.step hb).bel hh.2⟩))
        clear hr hs hw hwf hov hout hl ho
        have hge:¬ (((4000:Nat):Int) < 4000):=by omega
        go_upto_region 25 with fail
        clear hge hlt hk
        go_wp2_with fail
        refine HW.out.mono ?_
        rintro r w2 ⟨rfl,rfl⟩
        go_wp2_with fail
        refine HOUT.out.mono ?_
        rintro r w3 ⟨a',c',rfl,-,-,hb⟩
        have HX:=Lib.hid (HT.out _ hb)
        clear hb HT HOUT HW
        go_wp2_with fail
        refine HX.out.mono ?_
        rintro r w4 ⟨rfl,hb⟩
        have HB:=Lib.hid hb
        clear hb HX
        go_wp2
        go_ret
        exact ⟨rfl,HB.out⟩
end Go.Proofs.YtodjgipiomnnfaaGreat.schedAlone
