/-
  Texts put together: WdTry, WdClose, SegP, WdAsk, WFr3, WdPure, WdPure2, WdOth, WdUnl, WdDo, SegL, WdDo2, WdLets, WdKeeps, WdExec, WdEmit, WdRand, WdLock.
-/
import Derived.Test.YtphfaekpckbepaaGreatMp3
import Derived.Test.YtphfaekpckbepaaGreatMp2
import Derived.Deep.CutBlock
set_option maxRecDepth 100000
set_option maxHeartbeats 16000000
set_option linter.unusedSimpArgs false
set_option linter.unusedVariables false
open Go Go.RowKit
set_option linter.unusedVariables false
namespace Go.Proofs.YtphfaekpckbepaaGreat
structure TryOk (W:Wd) (rd:List Int) (g:Nat) (x:In4) (place:Int):Prop where
 ix:CasX W x
 k:W.ks.length ≤ 1000
 j:0 ≤ place ∧ place < ((W.cas x).length:Int)
 s:((W.cas x).getD place.toNat (1,0,0)).1 = 1 → SendOk W rd g x ((W.cas x).getD place.toNat (1,0,0)) place
 r:((W.cas x).getD place.toNat (1,0,0)).1 ≠ 1 → RecvOk W rd g x ((W.cas x).getD place.toNat (1,0,0)) place
theorem dtry_any {w0 w:World} {p:Nat} {T:List Value} {d:Dq} {W:Wd} {rd:List Int} {R:List Asr} (h:DAt w0 w p T d W rd R) (hg:d.g < W.gs.length) (hm:1 ≤ (W.g d.g).n ∧ (W.g d.g).n ≤ 16) (place:Int) (ok:TryOk W rd d.g d.x place) (hr:rd.length ≤ 1000) :
  Calls Tryz.prog 130 #[.pointer (some ⟨d.q,0,none⟩),.int .i64 place] w fun r w'=>TPost w0 p T d R W rd (tryM W rd d.g d.x place) r w':=by
 obtain ⟨D,ra,rc,hf,h⟩:=h
 obtain ⟨hx,hk,hj,hs,hrv⟩:=ok
 obtain ⟨j,rfl,hj8⟩:=nat_of (n:=(W.cas d.x).length) hj
 obtain ⟨c,hc⟩:∃ c,c = (W.cas d.x).getD j (1,0,0):=⟨_,rfl⟩
 rw [Int.toNat_natCast,← hc] at hs hrv
 have hcj:(W.cas d.x)[j] = c:=by rw [hc,List.getD_eq_getElem?_getD,List.getElem?_eq_getElem hj8];rfl
 have e:tryM W rd d.g d.x (j:Int) = (if c.1 = 1 then sendM W rd d.g d.x c (j:Int) else recvM W rd d.g d.x c (j:Int)):=by
  unfold tryM;simp only [Int.toNat_natCast];rw [← hc]
 rw [e]
 generalize hoe:(if c.1 = 1 then sendM W rd d.g d.x c (j:Int) else recvM W rd d.g d.x c (j:Int)) = o
 have HOE:=Lib.hid hoe
 have HSn:=Lib.hid (fun w (h:DAt w0 w p T d W rd R) (h1:c.1 = 1)=>dsend_any h hg hm c (j:Int) (hs h1) hr)
 have HRv:=Lib.hid (fun w (h:DAt w0 w p T d W rd R) (h1:c.1 ≠ 1)=>drecv_any h c (j:Int) (hrv h1) hr)
 obtain ⟨c0,c1,c2⟩:=c
 have HGE:=Lib.hid hcj
 have HCa:=Lib.hid (fun wx Y (ho:Own w0 wx (wparts p W D T ++ Y))=>cases_any ho hf d.x hx hk)
 have H:=Lib.hid h
 have HF:=Lib.hid hf
 have j0:(0:Int) ≤ (j:Int):=by omega
 have j8:(j:Int) < ((W.cas d.x).length:Int):=by omega
 have SB:∀ (wx:World) (Z:List Asr),Own w0 wx (wparts p W D T ++ (CelA d.q (dcells p (d.g:Int) d.x d.th d.dr d.go ra rd.length rc) :: Z)) →
   wx.cell? ⟨d.q,0,none⟩ = some (.pointer (some ⟨p,0,none⟩)) ∧ wx.cell? ⟨d.q,2,none⟩ = some (.int .i64 d.x.1) ∧ wx.cell? ⟨d.q,3,none⟩ = some (.int .i64 d.x.2.1) ∧ wx.cell? ⟨d.q,4,none⟩ = some (.int .i64 d.x.2.2.1) ∧ wx.cell? ⟨d.q,5,none⟩ = some (.int .i64 d.x.2.2.2):=by
  intro wx Z ho
  have hc:=ho.cel 10 rfl
  exact ⟨(hc 0 _ rfl).1,(hc 2 _ rfl).1,(hc 3 _ rfl).1,(hc 4 _ rfl).1,(hc 5 _ rfl).1⟩
 have HSB:=Lib.hid SB
 clear h hf hx hk hj hs hrv hc hcj e hoe SB hg hm hr
 go_enter Tryz.func130,Tryz.ntmps130
 go_upto_region 1 with fail
 go_cut [5] (fun s5 wx=>∃ b5,s5 = .pointer (some ⟨b5,0,none⟩) ∧ Own w0 wx (wparts p W D T ++ (CelA b5 [.int .i64 c0,.int .i64 c1,.int .i64 c2] :: CelA d.q (dcells p (d.g:Int) d.x d.th d.dr d.go ra rd.length rc) :: RowGA 1 ra rc rd.length (intc rd) :: R)))
 case first =>
  have o1:=H.out.step (below_drew1 w)
  refine wp_region_lexZ (fun wx=>wx.cell? ⟨d.q,0,none⟩ = some (.pointer (some ⟨p,0,none⟩)) ∧ wx.cell? ⟨d.q,2,none⟩ = some (.int .i64 d.x.1) ∧ wx.cell? ⟨d.q,3,none⟩ = some (.int .i64 d.x.2.1) ∧ wx.cell? ⟨d.q,4,none⟩ = some (.int .i64 d.x.2.2.1) ∧ wx.cell? ⟨d.q,5,none⟩ = some (.int .i64 d.x.2.2.2)) 14 (Array.replicate 14 false) (by kernel_rfl) (by kernel_rfl) ?_
  refine wpAnyZ_seg 0 8 _ #[true,true,true,true,true,true,true,true,false,false,false,false,false,false] 6 (by kernel_rfl) noPanic_put (HSB.out _ _ o1) (by kernel_rfl) ?_
  simp only [List.take_succ_cons,List.take_zero,List.drop_zero]
  repeat ((first | refine wpSegH_no (by rfl) ?_ | (refine wpSegH_yes (by rfl) ?_;apply Exists.intro;apply And.intro;(· (intro wx hS;(try dsimp only at hS);go_simp;first | done | with_reducible rfl))));simp only [Act.put,List.setIfInBounds_toArray,List.set_cons_zero,List.set_cons_succ])
  refine wpSegH_nil ?_
  refine wpAnyZ_seg 9 1 _ #[true,true,true,true,true,true,true,true,false,true,false,false,false,false] 5 (by kernel_rfl) noPanic_put (HSB.out _ _ o1) (by kernel_rfl) ?_
  simp only [List.take_succ_cons,List.take_zero,List.drop_succ_cons,List.drop_zero]
  repeat ((first | refine wpSegH_no (by rfl) ?_ | (refine wpSegH_yes (by rfl) ?_;apply Exists.intro;apply And.intro;(· (intro wx hS;(try dsimp only at hS);go_simp;first | done | with_reducible rfl))));simp only [Act.put,List.setIfInBounds_toArray,List.set_cons_zero,List.set_cons_succ])
  refine wpSegH_nil ?_
  refine wpAnyZ_two 8 12 _ #[true,true,true,true,true,true,true,true,true,true,false,false,false,false] #[true,true,true,true,true,true,true,true,false,true,false,false,true,false] 4 (by kernel_rfl) (fun K hK=>?_) (fun K hK=>?_)
  ·skip
   have HKK:=Lib.hid hK
   clear hK
   simp only [List.drop_succ_cons,List.drop_zero]
   refine headH_mk (by rfl) ?_
   go_simp
   refine (HCa.out _ _ o1).mono ?_
   rintro r w3 ⟨a,ca,Z,rfl,hP,hl,o3,-⟩
   obtain ⟨cbk,co,rfl,y0,y1,y2⟩:=(hP.cells o3 2 0 rfl rfl).wt j (by omega)
   rw [HGE.out] at y0 y1 y2
   have o4:=o3.drop
   refine HKK.out _ _ (HSB.out _ _ o4) ?_
   clear HKK K
   refine wpAnyZ_seg 10 1 _ #[true,true,true,true,true,true,true,true,true,true,true,false,false,false] 3 (by kernel_rfl) noPanic_put (HSB.out _ _ o4) (by kernel_rfl) ?_
   simp only [List.take_succ_cons,List.take_zero,List.drop_succ_cons,List.drop_zero]
   repeat ((first | refine wpSegH_no (by rfl) ?_ | (refine wpSegH_yes (by rfl) ?_;apply Exists.intro;apply And.intro;(· (intro wx hS;(try dsimp only at hS);go_simp;first | done | with_reducible rfl))));simp only [Act.put,List.setIfInBounds_toArray,List.set_cons_zero,List.set_cons_succ])
   refine wpSegH_nil ?_
   refine wpAnyZ_two 11 12 _ #[true,true,true,true,true,true,true,true,true,true,true,true,false,false] #[true,true,true,true,true,true,true,true,true,true,true,false,true,false] 2 (by kernel_rfl) (fun K hK=>?_) (fun K hK=>?_)
   ·skip
    have HKK:=Lib.hid hK
    clear hK
    simp only [List.drop_succ_cons,List.drop_zero]
    refine headH_mk (by rfl) ?_
    go_simp
    refine HKK.out _ _ (HSB.out _ _ o4) ?_
    clear HKK K
    have o5:=o4.alloc [.int .i64 0,.int .i64 0,.int .i64 0] 119 (b:=w3.heap.size) rfl
    refine wpAnyZ_one 12 _ #[true,true,true,true,true,true,true,true,true,true,true,true,true,false] 1 (by kernel_rfl) (fun K hK=>?_)
    have HKK:=Lib.hid hK
    clear hK
    simp only [List.drop_succ_cons,List.drop_zero]
    refine headH_mk (by rfl) ?_
    go_simp
    refine HKK.out _ _ (HSB.out _ _ o5.drop) ?_
    clear HKK K
    have HOx:=Lib.hid ((o4.alloc [.int .i64 c0,.int .i64 c1,.int .i64 c2] 119 (b:=w3.heap.size) rfl).mid)
    refine wpAnyZ_end 13 _ #[true,true,true,true,true,true,true,true,true,true,true,true,true,true] (by kernel_rfl) (fun K hK=>?_)
    have HKK:=Lib.hid hK
    clear hK
    simp only [List.drop_succ_cons,List.drop_zero]
    refine headH_mk (by rfl) ?_
    go_simp
    refine HKK.out _ _ (NoPanic.normal ?_)
    clear HKK K
    go_wp2_with fail
    go_meet
    exact ⟨_,rfl,HOx.out⟩
   ·skip
    have HKK:=Lib.hid hK
    clear hK
    simp only [List.drop_succ_cons,List.drop_zero]
    refine headH_mk (by rfl) ?_
    go_simp
    have o5:=o4.alloc [.int .i64 0,.int .i64 0,.int .i64 0] 119 (b:=w3.heap.size) rfl
    refine HKK.out _ _ (HSB.out _ _ o5.drop) ?_
    clear HKK K
    have y0':∀ q,(w3.alloc q).cell? ⟨cbk,co + j * 3,none⟩ = some (.int .i64 c0):=fun q=>cell_below y0 (below_alloc1 w3 q)
    have y1':∀ q,(w3.alloc q).cell? ⟨cbk,co + j * 3 + 1,none⟩ = some (.int .i64 c1):=fun q=>cell_below y1 (below_alloc1 w3 q)
    have y2':∀ q,(w3.alloc q).cell? ⟨cbk,co + j * 3 + 2,none⟩ = some (.int .i64 c2):=fun q=>cell_below y2 (below_alloc1 w3 q)
    refine wpAnyZ_one 11 _ #[true,true,true,true,true,true,true,true,true,true,true,true,true,false] 1 (by kernel_rfl) (fun K hK=>?_)
    have HKK:=Lib.hid hK
    clear hK
    simp only [List.drop_succ_cons,List.drop_zero]
    refine headH_mk (by rfl) ?_
    go_simp
    refine HKK.out _ _ (HSB.out _ _ o5.drop) ?_
    clear HKK K
    have HOx:=Lib.hid ((o4.alloc [.int .i64 c0,.int .i64 c1,.int .i64 c2] 119 (b:=w3.heap.size) rfl).mid)
    refine wpAnyZ_end 13 _ #[true,true,true,true,true,true,true,true,true,true,true,true,true,true] (by kernel_rfl) (fun K hK=>?_)
    have HKK:=Lib.hid hK
    clear hK
    simp only [List.drop_succ_cons,List.drop_zero]
    refine headH_mk (by rfl) ?_
    go_simp
    refine HKK.out _ _ (NoPanic.normal ?_)
    clear HKK K
    go_wp2_with fail
    go_meet
    exact ⟨_,rfl,HOx.out⟩
  ·skip
   have o5:=(o1.alloc [.int .i64 0,.int .i64 0,.int .i64 0] 119 (b:=w.heap.size) rfl).mid
   have hcb:=World.block_lt_of_cell? _ _ (o5.cel 10 rfl 0 _ rfl).1
   have HKK:=Lib.hid hK
   clear hK
   simp only [List.drop_succ_cons,List.drop_zero]
   refine headH_mk (by rfl) ?_
   go_simp
   refine HKK.out _ _ (HSB.out _ _ o5.unmid.drop) ?_
   clear HKK K
   refine wpAnyZ_one 8 _ #[true,true,true,true,true,true,true,true,true,true,false,false,true,false] 3 (by kernel_rfl) (fun K hK=>?_)
   have HKK:=Lib.hid hK
   clear hK
   simp only [List.drop_succ_cons,List.drop_zero]
   refine headH_mk (by rfl) ?_
   go_simp
   refine (HCa.out _ _ o5).mono ?_
   rintro r w3 ⟨a,ca,Z,rfl,hP,hl,o3,-⟩
   obtain ⟨cbk,co,rfl,y0,y1,y2⟩:=(hP.cells o3 2 0 rfl rfl).wt j (by omega)
   rw [HGE.out] at y0 y1 y2
   have o6:=o3.drop
   refine HKK.out _ _ (HSB.out _ _ o6.unmid.drop) ?_
   clear HKK K
   refine wpAnyZ_seg 10 1 _ #[true,true,true,true,true,true,true,true,true,true,true,false,true,false] 2 (by kernel_rfl) noPanic_put (HSB.out _ _ o6.unmid.drop) (by kernel_rfl) ?_
   simp only [List.take_succ_cons,List.take_zero,List.drop_succ_cons,List.drop_zero]
   repeat ((first | refine wpSegH_no (by rfl) ?_ | (refine wpSegH_yes (by rfl) ?_;apply Exists.intro;apply And.intro;(· (intro wx hS;(try dsimp only at hS);go_simp;first | done | with_reducible rfl))));simp only [Act.put,List.setIfInBounds_toArray,List.set_cons_zero,List.set_cons_succ])
   refine wpSegH_nil ?_
   refine wpAnyZ_one 11 _ #[true,true,true,true,true,true,true,true,true,true,true,true,true,false] 1 (by kernel_rfl) (fun K hK=>?_)
   have HKK:=Lib.hid hK
   clear hK
   simp only [List.drop_succ_cons,List.drop_zero]
   refine headH_mk (by rfl) ?_
   go_simp
   refine HKK.out _ _ (HSB.out _ _ o6.unmid.drop) ?_
   clear HKK K
   obtain ⟨z0,f0⟩:=o6.cel 10 rfl 0 _ rfl
   obtain ⟨z1,f1⟩:=o6.cel 10 rfl 1 _ rfl
   obtain ⟨z2,f2⟩:=o6.cel 10 rfl 2 _ rfl
   have HOx:=Lib.hid (((o6.unmid.set 0 (.int .i64 c0)).set 1 (.int .i64 c1)).set 2 (.int .i64 c2)).mid
   refine wpAnyZ_end 13 _ #[true,true,true,true,true,true,true,true,true,true,true,true,true,true] (by kernel_rfl) (fun K hK=>?_)
   have HKK:=Lib.hid hK
   clear hK
   simp only [List.drop_succ_cons,List.drop_zero]
   refine headH_mk (by rfl) ?_
   go_simp
   refine HKK.out _ _ (NoPanic.normal ?_)
   clear HKK K
   go_wp2_with fail
   go_meet
   exact ⟨_,rfl,HOx.out⟩
 case rest =>
  obtain ⟨b5,rfl,ho⟩:=hcut
  have z0:=(ho.cel 10 rfl 0 _ rfl).1
  have z1:=(ho.cel 10 rfl 1 _ rfl).1
  have z2:=(ho.cel 10 rfl 2 _ rfl).1
  have HD:Hid (DAt w0 wc p T d W rd R):=Lib.hid ⟨D,ra,rc,HF.out,ho.unmid.drop⟩
  clear ho H HCa HSB
  by_cases h1:c0 = 1
  ·have ht:(c0 == 1) = true:=by simp [h1]
   have hoo:o = sendM W rd d.g d.x (c0,c1,c2) (j:Int):=by rw [← HOE.out,if_pos h1]
   have HO:=Lib.hid hoo
   have HCl:=Lib.hid (HSn.out wc HD.out h1)
   clear HSn HRv HOE hoo h1
   go_wp2_with fail
   refine HCl.out.mono ?_
   intro r w4 hp
   rw [← HO.out] at hp
   unfold TPost at hp
   cases o with
   | none =>
    obtain ⟨rfl,h2⟩:=hp
    have H2:=Lib.hid h2
    clear h2 HD HCl HO
    go_wp2
    go_ret
    exact ⟨rfl,H2.out⟩
   | some m =>
    obtain ⟨Wm,rm,tm⟩:=m
    cases tm with
    | none =>
     obtain ⟨rfl,h2⟩:=hp
     have H2:=Lib.hid h2
     clear h2 HD HCl HO
     go_wp2
     go_ret
     exact ⟨rfl,H2.out⟩
    | some k =>
     obtain ⟨rfl,h2⟩:=hp
     have H2:=Lib.hid h2
     clear h2 HD HCl HO
     unfold trapE
     go_wp2
     exact ⟨rfl,rfl,H2.out⟩
  ·have ht:(c0 == 1) = false:=by simp [h1]
   have hoo:o = recvM W rd d.g d.x (c0,c1,c2) (j:Int):=by rw [← HOE.out,if_neg h1]
   have HO:=Lib.hid hoo
   have HCl:=Lib.hid (HRv.out wc HD.out h1)
   clear HSn HRv HOE hoo h1
   go_wp2_with fail
   refine HCl.out.mono ?_
   intro r w4 hp
   rw [← HO.out] at hp
   unfold TPost at hp
   cases o with
   | none =>
    obtain ⟨rfl,h2⟩:=hp
    have H2:=Lib.hid h2
    clear h2 HD HCl HO
    go_wp2
    go_ret
    exact ⟨rfl,H2.out⟩
   | some m =>
    obtain ⟨Wm,rm,tm⟩:=m
    cases tm with
    | none =>
     obtain ⟨rfl,h2⟩:=hp
     have H2:=Lib.hid h2
     clear h2 HD HCl HO
     go_wp2
     go_ret
     exact ⟨rfl,H2.out⟩
    | some k =>
     obtain ⟨rfl,h2⟩:=hp
     have H2:=Lib.hid h2
     clear h2 HD HCl HO
     unfold trapE
     go_wp2
     exact ⟨rfl,rfl,H2.out⟩
def wrest (p:Nat) (W:Wd) (D:Wa) (T:List Value):List Asr :=
 [CelA p (wcells W D ++ T),CodeA D.fa D.fr W.fs D.ca W.ks,RowGA 2 D.aa D.ac W.gs.length (gcs D.sk W.gs),LstA (stks D.sk W.gs),RowGA 1 D.la D.lc W.Ls.length (lptr D.lp),LstA (lks D.lp W.Ls),ItemsA D.sv W.hp,RowGA 1 D.oa D.oc W.out.length (intc W.out)]
theorem own_chs2 {w0 w:World} {p:Nat} {W:Wd} {D:Wa} {T:List Value} {Y:List Asr} (h:Own w0 w (wparts p W D T ++ Y)) (hf:D.fits W) :
  Own w0 w (chs (List.zip D.ps W.Ns) W.Cs ++ RowGA 1 D.ha D.hc W.Cs.length (ptrs (List.zip D.ps W.Ns)) :: (wrest p W D T ++ Y)) ∧
   ∀ w' Cs',Cs'.length = W.Cs.length → Own w0 w' (chs (List.zip D.ps W.Ns) Cs' ++ RowGA 1 D.ha D.hc W.Cs.length (ptrs (List.zip D.ps W.Ns)) :: (wrest p W D T ++ Y)) → Own w0 w' (wparts p { W with Cs:=Cs' } D T ++ Y) ∧ D.fits { W with Cs:=Cs' }:=by
 have h1:=((h.pick 5 rfl).pick 5 rfl).pick 1 rfl
 refine ⟨h1.unl,fun w' Cs' hl h'=>⟨?_,⟨hf.f,hf.g,by simp [hf.c,hl],by simp [hf.n,hl],hf.l,hf.k⟩⟩⟩
 have h2:=(((((Own.lst h').pick 1 rfl).pick 5 rfl).pick 5 rfl).pick 5 rfl).pick 5 rfl
 simp only [wparts,wcells,hl]
 exact h2
theorem regs_at {w:World} {s cap:Nat} {G:Gt} (h:StkAt w s G.n cap G.z) (hn:1 ≤ G.n):CellsAt w (some ⟨s,(G.n - 1) * 11 + 2,none⟩) (intc G.regs) ∧ G.regs.length = 8:=by
 have hl:G.regs.length = 8:=by unfold Gt.regs Gt.o;rw [List.length_take,List.length_drop,h.len];omega
 refine ⟨fun j v hj=>⟨s,_,rfl,?_⟩,hl⟩
 rw [intc_get] at hj
 unfold Gt.regs Gt.o at hj
 rw [List.getElem?_take] at hj
 split at hj
 ·rw [List.getElem?_drop] at hj
  exact (h.blk _ _ (by rw [intc_get];exact hj)).1
 ·cases hj
theorem wasF_len (g:Int) (regs:List Int):∀ (l:List Cs3) (i:Nat) (Cs:List Ch),(wasF g regs i l Cs).length = Cs.length
 | [],i,Cs=>rfl
 | k :: t,i,Cs=>by unfold wasF;rw [wasF_len g regs t,waF_len]
structure WaitOk (W:Wd) (x:In4):Prop where
 ix:CasX W x
 k:W.ks.length ≤ 1000
 c:CasOK W.Cs.length (W.cas x)
 lim:∃ B,Lim B W.Cs ∧ B ≤ 90000
 cl:W.Cs.length ≤ 1000
theorem dwait_any {w0 w:World} {p:Nat} {T:List Value} {d:Dq} {W:Wd} {rd:List Int} {R:List Asr} (h:DAt w0 w p T d W rd R) (hg:d.g < W.gs.length) (hm:1 ≤ (W.g d.g).n ∧ (W.g d.g).n ≤ 16) (ok:WaitOk W d.x) :
  Calls Tryz.prog 131 #[.pointer (some ⟨d.q,0,none⟩)] w fun r w'=>r = .returned (.tuple #[]) ∧ DAt w0 w' p T d (waitM W d.g d.x) rd R:=by
 obtain ⟨D,ra,rc,hf,h⟩:=h
 obtain ⟨hx,hk,hco,⟨B,hB,hB2⟩,hcl⟩:=ok
 obtain ⟨s,cap,hs⟩:=hf.sk_at hg
 obtain ⟨m,hmm⟩:∃ m,m = (W.g d.g).n - 1:=⟨_,rfl⟩
 have SB:∀ (W':Wd) (wx:World) (Z:List Asr),W'.Cs.length = W.Cs.length → Own w0 wx (wparts p W' D T ++ (CelA d.q (dcells p (d.g:Int) d.x d.th d.dr d.go ra rd.length rc) :: Z)) →
   wx.cell? ⟨d.q,0,none⟩ = some (.pointer (some ⟨p,0,none⟩)) ∧ wx.cell? ⟨d.q,1,none⟩ = some (.int .i64 (d.g:Int)) ∧ wx.cell? ⟨d.q,2,none⟩ = some (.int .i64 d.x.1) ∧ wx.cell? ⟨d.q,3,none⟩ = some (.int .i64 d.x.2.1) ∧ wx.cell? ⟨d.q,4,none⟩ = some (.int .i64 d.x.2.2.1) ∧ wx.cell? ⟨d.q,5,none⟩ = some (.int .i64 d.x.2.2.2) ∧ wx.cell? ⟨p,3,none⟩ = some (.slice D.ha W.Cs.length D.hc):=by
  intro W' wx Z hcs ho
  have hc:=ho.cel 10 rfl
  have h3:=(ho.cel 0 rfl 3 _ rfl).1
  rw [hcs] at h3
  exact ⟨(hc 0 _ rfl).1,(hc 1 _ rfl).1,(hc 2 _ rfl).1,(hc 3 _ rfl).1,(hc 4 _ rfl).1,(hc 5 _ rfl).1,h3⟩
 have HSB:=Lib.hid (SB W · · rfl)
 have HSB2:=Lib.hid (SB { W with Cs:=wasF (d.g:Int) (W.g d.g).regs 0 (W.cas d.x) W.Cs } · · (wasF_len _ _ _ _ _))
 have HCa:=Lib.hid (fun wx Y (ho:Own w0 wx (wparts p W D T ++ Y))=>cases_any ho hf d.x hx hk)
 have HTop:Hid (∀ (wx:World) (Z:List Asr),Own w0 wx (wparts p W D T ++ (CelA d.q (dcells p (d.g:Int) d.x d.th d.dr d.go ra rd.length rc) :: Z)) →
   Calls Tryz.prog 89 #[.pointer (some ⟨d.q,0,none⟩)] wx fun r w'=>r = .returned (.pointer (some ⟨s,m * 11,none⟩)) ∧ ∃ k,w' = wx.drewN k):=Lib.hid (fun wx Z hx=>by
  rw [hmm];exact top_own hx (hx.cel 10 rfl) hg hs hm)
 have HWt:Hid (∀ (wx:World) (a:Option Addr) (c:Nat) (Z:Asr) (Y:List Asr),CasP D W d.x a Z → Own w0 wx (wparts p W D T ++ (Z :: Y)) → (W.cas d.x).length ≤ 1000 →
   Calls Tryz.prog 143 #[.int .i64 (d.g:Int),.slice a (W.cas d.x).length c,.slice (some ⟨s,m * 11 + 2,none⟩) 8 8,.slice D.ha W.Cs.length D.hc] wx fun r w'=>r = .returned (.tuple #[]) ∧ Own w0 w' (wparts p { W with Cs:=wasF (d.g:Int) (W.g d.g).regs 0 (W.cas d.x) W.Cs } D T ++ (Z :: Y)) ∧ D.fits { W with Cs:=wasF (d.g:Int) (W.g d.g).regs 0 (W.cas d.x) W.Cs }):=Lib.hid (fun wx a c Z Y hP ho hcl2=>by
  obtain ⟨o1,o2⟩:=own_chs2 ho hf
  have hpl:W.Cs.length = (List.zip D.ps W.Ns).length:=by rw [List.length_zip,hf.c,hf.n];omega
  have hr8:=(regs_at (stk_at ho hg hs).1 hm.1).2
  refine (wait_any o1 hpl (by rw [hpl]) (d.g:Int) a (W.cas d.x).length c (W.cas d.x) (some ⟨s,m * 11 + 2,none⟩) 8 8 (W.g d.g).regs (fun w' Cs' h'=>?_) rfl hcl2 hr8 rfl hco B hB hB2).mono (fun r w' hh=>⟨hh.1,o2 w' _ (wasF_len _ _ _ _ _) hh.2⟩)
  have h2:=h'.dropL
  refine ⟨hP.cells h2 2 9 rfl rfl,?_⟩
  have h3:=(h2.pick 4 rfl).lstFact (stks_at hs (Wd.g_at hg))
  obtain ⟨F,⟨-,h4⟩,-⟩:=h3
  rw [hmm]
  exact (regs_at h4 hm.1).1)
 have H:=Lib.hid h
 have HF:=Lib.hid hf
 have HG:=Lib.hid hg
 have HM:=Lib.hid hm
 have HMM:=Lib.hid hmm
 obtain ⟨NC,hNC⟩:∃ NC,NC = W.Cs.length:=⟨_,rfl⟩
 rw [← hNC] at HSB HSB2 HWt
 clear h hf hx hk hco hB hB2 hcl hs SB hg hm hmm hNC
 go_enter Tryz.func131,Tryz.ntmps131
 go_upto_region 0 with fail
 have o1:=H.out.step (below_drew1 w)
 refine wp_region_lexH (fun wx=>wx.cell? ⟨d.q,0,none⟩ = some (.pointer (some ⟨p,0,none⟩)) ∧ wx.cell? ⟨d.q,1,none⟩ = some (.int .i64 (d.g:Int)) ∧ wx.cell? ⟨d.q,2,none⟩ = some (.int .i64 d.x.1) ∧ wx.cell? ⟨d.q,3,none⟩ = some (.int .i64 d.x.2.1) ∧ wx.cell? ⟨d.q,4,none⟩ = some (.int .i64 d.x.2.2.1) ∧ wx.cell? ⟨d.q,5,none⟩ = some (.int .i64 d.x.2.2.2) ∧ wx.cell? ⟨p,3,none⟩ = some (.slice D.ha NC D.hc)) 26 (Array.replicate 26 false) (by kernel_rfl) (by kernel_rfl) ?_
 refine wpAnyH_seg 0 12 _ #[true,true,true,true,true,true,true,true,true,true,true,true,false,false,false,false,false,false,false,false,false,false,false,false,false,false] 14 (by kernel_rfl) noPanic_put (HSB.out _ _ o1) (by kernel_rfl) ?_
 simp only [List.take_succ_cons,List.take_zero,List.drop_zero]
 repeat ((first | refine wpSegH_no (by rfl) ?_ | (refine wpSegH_yes (by rfl) ?_;apply Exists.intro;apply And.intro;(· (intro wx hS;(try dsimp only at hS);go_simp;first | done | with_reducible rfl))));simp only [Act.put,List.setIfInBounds_toArray,List.set_cons_zero,List.set_cons_succ])
 refine wpSegH_nil ?_
 refine wpAnyH_seg 13 1 _ #[true,true,true,true,true,true,true,true,true,true,true,true,false,true,false,false,false,false,false,false,false,false,false,false,false,false] 13 (by kernel_rfl) noPanic_put (HSB.out _ _ o1) (by kernel_rfl) ?_
 simp only [List.take_succ_cons,List.take_zero,List.drop_succ_cons,List.drop_zero]
 repeat ((first | refine wpSegH_no (by rfl) ?_ | (refine wpSegH_yes (by rfl) ?_;apply Exists.intro;apply And.intro;(· (intro wx hS;(try dsimp only at hS);go_simp;first | done | with_reducible rfl))));simp only [Act.put,List.setIfInBounds_toArray,List.set_cons_zero,List.set_cons_succ])
 refine wpSegH_nil ?_
 refine wpAnyH_seg 18 7 _ #[true,true,true,true,true,true,true,true,true,true,true,true,false,true,false,false,false,false,true,true,true,true,true,true,true,false] 6 (by kernel_rfl) noPanic_put (HSB.out _ _ o1) (by kernel_rfl) ?_
 simp only [List.take_succ_cons,List.take_zero,List.drop_succ_cons,List.drop_zero]
 repeat ((first | refine wpSegH_no (by rfl) ?_ | (refine wpSegH_yes (by rfl) ?_;apply Exists.intro;apply And.intro;(· (intro wx hS;(try dsimp only at hS);go_simp;first | done | with_reducible rfl))));simp only [Act.put,List.setIfInBounds_toArray,List.set_cons_zero,List.set_cons_succ])
 refine wpSegH_nil ?_
 refine wpAnyH_one 12 _ #[true,true,true,true,true,true,true,true,true,true,true,true,true,true,false,false,false,false,true,true,true,true,true,true,true,false] 5 (by kernel_rfl) (fun K hK=>?_)
 have HKK:=Lib.hid hK
 clear hK
 simp only [List.drop_succ_cons,List.drop_zero]
 refine headH_mk (by rfl) ?_
 go_simp
 refine (HCa.out _ _ o1).mono ?_
 rintro r w3 ⟨a,ca,Z,rfl,hP,hl,o3,-⟩
 refine HKK.out _ _ (HSB.out _ _ o3.drop) ?_
 clear HKK K
 refine wpAnyH_one 14 _ #[true,true,true,true,true,true,true,true,true,true,true,true,true,true,true,false,false,false,true,true,true,true,true,true,true,false] 4 (by kernel_rfl) (fun K hK=>?_)
 have HKK:=Lib.hid hK
 clear hK
 simp only [List.drop_succ_cons,List.drop_zero]
 refine headH_mk (by rfl) ?_
 go_simp
 refine (HTop.out _ _ o3.drop).mono ?_
 rintro r w4 ⟨rfl,k4,hw4⟩
 have o4:=o3.q1 hw4
 clear hw4
 refine HKK.out _ _ (HSB.out _ _ o4.drop) ?_
 clear HKK K
 refine wpAnyH_seg 15 3 _ #[true,true,true,true,true,true,true,true,true,true,true,true,true,true,true,true,true,true,true,true,true,true,true,true,true,false] 1 (by kernel_rfl) noPanic_put (HSB.out _ _ o4.drop) (by kernel_rfl) ?_
 simp only [List.take_succ_cons,List.take_zero,List.drop_succ_cons,List.drop_zero]
 repeat ((first | refine wpSegH_no (by rfl) ?_ | (refine wpSegH_yes (by rfl) ?_;apply Exists.intro;apply And.intro;(· (intro wx hS;(try dsimp only at hS);go_simp;first | done | with_reducible rfl))));simp only [Act.put,List.setIfInBounds_toArray,List.set_cons_zero,List.set_cons_succ])
 refine wpSegH_nil ?_
 refine wpAnyH_one 25 _ #[true,true,true,true,true,true,true,true,true,true,true,true,true,true,true,true,true,true,true,true,true,true,true,true,true,true] 0 (by kernel_rfl) (fun K hK=>?_)
 have HKK:=Lib.hid hK
 clear hK
 simp only [List.drop_succ_cons,List.drop_zero]
 refine headH_mk (by rfl) ?_
 go_simp
 refine (HWt.out _ _ _ _ _ hP o4.mid hl).mono ?_
 rintro r w5 ⟨rfl,o5,hf5⟩
 refine HKK.out _ _ (HSB2.out _ _ o5.unmid.drop) ?_
 clear HKK K
 refine wpAnyH_done (by kernel_rfl) (NoPanic.normal ?_) _
 have HWe:Hid (waitM W d.g d.x = ({ W with Cs:=wasF (d.g:Int) (W.g d.g).regs 0 (W.cas d.x) W.Cs }:Wd).setSt d.g 2):=Lib.hid rfl
 have o6:=o5.unmid.drop
 have hg5:d.g < ({ W with Cs:=wasF (d.g:Int) (W.g d.g).regs 0 (W.cas d.x) W.Cs }:Wd).gs.length:=HG.out
 have hm5:1 ≤ (({ W with Cs:=wasF (d.g:Int) (W.g d.g).regs 0 (W.cas d.x) W.Cs }:Wd).g d.g).n ∧ (({ W with Cs:=wasF (d.g:Int) (W.g d.g).regs 0 (W.cas d.x) W.Cs }:Wd).g d.g).n ≤ 16:=HM.out
 generalize ({ W with Cs:=wasF (d.g:Int) (W.g d.g).regs 0 (W.cas d.x) W.Cs }:Wd) = W5 at *
 obtain ⟨b,off,s',cap',F⟩:=opF_of hf5 o6 hg5 hm5
 have HMe:=Lib.hid (F.hme 0)
 have HP:Hid (∀ w2 k,w2 = (w5.drewN 0).drewN k → DAt w0 (w2.setCell ⟨b,off + d.g * 2,none⟩ (.int .i64 2)) p T d (W5.setSt d.g 2) rd R):=Lib.hid (fun w2 k e=>⟨D,ra,rc,hf5.setG _ _,own_st (o6.q2 e) hf5 hg5 F.aa 2⟩)
 obtain ⟨c0,c1⟩:=F.st
 clear F o1 o3 o4 o5 o6 hf5 hP HWt HTop HCa HSB HSB2 hg5 hm5 H HF HG HM HMM
 go_wp2_with fail
 refine (HMe.out).mono ?_
 rintro r w6 ⟨rfl,k,hw6⟩
 have HF:=Lib.hid (HP.out _ _ hw6)
 have c0':w6.cell? ⟨b,off + d.g * 2,none⟩ = some (.int .i64 ((W5.g d.g).st)):=by rw [hw6];exact c0
 have c1':w6.frozen? ⟨b,off + d.g * 2,none⟩ = false:=by rw [hw6];exact c1
 clear hw6 HP HMe c0 c1
 go_wp2
 go_end0
 rw [HWe.out]
 exact ⟨rfl,HF.out⟩
theorem goOnsM_snoc:∀ (l:List Wt) (W:Wd) (rd:List Int) (x:Wt),goOnsM W rd (l ++ [x]) = goOnM (goOnsM W rd l).1 (goOnsM W rd l).2 x false
 | [],W,rd,x=>rfl
 | y :: l,W,rd,x=>by
  show goOnsM (goOnM W rd y false).1 (goOnM W rd y false).2 (l ++ [x]) = _
  rw [goOnsM_snoc l];rfl
theorem goOnM_len (W:Wd) (rd:List Int) (x:Wt) (s:Bool):(goOnM W rd x s).2.length ≤ rd.length + 1:=by
 unfold goOnM
 simp only
 split
 ·split <;> simp
 ·simp
theorem goOnsM_len:∀ (l:List Wt) (W:Wd) (rd:List Int),(goOnsM W rd l).2.length ≤ rd.length + l.length
 | [],W,rd=>by simp [goOnsM]
 | y :: l,W,rd=>by
  have h1:=goOnsM_len l (goOnM W rd y false).1 (goOnM W rd y false).2
  have h2:=goOnM_len W rd y false
  unfold goOnsM
  simp only [List.length_cons]
  omega
theorem own_chan2 {w0 w:World} {p:Nat} {W:Wd} {D:Wa} {T:List Value} {R:List Asr} (h:Own w0 w (wparts p W D T ++ R)) (hf:D.fits W) {i:Nat} (hi:i < W.Cs.length) :
  ∃ pt b off Rc,D.ps[i]? = some pt ∧ D.ha = some ⟨b,off,none⟩ ∧ w.cell? ⟨b,off + i,none⟩ = some (.pointer (some ⟨pt,0,none⟩)) ∧ Own w0 w (ChanA pt (W.Ns.getD i 0) (W.ch (i:Int)) :: (Rc ++ R)) ∧
   ∀ w' C' R',Own w0 w' (ChanA pt (W.Ns.getD i 0) C' :: (Rc ++ R')) → Own w0 w' (wparts p (W.setCh (i:Int) C') D T ++ R') ∧ D.fits (W.setCh (i:Int) C'):=by
 have hlp:i < D.ps.length:=by rw [hf.c];exact hi
 have hln:i < W.Ns.length:=by rw [hf.n];exact hi
 have hz:(List.zip D.ps W.Ns)[i]? = some (D.ps[i],W.Ns.getD i 0):=zip_at2 (List.getElem?_eq_getElem hlp) (by rw [List.getD_eq_getElem?_getD,List.getElem?_eq_getElem hln];rfl)
 obtain ⟨b,off,h1,h2⟩:=(h.rowG 4 rfl).cells i _ (ptrs_at _ i _ hz)
 obtain ⟨R'',k1,k2⟩:=(h.pick 5 rfl).lstPick (chs_at hz (Wd.ch_at hi))
 refine ⟨D.ps[i],b,off,R'' ++ [CelA p (wcells W D ++ T),CodeA D.fa D.fr W.fs D.ca W.ks,RowGA 2 D.aa D.ac W.gs.length (gcs D.sk W.gs),LstA (stks D.sk W.gs),RowGA 1 D.ha D.hc W.Cs.length (ptrs (List.zip D.ps W.Ns)),
  RowGA 1 D.la D.lc W.Ls.length (lptr D.lp),LstA (lks D.lp W.Ls),ItemsA D.sv W.hp,RowGA 1 D.oa D.oc W.out.length (intc W.out)],List.getElem?_eq_getElem hlp,h1,h2,by rw [List.append_assoc];exact k1,fun w' C' R' h'=>⟨?_,⟨hf.f,hf.g,by simp [hf.c,Wd.setCh],by simp [hf.n,Wd.setCh],hf.l,hf.k⟩⟩⟩
 rw [List.append_assoc] at h'
 have h3:=k2 w' _ _ h'
 rw [chs_set C' hz hi] at h3
 have h4:=((((h3.pick 5 rfl).pick 5 rfl).pick 5 rfl).pick 5 rfl).pick 5 rfl
 have e:wparts p (W.setCh (i:Int) C') D T ++ R' = (wparts p W D T ++ R').set 5 (LstA (chs (List.zip D.ps W.Ns) (W.Cs.set i C'))):=by
  simp only [wparts,wcells,List.length_set,Wd.setCh,Int.toNat_natCast];rfl
 rw [e]
 exact h4
theorem DAt.less {w0 w:World} {p:Nat} {T:List Value} {d:Dq} {W:Wd} {rd:List Int} {A:Asr} {R:List Asr} (h:DAt w0 w p T d W rd (A :: R)):DAt w0 w p T d W rd R:=by
 obtain ⟨D,ra,rc,hf,h⟩:=h
 exact ⟨D,ra,rc,hf,(h.pick 12 rfl).drop⟩
structure CloseOk (W:Wd) (x:In4):Prop where
 c0:0 ≤ x.2.1 ∧ x.2.1 < (W.Cs.length:Int)
 cl:W.Cs.length ≤ 1000
 n:(W.ch x.2.1).R.length ≤ 100000
 go:(W.ch x.2.1).cl = false → (W.ch x.2.1).S = [] → ∀ i (h:i < (W.ch x.2.1).R.length),GoOk (goOnsM (W.setCh x.2.1 ⟨(W.ch x.2.1).buf,[],[],true⟩) [] ((W.ch x.2.1).R.take i)).1 (W.ch x.2.1).R[i]
theorem dclose_any {w0 w:World} {p:Nat} {T:List Value} {d:Dq} {W:Wd} {R:List Asr} (h:DAt w0 w p T d W [] R) (ok:CloseOk W d.x) :
  Calls Tryz.prog 107 #[.pointer (some ⟨d.q,0,none⟩)] w fun r w'=>DPost w0 p T d R (closeM W [] d.x) r w':=by
 have H0:=Lib.hid h
 obtain ⟨D,ra,rc,hf,h⟩:=h
 obtain ⟨hc0,hcl,hn,hgo⟩:=ok
 obtain ⟨i,hI,hi8⟩:=nat_of (n:=W.Cs.length) hc0
 rw [hI] at hn hgo
 obtain ⟨pt,hb,ho,Rc,hpt,hha,hp,h3,h4⟩:=own_chan2 h hf hi8
 have q0:=(h.cel 10 rfl 0 _ rfl).1
 have q3:=(h.cel 10 rfl 3 _ rfl).1
 have p3:=(h.cel 0 rfl 3 _ rfl).1
 rw [hha] at p3
 rw [hI] at q3
 have i0:(0:Int) ≤ (i:Int):=by omega
 have i8:(i:Int) < (W.Cs.length:Int):=by omega
 have e:closeM W [] d.x = (if (W.ch (i:Int)).cl then ⟨W,[],some (-2)⟩ else if (W.ch (i:Int)).S = [] then ⟨(goOnsM (W.setCh (i:Int) ⟨(W.ch (i:Int)).buf,[],[],true⟩) [] (W.ch (i:Int)).R).1,(goOnsM (W.setCh (i:Int) ⟨(W.ch (i:Int)).buf,[],[],true⟩) [] (W.ch (i:Int)).R).2,none⟩ else ⟨W.setCh (i:Int) ⟨(W.ch (i:Int)).buf,[],[],true⟩,[],some (-1)⟩):=by
  unfold closeM;rw [hI]
 rw [e]
 have hsame:=setCh_same W i hi8
 generalize W.Cs.length = NC at *
 generalize W.Ns.getD i 0 = N at *
 generalize hC:W.ch (i:Int) = C at *
 obtain ⟨buf,S,Rv,cl⟩:=C
 simp only at *
 have HI:=Lib.hid hI
 have HF:=Lib.hid hf
 cases cl with
 | true =>
  rw [if_pos rfl]
  have HC:Hid (∀ j,Calls Tryz.prog 132 #[.pointer (some ⟨pt,0,none⟩)] (w.drewN j) fun r w'=>r = .returned (.tuple #[.slice none 0 0,.slice none 0 0,.int .i64 10]) ∧ w.drewN j = w'):=Lib.hid (fun j=>cclose_over (h3.step (below_dN w j)))
  clear h h3 h4 hpt hha hf hgo hn hcl hc0 hsame hC e hi8 hI
  go_enter Tryz.func107,Tryz.ntmps107
  go_upto_region 0 with fail
  refine wp_region_lexK (fun wx=>∃ nq,wx = World.drewN (w) nq) 14 8 (Array.replicate 22 false) #[true,true,true,true,true,true,true,true,true,true,true,true,true,true,false,false,false,false,false,false,false,false] (by kernel_rfl) (by kernel_rfl) ?_
  refine wpAnyK_seg 0 14 _ #[true,true,true,true,true,true,true,true,true,true,true,true,true,true,false,false,false,false,false,false,false,false] 0 (by kernel_rfl) noPanic_put (drew_q w) (by kernel_rfl) ?_
  simp only [List.take_succ_cons,List.take_zero,List.drop_zero]
  repeat ((first | refine wpSegH_no (by rfl) ?_ | (refine wpSegH_yes (by rfl) ?_;apply Exists.intro;apply And.intro;(· (rintro wx ⟨nq,rfl⟩;go_simp;first | done | with_reducible rfl))));simp only [Act.put,List.setIfInBounds_toArray,List.set_cons_zero,List.set_cons_succ])
  refine wpSegH_nil ?_
  refine wpAnyK_next ?_
  refine wpAnyK_phase (fun _=>True) 8 0 #[true,true,true,true,true,true,true,true,true,true,true,true,true,true,true,true,true,true,true,true,true,true] ?_
  refine wpAnyK_one 14 _ #[true,true,true,true,true,true,true,true,true,true,true,true,true,true,true,false,false,false,false,false,false,false] 7 (by kernel_rfl) (fun K hK=>?_)
  have HKK:=Lib.hid hK
  clear hK
  simp only [List.drop_succ_cons,List.drop_zero]
  refine headH_mk (by rfl) ?_
  go_simp
  refine (HC.out 1).mono ?_
  rintro r w3 ⟨rfl,rfl⟩
  refine HKK.out _ _ (trivial) ?_
  clear HKK K
  refine wpAnyK_seg 15 7 _ #[true,true,true,true,true,true,true,true,true,true,true,true,true,true,true,true,true,true,true,true,true,true] 0 (by kernel_rfl) noPanic_put (trivial) (by kernel_rfl) ?_
  simp only [List.take_succ_cons,List.take_zero,List.drop_succ_cons,List.drop_zero]
  repeat ((first | refine wpSegH_no (by rfl) ?_ | (refine wpSegH_yes (by rfl) ?_;apply Exists.intro;apply And.intro;(· (intro wx hS;(try dsimp only at hS);go_simp;first | done | with_reducible rfl))));simp only [Act.put,List.setIfInBounds_toArray,List.set_cons_zero,List.set_cons_succ])
  refine wpSegH_nil ?_
  refine wpAnyK_next ?_
  refine wpAnyK_done (by kernel_rfl) (NoPanic.normal ?_)
  go_wp2
  exact ⟨rfl,rfl,H0.out.step (below_dN w 1)⟩
 | false =>
  rw [if_neg (by simp)]
  obtain ⟨W1,hW1⟩:∃ W1,W1 = W.setCh (i:Int) ⟨buf,[],[],true⟩:=⟨_,rfl⟩
  rw [← hW1] at hgo ⊢
  have HC:Hid (∀ j,Calls Tryz.prog 132 #[.pointer (some ⟨pt,0,none⟩)] (w.drewN j) fun r w'=>∃ a ac sa sc,r = .returned (.tuple #[.slice a Rv.length ac,.slice sa S.length sc,.int .i64 0]) ∧
    DAt w0 w' p T d W1 [] (RowGA 3 a ac Rv.length (wtc Rv) :: R)):=Lib.hid (fun j=>(cclose_any (h3.step (below_dN w j))).mono (fun r w' ⟨a,ac,sa,sc,h1,h2⟩=>by
   refine ⟨a,ac,sa,sc,h1,?_⟩
   have h5:Own w0 w' (RowGA 3 a ac Rv.length (wtc Rv) :: ([ChanA pt N ⟨buf,[],[],true⟩] ++ Rc ++ [CelA d.q (dcells p (d.g:Int) d.x d.th d.dr d.go ra 0 rc),RowGA 1 ra rc 0 (intc [])]) ++ R):=by
    have:=((h2.pick 2 rfl).drop).pick 1 rfl
    simpa [List.append_assoc] using this
   have h6:=Own.mid (L:=[ChanA pt N ⟨buf,[],[],true⟩] ++ Rc ++ [CelA d.q (dcells p (d.g:Int) d.x d.th d.dr d.go ra 0 rc),RowGA 1 ra rc 0 (intc [])]) (Y:=R) h5
   have h7:=h4 w' ⟨buf,[],[],true⟩ (CelA d.q (dcells p (d.g:Int) d.x d.th d.dr d.go ra 0 rc) :: RowGA 1 ra rc 0 (intc []) :: RowGA 3 a ac Rv.length (wtc Rv) :: R) (by simpa [List.append_assoc] using h6)
   exact ⟨D,ra,rc,by rw [hW1];exact h7.2,by rw [hW1];exact h7.1⟩))
  clear h h3 h4 hpt hha hf hc0 hsame hC e hi8 hI hW1
  cases S with
  | cons x t =>
   rw [if_neg (by simp)]
   have hp1:(0:Int) < ((t.length + 1:Nat):Int):=by omega
   have hp2:0 < t.length + 1:=by omega
   simp only [List.length_cons] at HC
   clear hgo hn
   go_enter Tryz.func107,Tryz.ntmps107
   go_upto_region 0 with fail
   refine wp_region_lexK (fun wx=>∃ nq,wx = World.drewN (w) nq) 14 8 (Array.replicate 22 false) #[true,true,true,true,true,true,true,true,true,true,true,true,true,true,false,false,false,false,false,false,false,false] (by kernel_rfl) (by kernel_rfl) ?_
   refine wpAnyK_seg 0 14 _ #[true,true,true,true,true,true,true,true,true,true,true,true,true,true,false,false,false,false,false,false,false,false] 0 (by kernel_rfl) noPanic_put (drew_q w) (by kernel_rfl) ?_
   simp only [List.take_succ_cons,List.take_zero,List.drop_zero]
   repeat ((first | refine wpSegH_no (by rfl) ?_ | (refine wpSegH_yes (by rfl) ?_;apply Exists.intro;apply And.intro;(· (rintro wx ⟨nq,rfl⟩;go_simp;first | done | with_reducible rfl))));simp only [Act.put,List.setIfInBounds_toArray,List.set_cons_zero,List.set_cons_succ])
   refine wpSegH_nil ?_
   refine wpAnyK_next ?_
   refine wpAnyK_phase (fun _=>True) 8 0 #[true,true,true,true,true,true,true,true,true,true,true,true,true,true,true,true,true,true,true,true,true,true] ?_
   refine wpAnyK_one 14 _ #[true,true,true,true,true,true,true,true,true,true,true,true,true,true,true,false,false,false,false,false,false,false] 7 (by kernel_rfl) (fun K hK=>?_)
   have HKK:=Lib.hid hK
   clear hK
   simp only [List.drop_succ_cons,List.drop_zero]
   refine headH_mk (by rfl) ?_
   go_simp
   refine (HC.out 1).mono ?_
   rintro r w3 ⟨a,ac,sa,sc,rfl,h3⟩
   have H3:=Lib.hid h3
   clear h3
   refine HKK.out _ _ (trivial) ?_
   clear HKK K
   refine wpAnyK_seg 15 7 _ #[true,true,true,true,true,true,true,true,true,true,true,true,true,true,true,true,true,true,true,true,true,true] 0 (by kernel_rfl) noPanic_put (trivial) (by kernel_rfl) ?_
   simp only [List.take_succ_cons,List.take_zero,List.drop_succ_cons,List.drop_zero]
   repeat ((first | refine wpSegH_no (by rfl) ?_ | (refine wpSegH_yes (by rfl) ?_;apply Exists.intro;apply And.intro;(· (intro wx hS;(try dsimp only at hS);go_simp;first | done | with_reducible rfl))));simp only [Act.put,List.setIfInBounds_toArray,List.set_cons_zero,List.set_cons_succ])
   refine wpSegH_nil ?_
   refine wpAnyK_next ?_
   refine wpAnyK_done (by kernel_rfl) (NoPanic.normal ?_)
   go_wp2
   exact ⟨rfl,rfl,H3.out.less⟩
  | nil =>
   rw [if_pos rfl]
   have HGo:=Lib.hid (hgo rfl rfl)
   have HN:=Lib.hid hn
   obtain ⟨n,hnn⟩:∃ n,n = Rv.length:=⟨_,rfl⟩
   have HNN:=Lib.hid hnn
   simp only [List.length_nil] at HC
   rw [← hnn] at HC hn
   clear hgo hnn
   go_enter Tryz.func107,Tryz.ntmps107
   go_upto_region 0 with fail
   refine wp_region_lexK (fun wx=>∃ nq,wx = World.drewN (w) nq) 14 8 (Array.replicate 22 false) #[true,true,true,true,true,true,true,true,true,true,true,true,true,true,false,false,false,false,false,false,false,false] (by kernel_rfl) (by kernel_rfl) ?_
   refine wpAnyK_seg 0 14 _ #[true,true,true,true,true,true,true,true,true,true,true,true,true,true,false,false,false,false,false,false,false,false] 0 (by kernel_rfl) noPanic_put (drew_q w) (by kernel_rfl) ?_
   simp only [List.take_succ_cons,List.take_zero,List.drop_zero]
   repeat ((first | refine wpSegH_no (by rfl) ?_ | (refine wpSegH_yes (by rfl) ?_;apply Exists.intro;apply And.intro;(· (rintro wx ⟨nq,rfl⟩;go_simp;first | done | with_reducible rfl))));simp only [Act.put,List.setIfInBounds_toArray,List.set_cons_zero,List.set_cons_succ])
   refine wpSegH_nil ?_
   refine wpAnyK_next ?_
   refine wpAnyK_phase (fun _=>True) 8 0 #[true,true,true,true,true,true,true,true,true,true,true,true,true,true,true,true,true,true,true,true,true,true] ?_
   refine wpAnyK_one 14 _ #[true,true,true,true,true,true,true,true,true,true,true,true,true,true,true,false,false,false,false,false,false,false] 7 (by kernel_rfl) (fun K hK=>?_)
   have HKK:=Lib.hid hK
   clear hK
   simp only [List.drop_succ_cons,List.drop_zero]
   refine headH_mk (by rfl) ?_
   go_simp
   refine (HC.out 1).mono ?_
   rintro r w3 ⟨a,ac,sa,sc,rfl,h3⟩
   have H3:=Lib.hid h3
   clear h3
   refine HKK.out _ _ (trivial) ?_
   clear HKK K
   refine wpAnyK_seg 15 7 _ #[true,true,true,true,true,true,true,true,true,true,true,true,true,true,true,true,true,true,true,true,true,true] 0 (by kernel_rfl) noPanic_put (trivial) (by kernel_rfl) ?_
   simp only [List.take_succ_cons,List.take_zero,List.drop_succ_cons,List.drop_zero]
   repeat ((first | refine wpSegH_no (by rfl) ?_ | (refine wpSegH_yes (by rfl) ?_;apply Exists.intro;apply And.intro;(· (intro wx hS;(try dsimp only at hS);go_simp;first | done | with_reducible rfl))));simp only [Act.put,List.setIfInBounds_toArray,List.set_cons_zero,List.set_cons_succ])
   refine wpSegH_nil ?_
   refine wpAnyK_next ?_
   refine wpAnyK_done (by kernel_rfl) (NoPanic.normal ?_)
   go_wp2_with fail
   go_loopw [35] (fun s wr=>∃ j:Nat,j ≤ n ∧ s = .int .i64 j ∧ Hid (DAt w0 wr p T d (goOnsM W1 [] (Rv.take j)).1 (goOnsM W1 [] (Rv.take j)).2 (RowGA 3 a ac n (wtc Rv) :: R))) (fun s _=>n - (intOf s).toNat)
   case atStart=>exact ⟨0,by omega,rfl,H3⟩
   case round =>
    obtain ⟨j,hj,rfl,hr⟩:=hrel
    by_cases hlt:j < n
    ·have hli:(j:Int) < (n:Int):=by omega
     have hj2:j < Rv.length:=by rw [← HNN.out];exact hlt
     have hok:=HGo.out j hj2
     have htk:Rv.take (j + 1) = Rv.take j ++ [Rv[j]]:=by rw [List.take_succ_eq_append_getElem hj2]
     have hrl:(goOnsM W1 [] (Rv.take j)).2.length ≤ 1000000:=by
      have:=goOnsM_len (Rv.take j) W1 []
      have:=HN.out
      simp at *
      omega
     have hst:goOnsM W1 [] (Rv.take (j + 1)) = goOnM (goOnsM W1 [] (Rv.take j)).1 (goOnsM W1 [] (Rv.take j)).2 Rv[j] false:=by rw [htk,goOnsM_snoc]
     have HST:=Lib.hid hst
     obtain ⟨D,ra,rc,hfD,hr2⟩:=hr.out
     obtain ⟨cb,co,rfl,y0,y1,y2⟩:=CellsAt.wt (hr2.rowG 12 rfl).cells j hj2
     generalize hx:Rv[j] = x at *
     obtain ⟨x1,x2,x3⟩:=x
     have ho:=(hr2.alloc [.int .i64 x1,.int .i64 x2,.int .i64 x3] 211 (b:=wr.heap.size) rfl)
     have z0:=(ho.cel 0 rfl 0 _ rfl).1
     have z1:=(ho.cel 0 rfl 1 _ rfl).1
     have z2:=(ho.cel 0 rfl 2 _ rfl).1
     have HGc:=Lib.hid (dgo_any (show DAt w0 _ p T d _ _ _ from ⟨D,ra,rc,hfD,ho.drop⟩) (x1,x2,x3) false hok hrl)
     unfold wv at HGc
     simp only at HGc y0 y1 y2
     clear hr hr2 ho hok htk hrl hst hfD hx hj2
     go_wp2_with fail
     refine HGc.out.mono ?_
     rintro r w5 ⟨rfl,h5⟩
     rw [← HST.out] at h5
     have H5:=Lib.hid h5
     clear h5 HST HGc
     go_wp2
     exact ⟨⟨j + 1,by omega,by go_num,H5⟩,by simp [intOf];omega⟩
    ·have hge:¬ (j:Int) < (n:Int):=by omega
     have htk:Rv.take j = Rv:=List.take_of_length_le (by rw [← HNN.out];omega)
     rw [htk] at hr
     clear htk
     go_wp2
     go_end0
     exact ⟨rfl,hr.out.less⟩
section
variable {P:Program} {Q:Exit → Act → World → Prop} {S:World → Prop}
theorem wp_region_lexP {id:Nat} {a:Act} {w:World} {l:List Oper} (S:World → Prop) (fuel:Nat) (listed:Array Bool) (hm:P.follows .mixedOrders = true) (hB:(decide (l.length = fuel) && (Array.replicate l.length false == listed)) = true)
  (h:wpAnyH P .any l.toArray Q S fuel listed a w.drew):(Code.region id l.toArray true).wp P Q a w:=by
 simp only [Bool.and_eq_true,decide_eq_true_eq,beq_iff_eq] at hB
 obtain ⟨rfl,rfl⟩:=hB
 exact wp_region_held hm (by simpa using h)
theorem body_put {K:Act → World → Prop} {fn:Func} {R:Ending → World → Prop} (d:Option Tmp) (v:Value) (c:_) (a:Act) (w:World):Exit.then K (bodyPost P fn R) (.panic c) (a.put d v) w → Exit.then K (bodyPost P fn R) (.panic c) a w:=by
 cases d <;> exact fun h=>h
end
end Go.Proofs.YtphfaekpckbepaaGreat
open Go Go.RowKit
set_option linter.unusedVariables false
namespace Go.Proofs.YtphfaekpckbepaaGreat
def Dq.ask (d:Dq) (v:Int) (g:Bool):Dq:={ d with dr:=v,go:=g }
theorem ask_no {w0 w:World} {p:Nat} {T:List Value} {d:Dq} {W:Wd} {rd:List Int} {R:List Asr} (h:DAt w0 w p T d W rd R) (draw:Value) (h1:d.x.1 ≠ 21) (h2:d.x.1 ≠ 16) :
  Calls Tryz.prog 70 #[.pointer (some ⟨d.q,0,none⟩),draw] w fun r w'=>r = .returned (.tuple #[]) ∧ w' = w:=by
 obtain ⟨D,ra,rc,hf,h⟩:=h
 have q2:=(h.cel 10 rfl 2 _ rfl).1
 have b1:(d.x.1 == 21) = false:=by simpa using h1
 have b2:(d.x.1 == 16) = false:=by simpa using h2
 generalize d.x.1 = op at *
 clear h hf h1 h2
 go_enter Tryz.func70,Tryz.ntmps70
 go_wp2
 go_end0
 exact ⟨rfl,rfl⟩
theorem goesB_N (ps:List Nat) (Ns:List Nat) (Cs:List Ch) (h:ps.length = Cs.length) (hN:Ns.length = Cs.length) (k:Cs3):goesB (List.zip ps Ns) Cs k = goesN Ns Cs k:=by
 unfold goesB goesN
 cases hC:Cs[k.2.1.toNat]? with
 | none=>rfl
 | some C =>
  have hi:=(List.getElem?_eq_some_iff.1 hC).1
  have hp:(List.zip ps Ns)[k.2.1.toNat]? = some (ps[k.2.1.toNat]'(by omega),Ns[k.2.1.toNat]'(by omega)):=zip_at2 (List.getElem?_eq_getElem _) (List.getElem?_eq_getElem _)
  rw [hp,List.getElem?_eq_getElem (show k.2.1.toNat < Ns.length by omega)]
theorem enF_congr (f g:Cs3 → Bool) (h:∀ k,f k = g k):∀ (l:List Cs3) (i:Nat),enF f i l = enF g i l
 | [],i=>rfl
 | k :: t,i=>by unfold enF;rw [h k,enF_congr f g h t]
def DrawOk (w0:World) (p:Nat) (T:List Value) (W:Wd) (F:Nat) (fst cap:Array Value) (kind n:Int) (R:List Asr) (Qd:Int → List Asr → Prop) (Qp:Ending → List Asr → Prop):Prop :=
 ∀ (Z:List Asr) (d:Dq) (w':World),DAt w0 w' p T d W [] (Z ++ R) → Calls Tryz.prog F (fst ++ (#[.int .i64 kind,.int .i64 n] ++ cap)) w' fun r w'' =>
  (∃ v R',r = .returned (.int .i64 v) ∧ Qd v R' ∧ DAt w0 w'' p T d W [] (Z ++ R')) ∨ (∃ chain R',r = .panicked chain ∧ Qp r R' ∧ DAt w0 w'' p T d W [] (Z ++ R'))
def AskPost (w0:World) (p:Nat) (T:List Value) (d:Dq) (W:Wd) (Qd:Int → List Asr → Prop) (Qp:Ending → List Asr → Prop) (r:Ending) (w':World):Prop :=
 (∃ v R',r = .returned (.tuple #[]) ∧ Qd v R' ∧ DAt w0 w' p T (d.ask (askM W d.x v).1 (askM W d.x v).2) W [] R') ∨ (∃ chain R',r = .panicked chain ∧ Qp r R' ∧ DAt w0 w' p T d W [] R')
theorem DAt.setDr {w0 w:World} {p:Nat} {T:List Value} {d:Dq} {W:Wd} {rd:List Int} {R:List Asr} (h:DAt w0 w p T d W rd R) (v:Int):(∃ x,w.cell? ⟨d.q,7,none⟩ = some x) ∧ w.frozen? ⟨d.q,7,none⟩ = false ∧ DAt w0 (w.setCell ⟨d.q,7,none⟩ (.int .i64 v)) p T (d.ask v d.go) W rd R:=by
 obtain ⟨D,ra,rc,hf,h⟩:=h
 obtain ⟨x0,x1⟩:=h.cel 10 rfl 7 _ rfl
 exact ⟨⟨_,x0⟩,x1,D,ra,rc,hf,h.setAt 10 rfl 7 (.int .i64 v)⟩
theorem DAt.setGo {w0 w:World} {p:Nat} {T:List Value} {d:Dq} {W:Wd} {rd:List Int} {R:List Asr} (h:DAt w0 w p T d W rd R) (v:Bool):(∃ x,w.cell? ⟨d.q,8,none⟩ = some x) ∧ w.frozen? ⟨d.q,8,none⟩ = false ∧ DAt w0 (w.setCell ⟨d.q,8,none⟩ (.bool v)) p T (d.ask d.dr v) W rd R:=by
 obtain ⟨D,ra,rc,hf,h⟩:=h
 obtain ⟨x0,x1⟩:=h.cel 10 rfl 8 _ rfl
 exact ⟨⟨_,x0⟩,x1,D,ra,rc,hf,h.setAt 10 rfl 8 (.bool v)⟩
theorem ask_rand {w0 w:World} {p:Nat} {T:List Value} {d:Dq} {W:Wd} {R:List Asr} {F:Nat} {fst cap:Array Value} {Qd:Int → List Asr → Prop} {Qp:Ending → List Asr → Prop} (h:DAt w0 w p T d W [] R) (h1:d.x.1 = 21) (hgo:d.go = false) (hB:1 ≤ d.x.2.2.1 ∧ d.x.2.2.1 < 9223372036854775808)
  (en:∀ (args:Array Value) (w:World),(callFunc F args).run Tryz.prog w = .ok (.enter F args) w) (hd:DrawOk w0 p T W F fst cap 4 d.x.2.2.1 R Qd Qp) :
  Calls Tryz.prog 70 #[.pointer (some ⟨d.q,0,none⟩),.func (.func F) fst cap] w fun r w'=>AskPost w0 p T d W Qd Qp r w':=by
 have ea:∀ v,askM W d.x v = (belowZ d.x.2.2.1 v,false):=fun v=>by unfold askM;rw [if_pos h1]
 have HD:=Lib.hid hd
 have HB:=Lib.hid (fun v w=>below_any d.x.2.2.1 v hB w)
 have H:=Lib.hid h
 have SB:∀ (wx:World) (d':Dq) (W':Wd) (R':List Asr),d'.q = d.q → d'.x = d.x → DAt w0 wx p T d' W' [] R' → wx.cell? ⟨d.q,2,none⟩ = some (.int .i64 21) ∧ wx.cell? ⟨d.q,4,none⟩ = some (.int .i64 d.x.2.2.1):=by
  intro wx d' W' R' e1 e2 hh
  obtain ⟨D,ra,rc,hf,hh⟩:=hh
  have y2:=(hh.cel 10 rfl 2 _ rfl).1
  have y4:=(hh.cel 10 rfl 4 _ rfl).1
  rw [e1,e2] at y2 y4
  rw [h1] at y2
  exact ⟨y2,y4⟩
 have HSB:=Lib.hid SB
 obtain ⟨q2,q4⟩:=SB w d W R rfl rfl h
 have HEA:=Lib.hid ea
 have HGO:=Lib.hid hgo
 clear h h1 hd SB ea hgo
 go_enter Tryz.func70,Tryz.ntmps70
 go_upto_region 2 with fail
 have o1:=H.out.step (below_drew1 w)
 refine wp_region_lexP (fun wx=>wx.cell? ⟨d.q,2,none⟩ = some (.int .i64 21) ∧ wx.cell? ⟨d.q,4,none⟩ = some (.int .i64 d.x.2.2.1)) 17 (Array.replicate 17 false) (by kernel_rfl) (by kernel_rfl) ?_
 refine wpAnyH_seg 0 12 _ #[true,true,true,true,true,true,true,true,true,true,true,true,false,false,false,false,false] 5 (by kernel_rfl) (fun d _ _ _ _=>by cases d <;> exact fun h=>h) (HSB.out _ d W R rfl rfl o1) (by kernel_rfl) ?_
 simp only [List.take_succ_cons,List.take_zero,List.drop_zero]
 repeat ((first | refine wpSegH_no (by rfl) ?_ | (refine wpSegH_yes (by rfl) ?_;apply Exists.intro;apply And.intro;(· (intro wx hS;(try dsimp only at hS);go_simp;first | done | with_reducible rfl))));simp only [Act.put,List.setIfInBounds_toArray,List.set_cons_zero,List.set_cons_succ])
 refine wpSegH_nil ?_
 refine wpAnyH_one 12 _ #[true,true,true,true,true,true,true,true,true,true,true,true,true,false,false,false,false] 4 (by kernel_rfl) (fun K hK=>?_)
 have HKK:=Lib.hid hK
 clear hK
 simp only [List.drop_succ_cons,List.drop_zero]
 refine headH_mk (by rfl) ?_
 go_simp
 refine (HD.out [] d _ o1).mono ?_
 intro r w2 hp
 rcases hp with ⟨v,R',rfl,hq,h2⟩ | ⟨ch,R',rfl,hq,h2⟩
 ·have HQ:=Lib.hid hq
  clear hq o1
  refine HKK.out _ _ (HSB.out _ d W R' rfl rfl h2) ?_
  clear HKK K
  refine wpAnyH_one 13 _ #[true,true,true,true,true,true,true,true,true,true,true,true,true,true,false,false,false] 3 (by kernel_rfl) (fun K hK=>?_)
  have HKK:=Lib.hid hK
  clear hK
  simp only [List.drop_succ_cons,List.drop_zero]
  refine headH_mk (by rfl) ?_
  go_simp
  refine (HB.out _ _).mono ?_
  rintro r w3 ⟨rfl,rfl⟩
  refine HKK.out _ _ (HSB.out _ d W R' rfl rfl h2) ?_
  clear HKK K
  refine wpAnyH_seg 14 2 _ #[true,true,true,true,true,true,true,true,true,true,true,true,true,true,true,true,false] 1 (by kernel_rfl) (fun d _ _ _ _=>by cases d <;> exact fun h=>h) (HSB.out _ d W R' rfl rfl h2) (by kernel_rfl) ?_
  simp only [List.take_succ_cons,List.take_zero,List.drop_succ_cons,List.drop_zero]
  repeat ((first | refine wpSegH_no (by rfl) ?_ | (refine wpSegH_yes (by rfl) ?_;apply Exists.intro;apply And.intro;(· (intro wx hS;(try dsimp only at hS);go_simp;first | done | with_reducible rfl))));simp only [Act.put,List.setIfInBounds_toArray,List.set_cons_zero,List.set_cons_succ])
  refine wpSegH_nil ?_
  obtain ⟨⟨x7,y7⟩,z7,h3⟩:=h2.setDr (belowZ d.x.2.2.1 v)
  have H3:=Lib.hid h3
  clear h3
  refine wpAnyH_one 16 _ #[true,true,true,true,true,true,true,true,true,true,true,true,true,true,true,true,true] 0 (by kernel_rfl) (fun K hK=>?_)
  have HKK:=Lib.hid hK
  clear hK
  simp only [List.drop_succ_cons,List.drop_zero]
  refine headH_mk (by rfl) ?_
  go_simp
  refine HKK.out _ _ (HSB.out _ (d.ask (belowZ d.x.2.2.1 v) d.go) W R' rfl rfl H3.out) ?_
  clear HKK K
  refine wpAnyH_done (by kernel_rfl) (?_) _
  clear h2 y7 z7
  go_wp2
  go_end0
  exact .inl ⟨v,R',rfl,HQ.out,by rw [HEA.out,← HGO.out];exact H3.out⟩
 ·exact ⟨rfl,.inr ⟨ch,R',rfl,hq,h2⟩⟩
theorem Own.mid3 {w0 w:World} {A B C:Asr} {L R:List Asr} (h:Own w0 w (A :: (L ++ (B :: C :: R)))):Own w0 w (L ++ (B :: C :: A :: R)):=h.perm (by
 have e:List.Perm (A :: ((L ++ [B,C]) ++ R)) ((L ++ [B,C]) ++ (A :: R)):=List.perm_middle.symm
 simpa using e)
structure AskOk (W:Wd) (x:In4):Prop where
 ix:CasX W x
 k:W.ks.length ≤ 1000
 c:CasOK W.Cs.length (W.cas x)
theorem ask_sel {w0 w:World} {p:Nat} {T:List Value} {d:Dq} {W:Wd} {R:List Asr} {F:Nat} {fst cap:Array Value} {Qd:Int → List Asr → Prop} {Qp:Ending → List Asr → Prop} (h:DAt w0 w p T d W [] R) (h1:d.x.1 = 16) (ok:AskOk W d.x) (Ls:List Int) (hLs:Ls = enF (goesN W.Ns W.Cs) 0 (W.cas d.x))
  (en:∀ (args:Array Value) (w:World),(callFunc F args).run Tryz.prog w = .ok (.enter F args) w) (hd:1 ≤ Ls.length → Ls.length ≤ 1000 → DrawOk w0 p T W F fst cap 3 (Ls.length:Int) R Qd Qp) :
  Calls Tryz.prog 70 #[.pointer (some ⟨d.q,0,none⟩),.func (.func F) fst cap] w fun r w'=>(Ls.length = 0 ∧ r = .returned (.tuple #[]) ∧ DAt w0 w' p T d W [] R) ∨ (1 ≤ Ls.length ∧ AskPost w0 p T d W Qd Qp r w'):=by
 have ea:1 ≤ Ls.length → ∀ v,askM W d.x v = (Ls.getD (belowZ (Ls.length:Int) v).toNat 0,true):=fun hl v=>by
  unfold askM;rw [if_neg (by omega),if_pos h1,← hLs,if_neg (by omega)]
 obtain ⟨D,ra,rc,hf,h⟩:=h
 obtain ⟨hx,hk,hco⟩:=ok
 have SB:∀ (wx:World) (Z:List Asr),Own w0 wx (wparts p W D T ++ (CelA d.q (dcells p (d.g:Int) d.x d.th d.dr d.go ra 0 rc) :: Z)) →
   wx.cell? ⟨d.q,0,none⟩ = some (.pointer (some ⟨p,0,none⟩)) ∧ wx.cell? ⟨d.q,2,none⟩ = some (.int .i64 d.x.1) ∧ wx.cell? ⟨d.q,3,none⟩ = some (.int .i64 d.x.2.1) ∧ wx.cell? ⟨d.q,4,none⟩ = some (.int .i64 d.x.2.2.1) ∧ wx.cell? ⟨d.q,5,none⟩ = some (.int .i64 d.x.2.2.2) ∧ wx.cell? ⟨p,3,none⟩ = some (.slice D.ha W.Cs.length D.hc):=by
  intro wx Z ho
  have hc:=ho.cel 10 rfl
  exact ⟨(hc 0 _ rfl).1,(hc 2 _ rfl).1,(hc 3 _ rfl).1,(hc 4 _ rfl).1,(hc 5 _ rfl).1,(ho.cel 0 rfl 3 _ rfl).1⟩
 have HSB:=Lib.hid SB
 have HCa:=Lib.hid (fun wx Y (ho:Own w0 wx (wparts p W D T ++ Y))=>cases_any ho hf d.x hx hk)
 have HEn:Hid (∀ (wx:World) (a:Option Addr) (c:Nat) (Z:Asr) (Y:List Asr),CasP D W d.x a Z → Own w0 wx (Z :: (wparts p W D T ++ Y)) → (W.cas d.x).length ≤ 1000 →
   Calls Tryz.prog 86 #[.slice a (W.cas d.x).length c,.slice D.ha W.Cs.length D.hc] wx fun r w'=>∃ a' c',r = .returned (.slice a' Ls.length c') ∧ Ls.length ≤ 1000 ∧ Own w0 w' (RowGA 1 a' c' Ls.length (intc Ls) :: (wparts p W D T ++ Y))):=Lib.hid (fun wx a c Z Y hP ho hcl2=>by
  obtain ⟨o1,-⟩:=own_chs2 ho.mid hf
  have hpl:W.Cs.length = (List.zip D.ps W.Ns).length:=by rw [List.length_zip,hf.c,hf.n];omega
  have e:enF (goesB (List.zip D.ps W.Ns) W.Cs) 0 (W.cas d.x) = Ls:=by
   rw [hLs];exact enF_congr _ _ (fun k=>goesB_N _ _ _ (by rw [hf.c]) (by rw [hf.n]) k) _ _
  have hl2:Ls.length ≤ 1000:=by rw [← e];exact Nat.le_trans (enF_len _ _ _) hcl2
  refine (enabled_any o1 hpl (by rw [hpl]) a (W.cas d.x).length c (W.cas d.x) (hP.cells ho 2 0 rfl rfl) rfl (by omega) hco).mono (fun r w' hh=>?_)
  obtain ⟨a',c',hr,hrow,hF,hb⟩:=hh
  rw [e] at hr hrow
  exact ⟨a',c',hr,hl2,ho.drop.add hb (A:=RowGA 1 a' c' Ls.length (intc Ls)) (F:=blk a') ⟨rfl,hrow⟩ hF⟩)
 have H:=Lib.hid h
 have HF:=Lib.hid hf
 have HD:=Lib.hid hd
 have HEA:=Lib.hid ea
 obtain ⟨NC,hNC⟩:∃ NC,NC = W.Cs.length:=⟨_,rfl⟩
 rw [← hNC] at HSB HEn
 obtain ⟨-,q2,-⟩:=SB w _ h
 have b1:(d.x.1 == 21) = false:=by rw [h1];rfl
 have b2:(d.x.1 == 16) = true:=by rw [h1];rfl
 clear h hf hd ea hx hk hco SB hNC h1 hLs
 go_enter Tryz.func70,Tryz.ntmps70
 go_upto_region 4 with fail
 have o1:=H.out.step (below_drew1 w)
 clear b1 b2 q2
 refine wp_region_lexH (fun wx=>wx.cell? ⟨d.q,0,none⟩ = some (.pointer (some ⟨p,0,none⟩)) ∧ wx.cell? ⟨d.q,2,none⟩ = some (.int .i64 d.x.1) ∧ wx.cell? ⟨d.q,3,none⟩ = some (.int .i64 d.x.2.1) ∧ wx.cell? ⟨d.q,4,none⟩ = some (.int .i64 d.x.2.2.1) ∧ wx.cell? ⟨d.q,5,none⟩ = some (.int .i64 d.x.2.2.2) ∧ wx.cell? ⟨p,3,none⟩ = some (.slice D.ha NC D.hc)) 18 (Array.replicate 18 false) (by kernel_rfl) (by kernel_rfl) ?_
 refine wpAnyH_seg 0 8 _ #[true,true,true,true,true,true,true,true,false,false,false,false,false,false,false,false,false,false] 10 (by kernel_rfl) noPanic_put (HSB.out _ _ o1) (by kernel_rfl) ?_
 simp only [List.take_succ_cons,List.take_zero,List.drop_zero]
 repeat ((first | refine wpSegH_no (by rfl) ?_ | (refine wpSegH_yes (by rfl) ?_;apply Exists.intro;apply And.intro;(· (intro wx hS;(try dsimp only at hS);go_simp;first | done | with_reducible rfl))));simp only [Act.put,List.setIfInBounds_toArray,List.set_cons_zero,List.set_cons_succ])
 refine wpSegH_nil ?_
 refine wpAnyH_seg 9 7 _ #[true,true,true,true,true,true,true,true,false,true,true,true,true,true,true,true,false,false] 3 (by kernel_rfl) noPanic_put (HSB.out _ _ o1) (by kernel_rfl) ?_
 simp only [List.take_succ_cons,List.take_zero,List.drop_succ_cons,List.drop_zero]
 repeat ((first | refine wpSegH_no (by rfl) ?_ | (refine wpSegH_yes (by rfl) ?_;apply Exists.intro;apply And.intro;(· (intro wx hS;(try dsimp only at hS);go_simp;first | done | with_reducible rfl))));simp only [Act.put,List.setIfInBounds_toArray,List.set_cons_zero,List.set_cons_succ])
 refine wpSegH_nil ?_
 refine wpAnyH_one 8 _ #[true,true,true,true,true,true,true,true,true,true,true,true,true,true,true,true,false,false] 2 (by kernel_rfl) (fun K hK=>?_)
 have HKK:=Lib.hid hK
 clear hK
 simp only [List.drop_succ_cons,List.drop_zero]
 refine headH_mk (by rfl) ?_
 go_simp
 refine (HCa.out _ _ o1).mono ?_
 rintro r w3 ⟨a,ca,Z,rfl,hP,hl,o3,-⟩
 refine HKK.out _ _ (HSB.out _ _ o3.drop) ?_
 clear HKK K
 refine wpAnyH_one 16 _ #[true,true,true,true,true,true,true,true,true,true,true,true,true,true,true,true,true,false] 1 (by kernel_rfl) (fun K hK=>?_)
 have HKK:=Lib.hid hK
 clear hK
 simp only [List.drop_succ_cons,List.drop_zero]
 refine headH_mk (by rfl) ?_
 go_simp
 refine (HEn.out _ _ _ _ _ hP o3 hl).mono ?_
 rintro r w4 ⟨a4,c4,rfl,hl4,o4⟩
 refine HKK.out _ _ (HSB.out _ _ o4.drop) ?_
 clear HKK K
 refine wpAnyH_seg 17 1 _ #[true,true,true,true,true,true,true,true,true,true,true,true,true,true,true,true,true,true] 0 (by kernel_rfl) noPanic_put (HSB.out _ _ o4.drop) (by kernel_rfl) ?_
 simp only [List.take_succ_cons,List.take_zero,List.drop_succ_cons,List.drop_zero]
 repeat ((first | refine wpSegH_no (by rfl) ?_ | (refine wpSegH_yes (by rfl) ?_;apply Exists.intro;apply And.intro;(· (intro wx hS;(try dsimp only at hS);go_simp;first | done | with_reducible rfl))));simp only [Act.put,List.setIfInBounds_toArray,List.set_cons_zero,List.set_cons_succ])
 refine wpSegH_nil ?_
 refine wpAnyH_done (by kernel_rfl) (NoPanic.normal ?_) _
 have H4:Hid (DAt w0 w4 p T d W [] ([RowGA 1 a4 c4 Ls.length (intc Ls)] ++ R)):=Lib.hid ⟨D,ra,rc,HF.out,o4.mid3⟩
 clear o1 o3 o4 hP hl H HF HSB HCa HEn
 by_cases hz:Ls.length = 0
 ·have HZ:=Lib.hid hz
  rw [hz]
  clear hz
  go_wp2
  go_end0
  exact .inl ⟨HZ.out,rfl,DAt.less (A:=RowGA 1 a4 c4 Ls.length (intc Ls)) (R:=R) H4.out⟩
 ·have h0:1 ≤ Ls.length:=by omega
  have HD2:=Lib.hid (HD.out h0 hl4 [RowGA 1 a4 c4 Ls.length (intc Ls)] d _ H4.out)
  have HB:=Lib.hid (fun v w=>below_any (Ls.length:Int) v (by omega) w)
  have HJ:Hid (∀ v,∃ j:Nat,belowZ (Ls.length:Int) v = (j:Int) ∧ j < Ls.length):=Lib.hid (fun v=>by
   refine ⟨(belowZ (Ls.length:Int) v).toNat,?_⟩
   unfold belowZ
   split <;> split <;> omega)
  have hp0:(0:Int) < (Ls.length:Int):=by omega
  have H0:=Lib.hid h0
  clear H4 HD h0 hz hl4
  go_wp2_with fail
  refine HD2.out.mono ?_
  intro r w5 hp
  rcases hp with ⟨v,R',rfl,hq,h5⟩ | ⟨ch,R',rfl,hq,h5⟩
  ·have HQ:=Lib.hid hq
   obtain ⟨j,hj1,hj2⟩:=HJ.out v
   have HJ1:=Lib.hid hj1
   obtain ⟨y7,z7,-⟩:=h5.setDr (Ls.getD j 0)
   obtain ⟨y8,z8,-⟩:=h5.setGo true
   obtain ⟨x7,y7⟩:=y7
   obtain ⟨x8,y8⟩:=y8
   have hat:∃ b off,a4 = some ⟨b,off,none⟩ ∧ w5.cell? ⟨b,off + j,none⟩ = some (.int .i64 (Ls.getD j 0)):=by
    obtain ⟨D5,ra5,rc5,-,h5⟩:=h5
    obtain ⟨F5,⟨-,hr5⟩,-⟩:=h5.fact 12 (A:=RowGA 1 a4 c4 Ls.length (intc Ls)) rfl
    exact hr5.cells j _ (by rw [intc_get,List.getD_eq_getElem?_getD,List.getElem?_eq_getElem hj2];rfl)
   obtain ⟨b4,off4,rfl,hc4⟩:=hat
   have H5:Hid (DAt w0 ((w5.setCell ⟨d.q,7,none⟩ (.int .i64 (Ls.getD j 0))).setCell ⟨d.q,8,none⟩ (.bool true)) p T (d.ask (Ls.getD j 0) true) W [] R') :=
    Lib.hid (DAt.less (A:=RowGA 1 (some ⟨b4,off4,none⟩) c4 Ls.length (intc Ls)) (R:=R') ((h5.setDr (Ls.getD j 0)).2.2.setGo true).2.2)
   clear hq h5 HD2 hj1 HJ
   go_wp2_with fail
   refine (HB.out _ _).mono ?_
   rintro r w6 ⟨rfl,rfl⟩
   rw [HJ1.out]
   clear HB
   go_wp2
   go_end0
   refine .inr ⟨H0.out,.inl ⟨v,R',rfl,HQ.out,?_⟩⟩
   have eg:Ls.getD j 0 = Ls[j]:=by rw [List.getD_eq_getElem?_getD,List.getElem?_eq_getElem hj2];rfl
   have h6:=H5.out
   rw [HEA.out H0.out v,HJ1.out,Int.toNat_natCast]
   rw [eg] at h6 ⊢
   exact h6
  ·exact ⟨rfl,.inr ⟨H0.out,.inr ⟨ch,R',rfl,hq,DAt.less (A:=RowGA 1 a4 c4 Ls.length (intc Ls)) (R:=R') h5⟩⟩⟩
theorem run_lookup_hit {P:Program} {w:World} {mty kt et:TypeId} {r c:Nat} {n:Int} {es:List MapEntry} {i:Nat} {v:Value} (hm:P.underlying mty = some (.map kt et)) (hk:P.underlying kt = some (.int .i64)) (hb:MapAt w r es c)
  (hf:Instr.findNow (.int .i64) (.int .i64 n) es 0 = some (some (i,v))):(Instr.lookup mty (.map (some r)) (.int .i64 n) true).run P w = .ok (.tuple #[v,.bool true]) w:=by
 have hc:∀ b,(Instr.checkKey b 10000 kt (.int .i64 n)).run P w = .ok () w:=fun b=>MapKept.run_checkKey (k:=.int .i64 n) hk (by simp [MapKept.IsKey]) b 9999
 have hb':w.heap[r]? = some (.map es.toArray c):=hb
 simp [Instr.lookup,run_underlying hm,MapKept.run_getObj_map hb',hc,MapKept.run_findKey hk hf,Result.andThen]
theorem run_lookup_miss {P:Program} {w:World} {mty kt et:TypeId} {r c:Nat} {n:Int} {es:List MapEntry} {z:Value} (hm:P.underlying mty = some (.map kt et)) (hk:P.underlying kt = some (.int .i64)) (hb:MapAt w r es c)
  (hz:(zeroValue et).run P w = .ok z w) (hf:Instr.findNow (.int .i64) (.int .i64 n) es 0 = some none):(Instr.lookup mty (.map (some r)) (.int .i64 n) true).run P w = .ok (.tuple #[z,.bool false]) w:=by
 have hc:∀ b,(Instr.checkKey b 10000 kt (.int .i64 n)).run P w = .ok () w:=fun b=>MapKept.run_checkKey (k:=.int .i64 n) hk (by simp [MapKept.IsKey]) b 9999
 have hb':w.heap[r]? = some (.map es.toArray c):=hb
 simp [Instr.lookup,run_underlying hm,MapKept.run_getObj_map hb',hc,MapKept.run_findKey hk hf,hz,Result.andThen]
theorem enters_const (args:Array Value) (w:World):(callFunc 119 args).run Tryz.prog w = .ok (.enter 119 args) w:=by kernel_rfl
theorem enters_add (args:Array Value) (w:World):(callFunc 121 args).run Tryz.prog w = .ok (.enter 121 args) w:=by kernel_rfl
theorem constant_any (g o a n cap:Nat) (z:List Int) (b c:Int) (w:World) (ha:a < 8) (h:StkAt w g n cap z) (ho:o + 11 ≤ n * 11) :
  Calls Tryz.prog 119 #[.pointer (some ⟨g,o,none⟩),.agg #[.int .i64 1,.int .i64 a,.int .i64 b,.int .i64 c]] w fun e w'=>e = .returned (.tuple #[]) ∧ Chg [g] w w' ∧ StkAt w' g n cap (z.set (o + 2 + a) b):=by
 have a0:(0:Int) ≤ (a:Int):=by omega
 have a8:(a:Int) < 8:=by omega
 obtain ⟨x,-,h1,h2⟩:=h.cell (o + 2 + a) (by omega)
 have h1':∀ q,(w.alloc q).cell? ⟨g,o + 2 + a,none⟩ = some (.int .i64 x):=fun q=>cell_below h1 (below_alloc1 w q)
 have h2':∀ q,(w.alloc q).frozen? ⟨g,o + 2 + a,none⟩ = false:=fun q=>by rw [(below_alloc1 w q).frozen (p:=⟨g,o + 2 + a,none⟩) h.lt];exact h2
 have H:=Lib.hid h
 have hlt:=h.lt
 have hw:w.heap.size ≠ g:=by omega
 clear h h1 h2
 go_enter Tryz.func119,Tryz.ntmps119
 go_wp2_with fail
 go_region
 go_wp2_with fail
 go_end0
 refine ⟨rfl,?_,?_⟩
 ·exact (((Chg.refl _ _).setCell _ (.inl (by simp))).trans (Chg.of_below (F:=[]) (below_alloc1 _ _)) (by simp)).drew
 ·exact ((H.out.set _ _).below (below_alloc1 _ _)).below (below_drew1 _)
theorem pure_any (g o n cap fk i:Nat) (z z':List Int) (op a b c at0:Int) (w:World) (h:StkAt w g n cap z) (hz:z[o + 1]? = some at0) (hat:0 ≤ at0 ∧ at0 < 1000)
  (hf:Instr.findNow (.int .i64) (.int .i64 op) tableEs 0 = some (some (i,.func (.func fk) #[] #[]))) (eg:∀ args w,(callFunc fk args).run Tryz.prog w = .ok (.enter fk args) w)
  (hcal:∀ w',StkAt w' g n cap (z.set (o + 1) (at0 + 1)) → Calls Tryz.prog fk #[.pointer (some ⟨g,o,none⟩),.agg #[.int .i64 op,.int .i64 a,.int .i64 b,.int .i64 c]] w' fun e w''=>e = .returned (.tuple #[]) ∧ Chg [g] w' w'' ∧ StkAt w'' g n cap z') :
  Calls Tryz.prog 90 #[.pointer (some ⟨g,o,none⟩),.agg #[.int .i64 op,.int .i64 a,.int .i64 b,.int .i64 c]] w fun e w'=>e = .returned (.bool true) ∧ Chg [g] w w' ∧ StkAt w' g n cap z':=by
 have HF:=Lib.hid hf
 have HC:=Lib.hid hcal
 clear hf hcal
 have H:=Lib.hid h
 have hlt:=h.lt
 have hw:w.heap.size ≠ g:=by omega
 have HZ:=Lib.hid hz
 clear h hz
 go_enter Tryz.func90,Tryz.ntmps90
 go_wp2_with fail
 have hx0:Blk (w.alloc (Obj.cells #[Value.int IntKind.i64 op,Value.int IntKind.i64 a,Value.int IntKind.i64 b,Value.int IntKind.i64 c] 29)) w.heap.size [Value.int IntKind.i64 op,Value.int IntKind.i64 a,Value.int IntKind.i64 b,Value.int IntKind.i64 c]:=Blk.mk w _ _ _ rfl
 have hB:=below_alloc1 w (Obj.cells #[Value.int IntKind.i64 op,Value.int IntKind.i64 a,Value.int IntKind.i64 b,Value.int IntKind.i64 c] 29)
 generalize w.alloc (Obj.cells #[Value.int IntKind.i64 op,Value.int IntKind.i64 a,Value.int IntKind.i64 b,Value.int IntKind.i64 c] 29) = W0 at *
 have hxl:=hx0.lt (by simp)
 obtain ⟨bx,hbx⟩:∃ bx,w.heap.size = bx:=⟨_,rfl⟩
 rw [hbx] at hx0 hB hxl hlt hw ⊢
 have HS:=Lib.hid hbx
 clear hbx
 have HX:=Lib.hid hx0
 have HB:=Lib.hid hB
 clear hx0 hB
 have hld:∀ w',Below W0.heap.size W0 w' → w'.cell? ⟨bx,0,none⟩ = some (.int .i64 op):=fun w' hb=>((HX.out.below hb) 0 _ rfl).1
 have HL:=Lib.hid hld
 clear hld
 go_region_held3 (fun w'=>w'.cell? ⟨bx,0,none⟩ = some (.int .i64 op) ∧ Below W0.heap.size W0 w') (first | exact ⟨HL.out _ (below_drew1 _),below_drew1 _⟩ | assumption | (have hq:=below_on (below_drew1 W0) hb;exact ⟨HL.out _ hq,hq⟩)) ((go_at_call 101;refine (alone_any _).mono ?_;rintro e w1 ⟨rfl,hm,hb⟩;have hl:(Instr.lookup 201 (.map (some W0.heap.size)) (.int .i64 op) true).run Tryz.prog w1 = .ok (.tuple #[.func (.func fk) #[] #[],.bool true]) w1:=run_lookup_hit (n:=op) Tryz.underlying201 Tryz.underlying27 hm HF.out))
 have bel:Below bx w w1:=HB.out.trans ((below_on (below_drew1 W0) hb).mono (by omega))
 have c1:Chg [g] w w1:=Chg.of_below (by rw [HS.out];exact bel)
 have h1:=H.out.chg (Chg.of_below (F:=[]) (by rw [HS.out];exact bel)) (by simp)
 obtain ⟨y1,y2⟩:=h1.at HZ.out
 have hx1:Blk w1 bx _:=HX.out.below (below_on (below_drew1 W0) hb)
 have x0:=(hx1 0 _ rfl).1
 have x1:=(hx1 1 _ rfl).1
 have x2:=(hx1 2 _ rfl).1
 have x3:=(hx1 3 _ rfl).1
 have hbg:(bx == g) = false:=by simp;exact hw
 have H1:=Lib.hid h1
 have C1:=Lib.hid c1
 clear hl hm hb bel c1 h1 hx1 HL HB HX
 go_wp2_with fail
 refine (HC.out _ (H1.out.set _ _)).mono ?_
 rintro e w2 ⟨rfl,k1,k2⟩
 have K1:=Lib.hid k1
 have K2:=Lib.hid k2
 clear k1 k2
 go_wp2_with fail
 go_ret
 exact ⟨rfl,((C1.out.setCell _ (.inl (by simp))).trans K1.out (fun x hx=>.inl hx)),K2.out⟩
theorem zero_func (w:World):(zeroValue 199).run Tryz.prog w = .ok .nilFunc w:=by kernel_rfl
theorem StkAt.get {w:World} {g n cap:Nat} {z:List Int} (h:StkAt w g n cap z) (j:Nat) (hj:j < n * 11):w.cell? ⟨g,j,none⟩ = some (.int .i64 (z.getD j 0)) ∧ w.frozen? ⟨g,j,none⟩ = false:=by
 obtain ⟨x,hx,h1,h2⟩:=h.cell j hj
 rw [List.getD_eq_getElem?_getD,hx]
 exact ⟨h1,h2⟩
theorem wr64_eq (v:Int):wr64 v = wrap64 v:=by unfold wr64 wrap64;rw [IntKind.wrap_i64]
theorem boxed {w:World} {g n cap:Nat} {z:List Int} (h:StkAt w g n cap z) (op A B C:Int) :
  let w1:=w.alloc (.cells #[.int .i64 op,.int .i64 A,.int .i64 B,.int .i64 C] 29)
  w1.cell? ⟨w.heap.size,1,none⟩ = some (.int .i64 A) ∧ w1.cell? ⟨w.heap.size,2,none⟩ = some (.int .i64 B) ∧ w1.cell? ⟨w.heap.size,3,none⟩ = some (.int .i64 C) ∧ StkAt w1 g n cap z ∧ Chg [g] w w1:=by
 have hb:=Blk.mk w [.int .i64 op,.int .i64 A,.int .i64 B,.int .i64 C] 29 w.heap.size rfl
 exact ⟨(hb 1 _ rfl).1,(hb 2 _ rfl).1,(hb 3 _ rfl).1,h.below (below_alloc1 _ _),Chg.of_below (below_alloc1 _ _)⟩
theorem stk_fin {w w1:World} {g n cap:Nat} {z:List Int} (h:StkAt w1 g n cap z) (c:Chg [g] w w1) (j:Nat) (x:Int):Chg [g] w ((w1.setCell ⟨g,j,none⟩ (.int .i64 x)).drew) ∧ StkAt ((w1.setCell ⟨g,j,none⟩ (.int .i64 x)).drew) g n cap (z.set j x) :=
 ⟨(c.setCell _ (.inl (by simp))).drew,(h.set j x).below (below_drew1 _)⟩
theorem stk_fin0 {w w1:World} {g n cap:Nat} {z:List Int} (h:StkAt w1 g n cap z) (c:Chg [g] w w1) (j:Nat) (x:Int):Chg [g] w (w1.setCell ⟨g,j,none⟩ (.int .i64 x)) ∧ StkAt (w1.setCell ⟨g,j,none⟩ (.int .i64 x)) g n cap (z.set j x) :=
 ⟨c.setCell _ (.inl (by simp)),h.set j x⟩
theorem fp_nop (g o n cap:Nat) (A B C:Int) (z:List Int) (op:Int) (w:World) (h:StkAt w g n cap z) (ho:o + 11 ≤ n * 11) :
  Calls Tryz.prog 118 #[.pointer (some ⟨g,o,none⟩),.agg #[.int .i64 op,.int .i64 A,.int .i64 B,.int .i64 C]] w fun e w'=>e = .returned (.tuple #[]) ∧ Chg [g] w w' ∧ StkAt w' g n cap (z):=by
 have hf:=(show Chg [g] w (w.alloc (.cells #[.int .i64 op,.int .i64 A,.int .i64 B,.int .i64 C] 29)) ∧ StkAt (w.alloc (.cells #[.int .i64 op,.int .i64 A,.int .i64 B,.int .i64 C] 29)) g n cap z from ⟨Chg.of_below (below_alloc1 _ _),h.below (below_alloc1 _ _)⟩)
 have HF:=Lib.hid hf
 clear hf h
 go_enter Tryz.func118,Tryz.ntmps118
 go_wp2
 go_end0
 exact ⟨rfl,HF.out⟩
theorem fp_move (g o n cap:Nat) (a b:Nat) (ha:a < 8) (hb:b < 8) (C:Int) (z:List Int) (op:Int) (w:World) (h:StkAt w g n cap z) (ho:o + 11 ≤ n * 11) :
  Calls Tryz.prog 120 #[.pointer (some ⟨g,o,none⟩),.agg #[.int .i64 op,.int .i64 (a:Int),.int .i64 (b:Int),.int .i64 C]] w fun e w'=>e = .returned (.tuple #[]) ∧ Chg [g] w w' ∧ StkAt w' g n cap (z.set (o + 2 + a) (z.getD (o + 2 + b) 0)):=by
 have a0:(0:Int) ≤ (a:Int):=by omega
 have a8:(a:Int) < 8:=by omega
 have b0:(0:Int) ≤ (b:Int):=by omega
 have b8:(b:Int) < 8:=by omega
 have hlt:=h.lt
 obtain ⟨x1,x2,x3,h1,c1⟩:=boxed h op (a:Int) (b:Int) C
 obtain ⟨s0,f0⟩:=h1.get (o + 2 + a) (by omega)
 obtain ⟨s1,-⟩:=h1.get (o + 2 + b) (by omega)
 have HF:=Lib.hid (stk_fin h1 c1 (o + 2 + a) (z.getD (o + 2 + b) 0))
 generalize z.getD (o + 2 + b) 0 = v at *
 generalize z.getD (o + 2 + a) 0 = u at *
 clear h h1 c1
 go_enter Tryz.func120,Tryz.ntmps120
 go_upto_region 1 with fail
 generalize w.alloc (.cells #[.int .i64 op,.int .i64 (a:Int),.int .i64 (b:Int),.int .i64 C] 29) = w1 at *
 generalize w.heap.size = bx at *
 refine wp_region_lexK (fun wx=>∃ nq,wx = World.drewN (w1) nq) 13 1 (Array.replicate 14 false) #[true,true,true,true,true,true,true,true,true,true,true,true,true,false] (by kernel_rfl) (by kernel_rfl) ?_
 refine wpAnyK_seg 0 13 _ #[true,true,true,true,true,true,true,true,true,true,true,true,true,false] 0 (by kernel_rfl) noPanic_put (drew_q w1) (by kernel_rfl) ?_
 simp only [List.take_succ_cons,List.take_zero,List.drop_zero]
 repeat ((first | refine wpSegH_no (by rfl) ?_ | (refine wpSegH_yes (by rfl) ?_;apply Exists.intro;apply And.intro;(· (rintro wx ⟨nq,rfl⟩;go_simp;first | done | with_reducible rfl))));simp only [Act.put,List.setIfInBounds_toArray,List.set_cons_zero,List.set_cons_succ])
 refine wpSegH_nil ?_
 refine wpAnyK_next ?_
 refine wpAnyK_seq 13 (by kernel_rfl) ?_
 simp only [List.drop_succ_cons,List.drop_zero]
 go_wp2_with fail
 refine NoPanic.normal ?_
 go_end0
 exact ⟨rfl,by first | exact HF.out | (have:=HF.out;simp only [wr64_eq] at this ⊢;exact this)⟩
theorem fp_add (g o n cap:Nat) (a b c:Nat) (ha:a < 8) (hb:b < 8) (hc:c < 8) (z:List Int) (op:Int) (w:World) (h:StkAt w g n cap z) (ho:o + 11 ≤ n * 11) :
  Calls Tryz.prog 121 #[.pointer (some ⟨g,o,none⟩),.agg #[.int .i64 op,.int .i64 (a:Int),.int .i64 (b:Int),.int .i64 (c:Int)]] w fun e w'=>e = .returned (.tuple #[]) ∧ Chg [g] w w' ∧ StkAt w' g n cap (z.set (o + 2 + a) (wr64 (z.getD (o + 2 + b) 0 + z.getD (o + 2 + c) 0))):=by
 have a0:(0:Int) ≤ (a:Int):=by omega
 have a8:(a:Int) < 8:=by omega
 have b0:(0:Int) ≤ (b:Int):=by omega
 have b8:(b:Int) < 8:=by omega
 have c0:(0:Int) ≤ (c:Int):=by omega
 have c8:(c:Int) < 8:=by omega
 have hlt:=h.lt
 obtain ⟨x1,x2,x3,h1,c1⟩:=boxed h op (a:Int) (b:Int) (c:Int)
 obtain ⟨s0,f0⟩:=h1.get (o + 2 + a) (by omega)
 obtain ⟨s1,-⟩:=h1.get (o + 2 + b) (by omega)
 obtain ⟨s2,-⟩:=h1.get (o + 2 + c) (by omega)
 have HF:=Lib.hid (stk_fin h1 c1 (o + 2 + a) (wr64 (z.getD (o + 2 + b) 0 + z.getD (o + 2 + c) 0)))
 generalize z.getD (o + 2 + b) 0 = v at *
 generalize z.getD (o + 2 + c) 0 = v' at *
 generalize z.getD (o + 2 + a) 0 = u at *
 clear h h1 c1
 go_enter Tryz.func121,Tryz.ntmps121
 go_upto_region 1 with fail
 generalize w.alloc (.cells #[.int .i64 op,.int .i64 (a:Int),.int .i64 (b:Int),.int .i64 (c:Int)] 29) = w1 at *
 generalize w.heap.size = bx at *
 refine wp_region_lexK (fun wx=>∃ nq,wx = World.drewN (w1) nq) 21 1 (Array.replicate 22 false) #[true,true,true,true,true,true,true,true,true,true,true,true,true,true,true,true,true,true,true,true,true,false] (by kernel_rfl) (by kernel_rfl) ?_
 refine wpAnyK_seg 0 21 _ #[true,true,true,true,true,true,true,true,true,true,true,true,true,true,true,true,true,true,true,true,true,false] 0 (by kernel_rfl) noPanic_put (drew_q w1) (by kernel_rfl) ?_
 simp only [List.take_succ_cons,List.take_zero,List.drop_zero]
 repeat ((first | refine wpSegH_no (by rfl) ?_ | (refine wpSegH_yes (by rfl) ?_;apply Exists.intro;apply And.intro;(· (rintro wx ⟨nq,rfl⟩;go_simp;first | done | with_reducible rfl))));simp only [Act.put,List.setIfInBounds_toArray,List.set_cons_zero,List.set_cons_succ])
 refine wpSegH_nil ?_
 refine wpAnyK_next ?_
 refine wpAnyK_seq 21 (by kernel_rfl) ?_
 simp only [List.drop_succ_cons,List.drop_zero]
 go_wp2_with fail
 refine NoPanic.normal ?_
 go_end0
 exact ⟨rfl,by first | exact HF.out | (have:=HF.out;simp only [wr64_eq] at this ⊢;exact this)⟩
theorem fp_sub (g o n cap:Nat) (a b c:Nat) (ha:a < 8) (hb:b < 8) (hc:c < 8) (z:List Int) (op:Int) (w:World) (h:StkAt w g n cap z) (ho:o + 11 ≤ n * 11) :
  Calls Tryz.prog 122 #[.pointer (some ⟨g,o,none⟩),.agg #[.int .i64 op,.int .i64 (a:Int),.int .i64 (b:Int),.int .i64 (c:Int)]] w fun e w'=>e = .returned (.tuple #[]) ∧ Chg [g] w w' ∧ StkAt w' g n cap (z.set (o + 2 + a) (wr64 (z.getD (o + 2 + b) 0 - z.getD (o + 2 + c) 0))):=by
 have a0:(0:Int) ≤ (a:Int):=by omega
 have a8:(a:Int) < 8:=by omega
 have b0:(0:Int) ≤ (b:Int):=by omega
 have b8:(b:Int) < 8:=by omega
 have c0:(0:Int) ≤ (c:Int):=by omega
 have c8:(c:Int) < 8:=by omega
 have hlt:=h.lt
 obtain ⟨x1,x2,x3,h1,c1⟩:=boxed h op (a:Int) (b:Int) (c:Int)
 obtain ⟨s0,f0⟩:=h1.get (o + 2 + a) (by omega)
 obtain ⟨s1,-⟩:=h1.get (o + 2 + b) (by omega)
 obtain ⟨s2,-⟩:=h1.get (o + 2 + c) (by omega)
 have HF:=Lib.hid (stk_fin h1 c1 (o + 2 + a) (wr64 (z.getD (o + 2 + b) 0 - z.getD (o + 2 + c) 0)))
 generalize z.getD (o + 2 + b) 0 = v at *
 generalize z.getD (o + 2 + c) 0 = v' at *
 generalize z.getD (o + 2 + a) 0 = u at *
 clear h h1 c1
 go_enter Tryz.func122,Tryz.ntmps122
 go_upto_region 1 with fail
 generalize w.alloc (.cells #[.int .i64 op,.int .i64 (a:Int),.int .i64 (b:Int),.int .i64 (c:Int)] 29) = w1 at *
 generalize w.heap.size = bx at *
 refine wp_region_lexK (fun wx=>∃ nq,wx = World.drewN (w1) nq) 21 1 (Array.replicate 22 false) #[true,true,true,true,true,true,true,true,true,true,true,true,true,true,true,true,true,true,true,true,true,false] (by kernel_rfl) (by kernel_rfl) ?_
 refine wpAnyK_seg 0 21 _ #[true,true,true,true,true,true,true,true,true,true,true,true,true,true,true,true,true,true,true,true,true,false] 0 (by kernel_rfl) noPanic_put (drew_q w1) (by kernel_rfl) ?_
 simp only [List.take_succ_cons,List.take_zero,List.drop_zero]
 repeat ((first | refine wpSegH_no (by rfl) ?_ | (refine wpSegH_yes (by rfl) ?_;apply Exists.intro;apply And.intro;(· (rintro wx ⟨nq,rfl⟩;go_simp;first | done | with_reducible rfl))));simp only [Act.put,List.setIfInBounds_toArray,List.set_cons_zero,List.set_cons_succ])
 refine wpSegH_nil ?_
 refine wpAnyK_next ?_
 refine wpAnyK_seq 21 (by kernel_rfl) ?_
 simp only [List.drop_succ_cons,List.drop_zero]
 go_wp2_with fail
 refine NoPanic.normal ?_
 go_end0
 exact ⟨rfl,by first | exact HF.out | (have:=HF.out;simp only [wr64_eq] at this ⊢;exact this)⟩
theorem fp_mul (g o n cap:Nat) (a b c:Nat) (ha:a < 8) (hb:b < 8) (hc:c < 8) (z:List Int) (op:Int) (w:World) (h:StkAt w g n cap z) (ho:o + 11 ≤ n * 11) :
  Calls Tryz.prog 123 #[.pointer (some ⟨g,o,none⟩),.agg #[.int .i64 op,.int .i64 (a:Int),.int .i64 (b:Int),.int .i64 (c:Int)]] w fun e w'=>e = .returned (.tuple #[]) ∧ Chg [g] w w' ∧ StkAt w' g n cap (z.set (o + 2 + a) (wr64 (z.getD (o + 2 + b) 0 * z.getD (o + 2 + c) 0))):=by
 have a0:(0:Int) ≤ (a:Int):=by omega
 have a8:(a:Int) < 8:=by omega
 have b0:(0:Int) ≤ (b:Int):=by omega
 have b8:(b:Int) < 8:=by omega
 have c0:(0:Int) ≤ (c:Int):=by omega
 have c8:(c:Int) < 8:=by omega
 have hlt:=h.lt
 obtain ⟨x1,x2,x3,h1,c1⟩:=boxed h op (a:Int) (b:Int) (c:Int)
 obtain ⟨s0,f0⟩:=h1.get (o + 2 + a) (by omega)
 obtain ⟨s1,-⟩:=h1.get (o + 2 + b) (by omega)
 obtain ⟨s2,-⟩:=h1.get (o + 2 + c) (by omega)
 have HF:=Lib.hid (stk_fin h1 c1 (o + 2 + a) (wr64 (z.getD (o + 2 + b) 0 * z.getD (o + 2 + c) 0)))
 generalize z.getD (o + 2 + b) 0 = v at *
 generalize z.getD (o + 2 + c) 0 = v' at *
 generalize z.getD (o + 2 + a) 0 = u at *
 clear h h1 c1
 go_enter Tryz.func123,Tryz.ntmps123
 go_upto_region 1 with fail
 generalize w.alloc (.cells #[.int .i64 op,.int .i64 (a:Int),.int .i64 (b:Int),.int .i64 (c:Int)] 29) = w1 at *
 generalize w.heap.size = bx at *
 refine wp_region_lexK (fun wx=>∃ nq,wx = World.drewN (w1) nq) 21 1 (Array.replicate 22 false) #[true,true,true,true,true,true,true,true,true,true,true,true,true,true,true,true,true,true,true,true,true,false] (by kernel_rfl) (by kernel_rfl) ?_
 refine wpAnyK_seg 0 21 _ #[true,true,true,true,true,true,true,true,true,true,true,true,true,true,true,true,true,true,true,true,true,false] 0 (by kernel_rfl) noPanic_put (drew_q w1) (by kernel_rfl) ?_
 simp only [List.take_succ_cons,List.take_zero,List.drop_zero]
 repeat ((first | refine wpSegH_no (by rfl) ?_ | (refine wpSegH_yes (by rfl) ?_;apply Exists.intro;apply And.intro;(· (rintro wx ⟨nq,rfl⟩;go_simp;first | done | with_reducible rfl))));simp only [Act.put,List.setIfInBounds_toArray,List.set_cons_zero,List.set_cons_succ])
 refine wpSegH_nil ?_
 refine wpAnyK_next ?_
 refine wpAnyK_seq 21 (by kernel_rfl) ?_
 simp only [List.drop_succ_cons,List.drop_zero]
 go_wp2_with fail
 refine NoPanic.normal ?_
 go_end0
 exact ⟨rfl,by first | exact HF.out | (have:=HF.out;simp only [wr64_eq] at this ⊢;exact this)⟩
theorem fp_less (g o n cap:Nat) (a b c:Nat) (ha:a < 8) (hb:b < 8) (hc:c < 8) (z:List Int) (op:Int) (w:World) (h:StkAt w g n cap z) (ho:o + 11 ≤ n * 11) :
  Calls Tryz.prog 124 #[.pointer (some ⟨g,o,none⟩),.agg #[.int .i64 op,.int .i64 (a:Int),.int .i64 (b:Int),.int .i64 (c:Int)]] w fun e w'=>e = .returned (.tuple #[]) ∧ Chg [g] w w' ∧ StkAt w' g n cap (z.set (o + 2 + a) (if z.getD (o + 2 + b) 0 < z.getD (o + 2 + c) 0 then 1 else 0)):=by
 have hlt:=h.lt
 obtain ⟨x1,x2,x3,h1,c1⟩:=boxed h op (a:Int) (b:Int) (c:Int)
 obtain ⟨s0,f0⟩:=h1.get (o + 2 + a) (by omega)
 obtain ⟨s1,-⟩:=h1.get (o + 2 + b) (by omega)
 obtain ⟨s2,-⟩:=h1.get (o + 2 + c) (by omega)
 have HF1:=fun x=>(show Chg [g] w (((w.alloc (.cells #[.int .i64 op,.int .i64 (a:Int),.int .i64 (b:Int),.int .i64 (c:Int)] 29)).setCell ⟨g,o + 2 + a,none⟩ (.int .i64 x)).drewN 2) ∧ StkAt (((w.alloc (.cells #[.int .i64 op,.int .i64 (a:Int),.int .i64 (b:Int),.int .i64 (c:Int)] 29)).setCell ⟨g,o + 2 + a,none⟩ (.int .i64 x)).drewN 2) g n cap (z.set (o + 2 + a) x) from ⟨(c1.setCell _ (.inl (by simp))).drewN 2,(h1.set _ _).below (below_dN _ 2)⟩)
 have a0:(0:Int) ≤ (a:Int):=by omega
 have a8:(a:Int) < 8:=by omega
 have b0:(0:Int) ≤ (b:Int):=by omega
 have b8:(b:Int) < 8:=by omega
 have c0:(0:Int) ≤ (c:Int):=by omega
 have c8:(c:Int) < 8:=by omega
 generalize z.getD (o + 2 + b) 0 = v at *
 generalize z.getD (o + 2 + c) 0 = v' at *
 generalize z.getD (o + 2 + a) 0 = u at *
 clear h h1 c1
 by_cases hl:v < v'
 ·rw [if_pos hl]
  have HF:=Lib.hid (HF1 1)
  have hd:decide (v < v') = true:=by simpa using hl
  clear HF1 hl
  go_enter Tryz.func124,Tryz.ntmps124
  go_upto_region 2 with fail
  generalize w.alloc (.cells #[.int .i64 op,.int .i64 (a:Int),.int .i64 (b:Int),.int .i64 (c:Int)] 29) = w1 at *
  generalize w.heap.size = bx at *
  refine wp_region_lexK (fun wx=>∃ nq,wx = World.drewN (w1) nq) 15 0 (Array.replicate 15 false) #[true,true,true,true,true,true,true,true,true,true,true,true,true,true,true] (by kernel_rfl) (by kernel_rfl) ?_
  refine wpAnyK_seg 0 15 _ #[true,true,true,true,true,true,true,true,true,true,true,true,true,true,true] 0 (by kernel_rfl) noPanic_put (drew_q w1) (by kernel_rfl) ?_
  simp only [List.take_succ_cons,List.take_zero,List.drop_zero]
  repeat ((first | refine wpSegH_no (by rfl) ?_ | (refine wpSegH_yes (by rfl) ?_;apply Exists.intro;apply And.intro;(· (rintro wx ⟨nq,rfl⟩;go_simp;first | done | with_reducible rfl))));simp only [Act.put,List.setIfInBounds_toArray,List.set_cons_zero,List.set_cons_succ])
  refine wpSegH_nil ?_
  refine wpAnyK_next ?_
  refine wpAnyK_done (by kernel_rfl) (NoPanic.normal ?_)
  go_upto_region 4 with fail
  refine wp_region_lexK (fun wx=>∃ nq,wx = World.drewN (w1) nq) 7 1 (Array.replicate 8 false) #[true,true,true,true,true,true,true,false] (by kernel_rfl) (by kernel_rfl) ?_
  refine wpAnyK_seg 0 7 _ #[true,true,true,true,true,true,true,false] 0 (by kernel_rfl) noPanic_put ((by first | exact ⟨2,rfl⟩ | exact ⟨_,rfl⟩)) (by kernel_rfl) ?_
  simp only [List.take_succ_cons,List.take_zero,List.drop_zero]
  repeat ((first | refine wpSegH_no (by rfl) ?_ | (refine wpSegH_yes (by rfl) ?_;apply Exists.intro;apply And.intro;(· (rintro wx ⟨nq,rfl⟩;go_simp;first | done | with_reducible rfl))));simp only [Act.put,List.setIfInBounds_toArray,List.set_cons_zero,List.set_cons_succ])
  refine wpSegH_nil ?_
  refine wpAnyK_next ?_
  refine wpAnyK_seq 7 (by kernel_rfl) ?_
  simp only [List.drop_succ_cons,List.drop_zero]
  go_wp2_with fail
  refine NoPanic.normal ?_
  go_end0
  exact ⟨rfl,HF.out⟩
 ·rw [if_neg hl]
  have HF:=Lib.hid (HF1 0)
  have hd:decide (v < v') = false:=by simpa using hl
  clear HF1 hl
  go_enter Tryz.func124,Tryz.ntmps124
  go_upto_region 2 with fail
  generalize w.alloc (.cells #[.int .i64 op,.int .i64 (a:Int),.int .i64 (b:Int),.int .i64 (c:Int)] 29) = w1 at *
  generalize w.heap.size = bx at *
  refine wp_region_lexK (fun wx=>∃ nq,wx = World.drewN (w1) nq) 15 0 (Array.replicate 15 false) #[true,true,true,true,true,true,true,true,true,true,true,true,true,true,true] (by kernel_rfl) (by kernel_rfl) ?_
  refine wpAnyK_seg 0 15 _ #[true,true,true,true,true,true,true,true,true,true,true,true,true,true,true] 0 (by kernel_rfl) noPanic_put (drew_q w1) (by kernel_rfl) ?_
  simp only [List.take_succ_cons,List.take_zero,List.drop_zero]
  repeat ((first | refine wpSegH_no (by rfl) ?_ | (refine wpSegH_yes (by rfl) ?_;apply Exists.intro;apply And.intro;(· (rintro wx ⟨nq,rfl⟩;go_simp;first | done | with_reducible rfl))));simp only [Act.put,List.setIfInBounds_toArray,List.set_cons_zero,List.set_cons_succ])
  refine wpSegH_nil ?_
  refine wpAnyK_next ?_
  refine wpAnyK_done (by kernel_rfl) (NoPanic.normal ?_)
  go_upto_region 4 with fail
  refine wp_region_lexK (fun wx=>∃ nq,wx = World.drewN (w1) nq) 7 1 (Array.replicate 8 false) #[true,true,true,true,true,true,true,false] (by kernel_rfl) (by kernel_rfl) ?_
  refine wpAnyK_seg 0 7 _ #[true,true,true,true,true,true,true,false] 0 (by kernel_rfl) noPanic_put ((by first | exact ⟨2,rfl⟩ | exact ⟨_,rfl⟩)) (by kernel_rfl) ?_
  simp only [List.take_succ_cons,List.take_zero,List.drop_zero]
  repeat ((first | refine wpSegH_no (by rfl) ?_ | (refine wpSegH_yes (by rfl) ?_;apply Exists.intro;apply And.intro;(· (rintro wx ⟨nq,rfl⟩;go_simp;first | done | with_reducible rfl))));simp only [Act.put,List.setIfInBounds_toArray,List.set_cons_zero,List.set_cons_succ])
  refine wpSegH_nil ?_
  refine wpAnyK_next ?_
  refine wpAnyK_seq 7 (by kernel_rfl) ?_
  simp only [List.drop_succ_cons,List.drop_zero]
  go_wp2_with fail
  refine NoPanic.normal ?_
  go_end0
  exact ⟨rfl,HF.out⟩
theorem fp_jump (g o n cap:Nat) (A B C:Int) (z:List Int) (op:Int) (w:World) (h:StkAt w g n cap z) (ho:o + 11 ≤ n * 11) :
  Calls Tryz.prog 125 #[.pointer (some ⟨g,o,none⟩),.agg #[.int .i64 op,.int .i64 A,.int .i64 B,.int .i64 C]] w fun e w'=>e = .returned (.tuple #[]) ∧ Chg [g] w w' ∧ StkAt w' g n cap (z.set (o + 1) A):=by
 have hlt:=h.lt
 obtain ⟨x1,x2,x3,h1,c1⟩:=boxed h op A B C
 have H:=Lib.hid h1
 have C1:=Lib.hid c1
 clear h
 go_enter Tryz.func125,Tryz.ntmps125
 go_upto_region 1 with fail
 generalize w.alloc (.cells #[.int .i64 op,.int .i64 A,.int .i64 B,.int .i64 C] 29) = w1 at *
 generalize w.heap.size = bx at *
 obtain ⟨s0,f0⟩:=H.out.get (o + 1) (by omega)
 have HF:=Lib.hid (stk_fin0 H.out C1.out (o + 1) A)
 generalize z.getD (o + 1) 0 = u at *
 clear h1 c1 H C1
 go_wp2
 go_end0
 exact ⟨rfl,HF.out⟩
theorem fp_if (g o n cap:Nat) (a:Nat) (ha:a < 8) (B C:Int) (z:List Int) (op:Int) (w:World) (h:StkAt w g n cap z) (ho:o + 11 ≤ n * 11) :
  Calls Tryz.prog 126 #[.pointer (some ⟨g,o,none⟩),.agg #[.int .i64 op,.int .i64 (a:Int),.int .i64 B,.int .i64 C]] w fun e w'=>e = .returned (.tuple #[]) ∧ Chg [g] w w' ∧ StkAt w' g n cap (if z.getD (o + 2 + a) 0 = 0 then z else z.set (o + 1) B):=by
 have hlt:=h.lt
 obtain ⟨x1,x2,x3,h1,c1⟩:=boxed h op (a:Int) B C
 obtain ⟨s0,f0⟩:=h1.get (o + 1) (by omega)
 obtain ⟨s1,-⟩:=h1.get (o + 2 + a) (by omega)
 have HF0:=Lib.hid (show Chg [g] w ((w.alloc (.cells #[.int .i64 op,.int .i64 (a:Int),.int .i64 B,.int .i64 C] 29)).drew) ∧ StkAt ((w.alloc (.cells #[.int .i64 op,.int .i64 (a:Int),.int .i64 B,.int .i64 C] 29)).drew) g n cap z from ⟨c1.drew,h1.below (below_drew1 _)⟩)
 have HF1:=Lib.hid (stk_fin h1 c1 (o + 1) B)
 have a0:(0:Int) ≤ (a:Int):=by omega
 have a8:(a:Int) < 8:=by omega
 generalize z.getD (o + 2 + a) 0 = v at *
 generalize z.getD (o + 1) 0 = u at *
 clear h h1 c1
 by_cases hv:v = 0
 ·rw [if_pos hv]
  subst hv
  go_enter Tryz.func126,Tryz.ntmps126
  go_upto_region 1 with fail
  generalize w.alloc (.cells #[.int .i64 op,.int .i64 (a:Int),.int .i64 B,.int .i64 C] 29) = w1 at *
  generalize w.heap.size = bx at *
  refine wp_region_lexK (fun wx=>∃ nq,wx = World.drewN (w1) nq) 8 0 (Array.replicate 8 false) #[true,true,true,true,true,true,true,true] (by kernel_rfl) (by kernel_rfl) ?_
  refine wpAnyK_seg 0 8 _ #[true,true,true,true,true,true,true,true] 0 (by kernel_rfl) noPanic_put (drew_q w1) (by kernel_rfl) ?_
  simp only [List.take_succ_cons,List.take_zero,List.drop_zero]
  repeat ((first | refine wpSegH_no (by rfl) ?_ | (refine wpSegH_yes (by rfl) ?_;apply Exists.intro;apply And.intro;(· (rintro wx ⟨nq,rfl⟩;go_simp;first | done | with_reducible rfl))));simp only [Act.put,List.setIfInBounds_toArray,List.set_cons_zero,List.set_cons_succ])
  refine wpSegH_nil ?_
  refine wpAnyK_next ?_
  refine wpAnyK_done (by kernel_rfl) (NoPanic.normal ?_)
  go_wp2
  go_end0
  exact ⟨rfl,HF0.out⟩
 ·rw [if_neg hv]
  have hd:(v == 0) = false:=by simpa using hv
  have hd2:(v != 0) = true:=by simpa using hv
  clear hv
  go_enter Tryz.func126,Tryz.ntmps126
  go_upto_region 1 with fail
  generalize w.alloc (.cells #[.int .i64 op,.int .i64 (a:Int),.int .i64 B,.int .i64 C] 29) = w1 at *
  generalize w.heap.size = bx at *
  refine wp_region_lexK (fun wx=>∃ nq,wx = World.drewN (w1) nq) 8 0 (Array.replicate 8 false) #[true,true,true,true,true,true,true,true] (by kernel_rfl) (by kernel_rfl) ?_
  refine wpAnyK_seg 0 8 _ #[true,true,true,true,true,true,true,true] 0 (by kernel_rfl) noPanic_put (drew_q w1) (by kernel_rfl) ?_
  simp only [List.take_succ_cons,List.take_zero,List.drop_zero]
  repeat ((first | refine wpSegH_no (by rfl) ?_ | (refine wpSegH_yes (by rfl) ?_;apply Exists.intro;apply And.intro;(· (rintro wx ⟨nq,rfl⟩;go_simp;first | done | with_reducible rfl))));simp only [Act.put,List.setIfInBounds_toArray,List.set_cons_zero,List.set_cons_succ])
  refine wpSegH_nil ?_
  refine wpAnyK_next ?_
  refine wpAnyK_done (by kernel_rfl) (NoPanic.normal ?_)
  go_wp2
  go_end0
  exact ⟨rfl,HF1.out⟩
theorem enters_nop (args:Array Value) (w:World):(callFunc 118 args).run Tryz.prog w = .ok (.enter 118 args) w:=by kernel_rfl
theorem enters_move (args:Array Value) (w:World):(callFunc 120 args).run Tryz.prog w = .ok (.enter 120 args) w:=by kernel_rfl
theorem enters_sub (args:Array Value) (w:World):(callFunc 122 args).run Tryz.prog w = .ok (.enter 122 args) w:=by kernel_rfl
theorem enters_mul (args:Array Value) (w:World):(callFunc 123 args).run Tryz.prog w = .ok (.enter 123 args) w:=by kernel_rfl
theorem enters_less (args:Array Value) (w:World):(callFunc 124 args).run Tryz.prog w = .ok (.enter 124 args) w:=by kernel_rfl
theorem enters_jump (args:Array Value) (w:World):(callFunc 125 args).run Tryz.prog w = .ok (.enter 125 args) w:=by kernel_rfl
theorem enters_jumpIf (args:Array Value) (w:World):(callFunc 126 args).run Tryz.prog w = .ok (.enter 126 args) w:=by kernel_rfl
theorem getD_set1 (z:List Int) (o k:Nat) (x:Int):(z.set (o + 1) x).getD (o + 2 + k) 0 = z.getD (o + 2 + k) 0:=by
 rw [List.getD_eq_getElem?_getD,List.getD_eq_getElem?_getD,List.getElem?_set_ne (by omega)]
def PureOk (x:In4):Prop :=
 x.1 = 0 ∨ (x.1 = 1 ∧ 0 ≤ x.2.1 ∧ x.2.1 < 8) ∨ (x.1 = 2 ∧ (0 ≤ x.2.1 ∧ x.2.1 < 8) ∧ 0 ≤ x.2.2.1 ∧ x.2.2.1 < 8) ∨ ((x.1 = 3 ∨ x.1 = 4 ∨ x.1 = 5 ∨ x.1 = 6) ∧ (0 ≤ x.2.1 ∧ x.2.1 < 8) ∧ (0 ≤ x.2.2.1 ∧ x.2.2.1 < 8) ∧ 0 ≤ x.2.2.2 ∧ x.2.2.2 < 8) ∨ x.1 = 7 ∨ (x.1 = 8 ∧ 0 ≤ x.2.1 ∧ x.2.1 < 8)
theorem fpure_yes (g o n cap:Nat) (z z':List Int) (x:In4) (w:World) (h:StkAt w g n cap z) (ho:o + 11 ≤ n * 11) (hat:0 ≤ z.getD (o + 1) 0 ∧ z.getD (o + 1) 0 < 1000) (hx:PureOk x) (hz:pureM x o z = some z') :
  Calls Tryz.prog 90 #[.pointer (some ⟨g,o,none⟩),.agg #[.int .i64 x.1,.int .i64 x.2.1,.int .i64 x.2.2.1,.int .i64 x.2.2.2]] w fun e w'=>e = .returned (.bool true) ∧ Chg [g] w w' ∧ StkAt w' g n cap z':=by
 obtain ⟨op,A,B,C⟩:=x
 have hzo:z[o + 1]? = some (z.getD (o + 1) 0):=by
  have hl:o + 1 < z.length:=by rw [h.len];omega
  rw [List.getD_eq_getElem?_getD,List.getElem?_eq_getElem hl];rfl
 unfold pureM at hz
 simp only at hz ⊢
 generalize hat0:z.getD (o + 1) 0 = at0 at *
 rcases hx with hx | ⟨hx,hA⟩ | ⟨hx,hA,hB⟩ | ⟨hx,hA,hB,hC⟩ | hx | ⟨hx,hA⟩
 ·simp only at hx
  subst hx
  simp only [if_true,Option.some.injEq] at hz
  subst hz
  exact pure_any g o n cap _ 0 z _ 0 _ _ _ at0 w h hzo hat (by rfl) enters_nop (fun w' h'=>by
   exact fp_nop g o n cap A B C _ 0 w' h' ho)
 ·simp only at hx hA
  subst hx
  obtain ⟨a,rfl,ha⟩:=nat_of (n:=8) hA
  simp at hz
  subst hz
  exact pure_any g o n cap _ 1 z _ 1 _ _ _ at0 w h hzo hat (by rfl) enters_const (fun w' h'=>by
   exact constant_any g o a n cap _ B C w' ha h' ho)
 ·simp only at hx hA hB
  subst hx
  obtain ⟨a,rfl,ha⟩:=nat_of (n:=8) hA
  obtain ⟨b,rfl,hb⟩:=nat_of (n:=8) hB
  simp at hz
  subst hz
  exact pure_any g o n cap _ 2 z _ 2 _ _ _ at0 w h hzo hat (by rfl) enters_move (fun w' h'=>by
   have:=fp_move g o n cap a b ha hb C _ 2 w' h' ho
   rw [getD_set1] at this
   simpa using this)
 ·simp only at hx hA hB hC
  obtain ⟨a,rfl,ha⟩:=nat_of (n:=8) hA
  obtain ⟨b,rfl,hb⟩:=nat_of (n:=8) hB
  obtain ⟨c,rfl,hc⟩:=nat_of (n:=8) hC
  rcases hx with hx | hx | hx | hx
  ·subst hx
   simp at hz
   subst hz
   exact pure_any g o n cap _ 3 z _ 3 _ _ _ at0 w h hzo hat (by rfl) enters_add (fun w' h'=>by
    have:=fp_add g o n cap a b c ha hb hc _ 3 w' h' ho
    rw [getD_set1,getD_set1] at this
    simpa using this)
  ·subst hx
   simp at hz
   subst hz
   exact pure_any g o n cap _ 4 z _ 4 _ _ _ at0 w h hzo hat (by rfl) enters_sub (fun w' h'=>by
    have:=fp_sub g o n cap a b c ha hb hc _ 4 w' h' ho
    rw [getD_set1,getD_set1] at this
    simpa using this)
  ·subst hx
   simp at hz
   subst hz
   exact pure_any g o n cap _ 5 z _ 5 _ _ _ at0 w h hzo hat (by rfl) enters_mul (fun w' h'=>by
    have:=fp_mul g o n cap a b c ha hb hc _ 5 w' h' ho
    rw [getD_set1,getD_set1] at this
    simpa using this)
  ·subst hx
   simp at hz
   subst hz
   exact pure_any g o n cap _ 6 z _ 6 _ _ _ at0 w h hzo hat (by rfl) enters_less (fun w' h'=>by
    have:=fp_less g o n cap a b c ha hb hc _ 6 w' h' ho
    rw [getD_set1,getD_set1] at this
    simpa using this)
 ·simp only at hx
  subst hx
  simp at hz
  subst hz
  exact pure_any g o n cap _ 7 z _ 7 _ _ _ at0 w h hzo hat (by rfl) enters_jump (fun w' h'=>by
   have:=fp_jump g o n cap A B C _ 7 w' h' ho
   simpa using this)
 ·simp only at hx hA
  subst hx
  obtain ⟨a,rfl,ha⟩:=nat_of (n:=8) hA
  simp at hz
  subst hz
  exact pure_any g o n cap _ 8 z _ 8 _ _ _ at0 w h hzo hat (by rfl) enters_jumpIf (fun w' h'=>by
   have:=fp_if g o n cap a ha B C _ 8 w' h' ho
   rw [getD_set1] at this
   simpa using this)
theorem find_no (op:Int) (h:9 ≤ op ∧ op ≤ 22):Instr.findNow (.int .i64) (.int .i64 op) tableEs 0 = some none:=by
 have:op = 9 ∨ op = 10 ∨ op = 11 ∨ op = 12 ∨ op = 13 ∨ op = 14 ∨ op = 15 ∨ op = 16 ∨ op = 17 ∨ op = 18 ∨ op = 19 ∨ op = 20 ∨ op = 21 ∨ op = 22:=by omega
 rcases this with rfl | rfl | rfl | rfl | rfl | rfl | rfl | rfl | rfl | rfl | rfl | rfl | rfl | rfl <;> rfl
theorem fpure_no (v:Value) (op A B C:Int) (h9:9 ≤ op ∧ op ≤ 22) (w:World):Calls Tryz.prog 90 #[v,.agg #[.int .i64 op,.int .i64 A,.int .i64 B,.int .i64 C]] w fun e w'=>e = .returned (.bool false) ∧ Below w.heap.size w w':=by
 have HFI:=Lib.hid (find_no op h9)
 clear h9
 go_enter Tryz.func90,Tryz.ntmps90
 go_wp2_with fail
 have hx0:Blk (w.alloc (Obj.cells #[Value.int IntKind.i64 op,Value.int IntKind.i64 A,Value.int IntKind.i64 B,Value.int IntKind.i64 C] 29)) w.heap.size [Value.int IntKind.i64 op,Value.int IntKind.i64 A,Value.int IntKind.i64 B,Value.int IntKind.i64 C]:=Blk.mk w _ _ _ rfl
 have hB:=below_alloc1 w (Obj.cells #[Value.int IntKind.i64 op,Value.int IntKind.i64 A,Value.int IntKind.i64 B,Value.int IntKind.i64 C] 29)
 generalize w.alloc (Obj.cells #[Value.int IntKind.i64 op,Value.int IntKind.i64 A,Value.int IntKind.i64 B,Value.int IntKind.i64 C] 29) = W0 at *
 have hsz:=hB.size
 obtain ⟨bx,hbx⟩:∃ bx,w.heap.size = bx:=⟨_,rfl⟩
 rw [hbx] at hx0 hB hsz ⊢
 have HS:=Lib.hid hbx
 have HX:=Lib.hid hx0
 have HB:=Lib.hid hB
 clear hbx hx0 hB
 have hld:∀ w',Below W0.heap.size W0 w' → w'.cell? ⟨bx,0,none⟩ = some (.int .i64 op):=fun w' hb=>((HX.out.below hb) 0 _ rfl).1
 have HL:=Lib.hid hld
 clear hld
 go_region_held3 (fun w'=>w'.cell? ⟨bx,0,none⟩ = some (.int .i64 op) ∧ Below W0.heap.size W0 w') (first | exact ⟨HL.out _ (below_drew1 _),below_drew1 _⟩ | assumption | (have hq:=below_on (below_drew1 W0) hb;exact ⟨HL.out _ hq,hq⟩)) ((go_at_call 101;refine (alone_any _).mono ?_;rintro e w1 ⟨rfl,hm,hb⟩;have hl:(Instr.lookup 201 (.map (some W0.heap.size)) (.int .i64 op) true).run Tryz.prog w1 = .ok (.tuple #[.nilFunc,.bool false]) w1:=run_lookup_miss (n:=op) Tryz.underlying201 Tryz.underlying27 hm (zero_func _) HFI.out))
 go_wp2_with fail
 go_ret
 exact ⟨rfl,by rw [HS.out];exact HB.out.trans ((below_on (below_drew1 W0) hb).mono hsz)⟩
theorem wpList_store_new {P:Program} {w:World} {ops:Array Oper} {rest:List Oper} {o:Oper} {a:Act} {Q:Exit → Act → World → Prop}
  (hg:o.guard = none) (t:TypeId) (x v:Operand) (hop:o.op = Op.store t x v) (c c':Array Value) (hi:(P.info? t).map (·.size) = some c'.size) (ho:c.size = c'.size) (h1:c'.all (·.oneCell') = true)
  (hx:a.eval x = .pointer (some ⟨w.heap.size,0,none⟩)) (hv:a.eval v = .agg c')
  (hK:wpList P ops Q rest (a.put o.dst undef) (w.alloc (.cells c' t))):wpList P ops Q (o :: rest) a (w.alloc (.cells c t)):=by
 refine wpList_plain hg fun K' hK'=>?_
 have hrun:=run_storeAt_new (P:=P) w t c c' hi ho h1
 unfold Oper.wp
 simp [execOp,hop,hx,hv,hrun,Result.andThen]
 exact hK' _ _ (by simpa using hK)
theorem wpList_build {P:Program} {w:World} {ops:Array Oper} {rest:List Oper} {o:Oper} {a:Act} {Q:Exit → Act → World → Prop}
  (hg:o.guard = none) (t:TypeId) (ps:Array (Nat × Operand)) (hop:o.op = Op.build t ps) (v:Value) (hr:(Instr.build t (ps.map fun x=>(x.1,a.eval x.2))).run P w = .ok v w)
  (hK:wpList P ops Q rest (a.put o.dst v) w):wpList P ops Q (o :: rest) a w:=by
 refine wpList_plain hg fun K' hK'=>?_
 unfold Oper.wp
 simp only [execOp,hop]
 have hr':(Instr.build t (ps.map fun (i,x)=>(i,a.eval x))).run P w = .ok v w:=hr
 simp [hr',Result.andThen]
 exact hK' _ _ (by simpa using hK)
def nil23:Array Value:=#[.nilFunc,.nilFunc,.nilFunc,.nilFunc,.nilFunc,.nilFunc,.nilFunc,.nilFunc,.nilFunc,.nilFunc,.nilFunc,.nilFunc,.nilFunc,.nilFunc,.nilFunc,.nilFunc,.nilFunc,.nilFunc,.nilFunc,.nilFunc,.nilFunc,.nilFunc,.nilFunc]
def oth23:Array Value:=#[.nilFunc,.nilFunc,.nilFunc,.nilFunc,.nilFunc,.nilFunc,.nilFunc,.nilFunc,.nilFunc,.func (.func 102) #[] #[],.func (.func 103) #[] #[],.func (.func 104) #[] #[],.func (.func 105) #[] #[],.func (.func 106) #[] #[],.func (.func 106) #[] #[],.func (.func 107) #[] #[],.func (.func 108) #[] #[],.func (.func 109) #[] #[],.func (.func 110) #[] #[],.func (.func 111) #[] #[],.func (.func 112) #[] #[],.func (.func 113) #[] #[],.func (.func 114) #[] #[]]
theorem info_23:(Tryz.prog.info? 192).map (fun i=>(i.zero,i.size)) = some (some (.agg nil23),23):=by kernel_rfl
theorem others_any (w:World):Calls Tryz.prog 91 #[] w fun r w'=>r = .returned (.agg oth23) ∧ Below w.heap.size w w':=by
 obtain ⟨hz,hs⟩:=zero_of_info info_23
 have hsz:∀ w,(sizeOf 192).run Tryz.prog w = .ok 23 w:=fun w=>by
  cases hq:Tryz.prog.info? 192 with
  | none=>rw [hq] at hs;cases hs
  | some i=>rw [hq] at hs;simp at hs;simp [sizeOf,typeInfo,hq,hs]
 have hi:(Tryz.prog.info? 192).map (·.size) = some oth23.size:=hs
 have hld:=run_loadVar_new (P:=Tryz.prog) w 192 oth23 23 191 (by kernel_rfl) hi
 go_enter Tryz.func91,Tryz.ntmps91
 go_upto_region 1 with fail
 refine wp_region_lit ?_
 refine wpList_build rfl 192 _ rfl (.agg oth23) (by kernel_rfl) ?_
 refine wpList_store_new rfl 192 _ _ rfl nil23 oth23 hi rfl (by simp [oth23,Value.oneCell']) rfl (by rfl) ?_
 refine wpList_nil ?_
 have hb:=below_alloc1 w (.cells oth23 192)
 have hag:∀ w,(isAgg 192).run Tryz.prog w = .ok true w:=fun w=>by kernel_rfl
 have hsz1:=hsz (w.alloc (.cells oth23 192))
 have hag1:=hag (w.alloc (.cells oth23 192))
 generalize w.alloc (.cells oth23 192) = W1 at *
 have HL:=Lib.hid hld
 have HS:=Lib.hid hsz1
 have HG:=Lib.hid hag1
 have HB:=Lib.hid hb
 clear hz hsz hld hs hi hb hag hsz1 hag1
 generalize hOO:oth23 = OO at *
 have HOO:=Lib.hid hOO
 clear hOO
 simp only [Act.put,List.setIfInBounds_toArray,List.set_cons_zero,List.set_cons_succ]
 go_wp2
 refine bodyPost_ret (v:=.agg OO) ?_ rfl ⟨by rw [HOO.out],HB.out⟩
 have h1:=HL.out
 have h2:=HS.out
 have h3:=HG.out
 simp [results,Tryz.results91,Sem.run_bind,h1,Result.andThen,asAddr]
theorem dyield_any (q:Nat) (w:World):Calls Tryz.prog 105 #[.pointer (some ⟨q,0,none⟩)] w fun r w'=>r = .returned (.tuple #[]) ∧ w = w':=by
 go_enter Tryz.func105,Tryz.ntmps105
 go_wp2
 go_end0
 exact ⟨rfl,rfl⟩
theorem dend_any (q:Nat) (k:Int) (w:World) (h:w.cell? ⟨q,3,none⟩ = some (.int .i64 k)):Calls Tryz.prog 114 #[.pointer (some ⟨q,0,none⟩)] w fun r w'=>r = trapE k ∧ w = w':=by
 unfold trapE
 go_enter Tryz.func114,Tryz.ntmps114
 go_wp2
 exact ⟨rfl,rfl,rfl⟩
theorem dunlock_any {w0 w:World} {p:Nat} {T:List Value} {d:Dq} {W:Wd} {R:List Asr} (h:DAt w0 w p T d W [] R) (hg:d.g < W.gs.length) (hm:1 ≤ (W.g d.g).n ∧ (W.g d.g).n ≤ 16) (ha:0 ≤ d.x.2.1 ∧ d.x.2.1 < (W.Ls.length:Int))
  (hl:∀ L ∈ W.Ls,∀ x ∈ L,0 ≤ x ∧ x < (W.gs.length:Int)) (hk:W.Ls.length ≤ 1000) (hgs:W.gs.length ≤ 1000) :
  Calls Tryz.prog 111 #[.pointer (some ⟨d.q,0,none⟩)] w fun r w'=>DPost w0 p T d R (unlockM W [] d.g d.x) r w':=by
 obtain ⟨D,ra,rc,hf,h⟩:=h
 obtain ⟨a,hA,ha8⟩:=nat_of (n:=W.Ls.length) ha
 obtain ⟨b,off,s,cap,F⟩:=opF_of hf h hg hm
 have q0:=F.top.d0
 have q1:=F.top.d1
 have q3:=(h.cel 10 rfl 3 _ rfl).1
 have p4:=(h.cel 0 rfl 4 _ rfl).1
 rw [hA] at q3
 obtain ⟨pt,lb,lo,R',hla,l0,k1,k2⟩:=own_lock h hf ha8
 rw [hla] at p4
 have a0:(0:Int) ≤ (a:Int):=by omega
 have a8:(a:Int) < (W.Ls.length:Int):=by omega
 have hLl:=hl _ (List.mem_of_getElem? (Wd.lk_at ha8))
 obtain ⟨L,hL⟩:∃ L,L = W.lk (a:Int):=⟨_,rfl⟩
 rw [← hL] at k1 hLl
 have e:unlockM W [] d.g d.x = if (gaveR L (d.g:Int)).2 = 0 then (if (gaveR L (d.g:Int)).1 = -1 then ⟨{ W with Ls:=W.Ls.set a (gaveL L (d.g:Int)) },[],none⟩ else ⟨({ W with Ls:=W.Ls.set a (gaveL L (d.g:Int)) }:Wd).setSt (gaveR L (d.g:Int)).1.toNat 1,[(gaveR L (d.g:Int)).1],none⟩) else ⟨W,[],some (-3)⟩:=by
  unfold unlockM
  rw [hA,← hL]
  rfl
 rw [e]
 have HC:Hid (∀ k,Calls Tryz.prog 137 #[.pointer (some ⟨pt,0,none⟩),.int .i64 (d.g:Int)] (w.drewN k) fun r w'=>r = .returned (.tuple #[.int .i64 (gaveR L (d.g:Int)).1,.int .i64 (gaveR L (d.g:Int)).2]) ∧ DAt w0 w' p T d { W with Ls:=W.Ls.set a (gaveL L (d.g:Int)) } [] R) :=
  Lib.hid (fun k=>(o_kgive (k1.step (below_dN w k)) (d.g:Int)).mono (fun r w' hh=>⟨hh.1,D,ra,rc,(k2 _ _ hh.2).2,(k2 _ _ hh.2).1⟩))
 have hW1:gaveL L (d.g:Int) = L → ({ W with Ls:=W.Ls.set a (gaveL L (d.g:Int)) }:Wd) = W:=fun hh=>by rw [hh,hL,set_self _ _ _ (Wd.lk_at ha8)]
 have HW:=Lib.hid hW1
 have HWk:Hid (∀ w',DAt w0 w' p T d { W with Ls:=W.Ls.set a (gaveL L (d.g:Int)) } [] R → ∀ k:Nat,(k:Int) ∈ L → Calls Tryz.prog 129 #[.pointer (some ⟨d.q,0,none⟩),.int .i64 (k:Int)] w' fun r w''=>r = .returned (.tuple #[]) ∧ DAt w0 w'' p T d (({ W with Ls:=W.Ls.set a (gaveL L (d.g:Int)) }:Wd).setSt k 1) [(k:Int)] R) :=
  Lib.hid (fun w' h' k hk=>dwake_any (rd:=[]) h' k (by have:=hLl _ hk;show k < W.gs.length;omega) hgs (by simp))
 have HL:=Lib.hid hLl
 generalize W.Ls.length = N at *
 clear k1 k2 h F hf hA ha hl hLl hm e hW1 hL
 have hg3:(gaveR L (d.g:Int)).2 = 0 ∧ ((gaveR L (d.g:Int)).1 = -1 ∨ ∃ k:Nat,(gaveR L (d.g:Int)).1 = (k:Int) ∧ (k:Int) ∈ L) ∨ (gaveR L (d.g:Int)) = (-1,5) ∧ gaveL L (d.g:Int) = L:=by
  cases L with
  | nil=>exact .inr ⟨rfl,rfl⟩
  | cons x t =>
   unfold gaveR gaveL
   by_cases hx:x = (d.g:Int)
   ·left
    simp only [hx,if_true,true_and]
    cases t with
    | nil=>exact .inl rfl
    | cons y t =>
     have:=HL.out y (by simp)
     exact .inr ⟨y.toNat,by simp;omega,by simp;right;left;omega⟩
   ·right
    simp only [hx,if_false,and_self]
 rcases hg3 with ⟨h1,h2⟩ | ⟨h1,h2⟩
 ·rw [h1] at HC ⊢
  rw [if_pos rfl]
  rcases h2 with h2 | ⟨k,h2,h3⟩
  ·rw [h2] at HC ⊢
   rw [if_pos rfl]
   clear HW HWk HL h1 h2
   generalize ({ W with Ls:=W.Ls.set a (gaveL L (d.g:Int)) }:Wd) = W1 at *
   go_enter Tryz.func111,Tryz.ntmps111
   go_upto_region 0 with fail
   refine wp_region_lexK (fun wx=>∃ nq,wx = World.drewN (w) nq) 18 6 (Array.replicate 24 false) #[true,true,true,true,true,true,true,true,true,true,true,true,true,true,true,true,true,true,false,false,false,false,false,false] (by kernel_rfl) (by kernel_rfl) ?_
   refine wpAnyK_seg 0 18 _ #[true,true,true,true,true,true,true,true,true,true,true,true,true,true,true,true,true,true,false,false,false,false,false,false] 0 (by kernel_rfl) noPanic_put (drew_q w) (by kernel_rfl) ?_
   simp only [List.take_succ_cons,List.take_zero,List.drop_zero]
   repeat ((first | refine wpSegH_no (by rfl) ?_ | (refine wpSegH_yes (by rfl) ?_;apply Exists.intro;apply And.intro;(· (rintro wx ⟨nq,rfl⟩;go_simp;first | done | with_reducible rfl))));simp only [Act.put,List.setIfInBounds_toArray,List.set_cons_zero,List.set_cons_succ])
   refine wpSegH_nil ?_
   refine wpAnyK_next ?_
   refine wpAnyK_phase (fun _=>True) 6 0 #[true,true,true,true,true,true,true,true,true,true,true,true,true,true,true,true,true,true,true,true,true,true,true,true] ?_
   refine wpAnyK_one 18 _ #[true,true,true,true,true,true,true,true,true,true,true,true,true,true,true,true,true,true,true,false,false,false,false,false] 5 (by kernel_rfl) (fun K hK=>?_)
   have HKK:=Lib.hid hK
   clear hK
   simp only [List.drop_succ_cons,List.drop_zero]
   refine headH_mk (by rfl) ?_
   go_simp
   refine (HC.out 1).mono ?_
   rintro r w1 ⟨rfl,h1⟩
   refine HKK.out _ _ (trivial) ?_
   clear HKK K
   refine wpAnyK_seg 19 2 _ #[true,true,true,true,true,true,true,true,true,true,true,true,true,true,true,true,true,true,true,true,true,false,false,false] 3 (by kernel_rfl) noPanic_put (trivial) (by kernel_rfl) ?_
   simp only [List.take_succ_cons,List.take_zero,List.drop_succ_cons,List.drop_zero]
   repeat ((first | refine wpSegH_no (by rfl) ?_ | (refine wpSegH_yes (by rfl) ?_;apply Exists.intro;apply And.intro;(· (intro wx hS;(try dsimp only at hS);go_simp;first | done | with_reducible rfl))));simp only [Act.put,List.setIfInBounds_toArray,List.set_cons_zero,List.set_cons_succ])
   refine wpSegH_nil ?_
   refine wpAnyK_seg 22 1 _ #[true,true,true,true,true,true,true,true,true,true,true,true,true,true,true,true,true,true,true,true,true,false,true,false] 2 (by kernel_rfl) noPanic_put (trivial) (by kernel_rfl) ?_
   simp only [List.take_succ_cons,List.take_zero,List.drop_succ_cons,List.drop_zero]
   repeat ((first | refine wpSegH_no (by rfl) ?_ | (refine wpSegH_yes (by rfl) ?_;apply Exists.intro;apply And.intro;(· (intro wx hS;(try dsimp only at hS);go_simp;first | done | with_reducible rfl))));simp only [Act.put,List.setIfInBounds_toArray,List.set_cons_zero,List.set_cons_succ])
   refine wpSegH_nil ?_
   refine wpAnyK_seg 21 1 _ #[true,true,true,true,true,true,true,true,true,true,true,true,true,true,true,true,true,true,true,true,true,true,true,false] 1 (by kernel_rfl) noPanic_put (trivial) (by kernel_rfl) ?_
   simp only [List.take_succ_cons,List.take_zero,List.drop_succ_cons,List.drop_zero]
   repeat ((first | refine wpSegH_no (by rfl) ?_ | (refine wpSegH_yes (by rfl) ?_;apply Exists.intro;apply And.intro;(· (intro wx hS;(try dsimp only at hS);go_simp;first | done | with_reducible rfl))));simp only [Act.put,List.setIfInBounds_toArray,List.set_cons_zero,List.set_cons_succ])
   refine wpSegH_nil ?_
   refine wpAnyK_seg 23 1 _ #[true,true,true,true,true,true,true,true,true,true,true,true,true,true,true,true,true,true,true,true,true,true,true,true] 0 (by kernel_rfl) noPanic_put (trivial) (by kernel_rfl) ?_
   simp only [List.take_succ_cons,List.take_zero,List.drop_succ_cons,List.drop_zero]
   repeat ((first | refine wpSegH_no (by rfl) ?_ | (refine wpSegH_yes (by rfl) ?_;apply Exists.intro;apply And.intro;(· (intro wx hS;(try dsimp only at hS);go_simp;first | done | with_reducible rfl))));simp only [Act.put,List.setIfInBounds_toArray,List.set_cons_zero,List.set_cons_succ])
   refine wpSegH_nil ?_
   refine wpAnyK_next ?_
   refine wpAnyK_done (by kernel_rfl) (NoPanic.normal ?_)
   have H1:=Lib.hid h1
   clear h1 HC
   go_wp2
   go_end0
   exact ⟨rfl,H1.out⟩
  ·rw [h2] at HC ⊢
   rw [if_neg (by omega)]
   have hne:((k:Int) == -1) = false:=by simp
   simp only [Int.toNat_natCast]
   have HWk':=Lib.hid (fun w' h'=>HWk.out w' h' k h3)
   clear HW HWk HL h1 h2 h3
   generalize ({ W with Ls:=W.Ls.set a (gaveL L (d.g:Int)) }:Wd) = W1 at *
   go_enter Tryz.func111,Tryz.ntmps111
   go_upto_region 0 with fail
   refine wp_region_lexK (fun wx=>∃ nq,wx = World.drewN (w) nq) 18 6 (Array.replicate 24 false) #[true,true,true,true,true,true,true,true,true,true,true,true,true,true,true,true,true,true,false,false,false,false,false,false] (by kernel_rfl) (by kernel_rfl) ?_
   refine wpAnyK_seg 0 18 _ #[true,true,true,true,true,true,true,true,true,true,true,true,true,true,true,true,true,true,false,false,false,false,false,false] 0 (by kernel_rfl) noPanic_put (drew_q w) (by kernel_rfl) ?_
   simp only [List.take_succ_cons,List.take_zero,List.drop_zero]
   repeat ((first | refine wpSegH_no (by rfl) ?_ | (refine wpSegH_yes (by rfl) ?_;apply Exists.intro;apply And.intro;(· (rintro wx ⟨nq,rfl⟩;go_simp;first | done | with_reducible rfl))));simp only [Act.put,List.setIfInBounds_toArray,List.set_cons_zero,List.set_cons_succ])
   refine wpSegH_nil ?_
   refine wpAnyK_next ?_
   refine wpAnyK_phase (fun _=>True) 6 0 #[true,true,true,true,true,true,true,true,true,true,true,true,true,true,true,true,true,true,true,true,true,true,true,true] ?_
   refine wpAnyK_one 18 _ #[true,true,true,true,true,true,true,true,true,true,true,true,true,true,true,true,true,true,true,false,false,false,false,false] 5 (by kernel_rfl) (fun K hK=>?_)
   have HKK:=Lib.hid hK
   clear hK
   simp only [List.drop_succ_cons,List.drop_zero]
   refine headH_mk (by rfl) ?_
   go_simp
   refine (HC.out 1).mono ?_
   rintro r w1 ⟨rfl,h1⟩
   refine HKK.out _ _ (trivial) ?_
   clear HKK K
   refine wpAnyK_seg 19 2 _ #[true,true,true,true,true,true,true,true,true,true,true,true,true,true,true,true,true,true,true,true,true,false,false,false] 3 (by kernel_rfl) noPanic_put (trivial) (by kernel_rfl) ?_
   simp only [List.take_succ_cons,List.take_zero,List.drop_succ_cons,List.drop_zero]
   repeat ((first | refine wpSegH_no (by rfl) ?_ | (refine wpSegH_yes (by rfl) ?_;apply Exists.intro;apply And.intro;(· (intro wx hS;(try dsimp only at hS);go_simp;first | done | with_reducible rfl))));simp only [Act.put,List.setIfInBounds_toArray,List.set_cons_zero,List.set_cons_succ])
   refine wpSegH_nil ?_
   refine wpAnyK_seg 22 1 _ #[true,true,true,true,true,true,true,true,true,true,true,true,true,true,true,true,true,true,true,true,true,false,true,false] 2 (by kernel_rfl) noPanic_put (trivial) (by kernel_rfl) ?_
   simp only [List.take_succ_cons,List.take_zero,List.drop_succ_cons,List.drop_zero]
   repeat ((first | refine wpSegH_no (by rfl) ?_ | (refine wpSegH_yes (by rfl) ?_;apply Exists.intro;apply And.intro;(· (intro wx hS;(try dsimp only at hS);go_simp;first | done | with_reducible rfl))));simp only [Act.put,List.setIfInBounds_toArray,List.set_cons_zero,List.set_cons_succ])
   refine wpSegH_nil ?_
   refine wpAnyK_seg 21 1 _ #[true,true,true,true,true,true,true,true,true,true,true,true,true,true,true,true,true,true,true,true,true,true,true,false] 1 (by kernel_rfl) noPanic_put (trivial) (by kernel_rfl) ?_
   simp only [List.take_succ_cons,List.take_zero,List.drop_succ_cons,List.drop_zero]
   repeat ((first | refine wpSegH_no (by rfl) ?_ | (refine wpSegH_yes (by rfl) ?_;apply Exists.intro;apply And.intro;(· (intro wx hS;(try dsimp only at hS);go_simp;first | done | with_reducible rfl))));simp only [Act.put,List.setIfInBounds_toArray,List.set_cons_zero,List.set_cons_succ])
   refine wpSegH_nil ?_
   refine wpAnyK_seg 23 1 _ #[true,true,true,true,true,true,true,true,true,true,true,true,true,true,true,true,true,true,true,true,true,true,true,true] 0 (by kernel_rfl) noPanic_put (trivial) (by kernel_rfl) ?_
   simp only [List.take_succ_cons,List.take_zero,List.drop_succ_cons,List.drop_zero]
   repeat ((first | refine wpSegH_no (by rfl) ?_ | (refine wpSegH_yes (by rfl) ?_;apply Exists.intro;apply And.intro;(· (intro wx hS;(try dsimp only at hS);go_simp;first | done | with_reducible rfl))));simp only [Act.put,List.setIfInBounds_toArray,List.set_cons_zero,List.set_cons_succ])
   refine wpSegH_nil ?_
   refine wpAnyK_next ?_
   refine wpAnyK_done (by kernel_rfl) (NoPanic.normal ?_)
   have H1:=Lib.hid h1
   clear h1 HC
   go_wp2_with fail
   refine (HWk'.out _ H1.out).mono ?_
   rintro r w2 ⟨rfl,h2⟩
   have H2:=Lib.hid h2
   clear h2 H1 HWk'
   go_wp2
   go_end0
   exact ⟨rfl,H2.out⟩
 ·rw [HW.out h2] at HC
  rw [h1] at HC ⊢
  rw [if_neg (by decide)]
  clear HW HWk HL h1 h2
  go_enter Tryz.func111,Tryz.ntmps111
  go_upto_region 0 with fail
  refine wp_region_lexK (fun wx=>∃ nq,wx = World.drewN (w) nq) 18 6 (Array.replicate 24 false) #[true,true,true,true,true,true,true,true,true,true,true,true,true,true,true,true,true,true,false,false,false,false,false,false] (by kernel_rfl) (by kernel_rfl) ?_
  refine wpAnyK_seg 0 18 _ #[true,true,true,true,true,true,true,true,true,true,true,true,true,true,true,true,true,true,false,false,false,false,false,false] 0 (by kernel_rfl) noPanic_put (drew_q w) (by kernel_rfl) ?_
  simp only [List.take_succ_cons,List.take_zero,List.drop_zero]
  repeat ((first | refine wpSegH_no (by rfl) ?_ | (refine wpSegH_yes (by rfl) ?_;apply Exists.intro;apply And.intro;(· (rintro wx ⟨nq,rfl⟩;go_simp;first | done | with_reducible rfl))));simp only [Act.put,List.setIfInBounds_toArray,List.set_cons_zero,List.set_cons_succ])
  refine wpSegH_nil ?_
  refine wpAnyK_next ?_
  refine wpAnyK_phase (fun _=>True) 6 0 #[true,true,true,true,true,true,true,true,true,true,true,true,true,true,true,true,true,true,true,true,true,true,true,true] ?_
  refine wpAnyK_one 18 _ #[true,true,true,true,true,true,true,true,true,true,true,true,true,true,true,true,true,true,true,false,false,false,false,false] 5 (by kernel_rfl) (fun K hK=>?_)
  have HKK:=Lib.hid hK
  clear hK
  simp only [List.drop_succ_cons,List.drop_zero]
  refine headH_mk (by rfl) ?_
  go_simp
  refine (HC.out 1).mono ?_
  rintro r w1 ⟨rfl,h1⟩
  refine HKK.out _ _ (trivial) ?_
  clear HKK K
  refine wpAnyK_seg 19 2 _ #[true,true,true,true,true,true,true,true,true,true,true,true,true,true,true,true,true,true,true,true,true,false,false,false] 3 (by kernel_rfl) noPanic_put (trivial) (by kernel_rfl) ?_
  simp only [List.take_succ_cons,List.take_zero,List.drop_succ_cons,List.drop_zero]
  repeat ((first | refine wpSegH_no (by rfl) ?_ | (refine wpSegH_yes (by rfl) ?_;apply Exists.intro;apply And.intro;(· (intro wx hS;(try dsimp only at hS);go_simp;first | done | with_reducible rfl))));simp only [Act.put,List.setIfInBounds_toArray,List.set_cons_zero,List.set_cons_succ])
  refine wpSegH_nil ?_
  refine wpAnyK_seg 22 1 _ #[true,true,true,true,true,true,true,true,true,true,true,true,true,true,true,true,true,true,true,true,true,false,true,false] 2 (by kernel_rfl) noPanic_put (trivial) (by kernel_rfl) ?_
  simp only [List.take_succ_cons,List.take_zero,List.drop_succ_cons,List.drop_zero]
  repeat ((first | refine wpSegH_no (by rfl) ?_ | (refine wpSegH_yes (by rfl) ?_;apply Exists.intro;apply And.intro;(· (intro wx hS;(try dsimp only at hS);go_simp;first | done | with_reducible rfl))));simp only [Act.put,List.setIfInBounds_toArray,List.set_cons_zero,List.set_cons_succ])
  refine wpSegH_nil ?_
  refine wpAnyK_seg 21 1 _ #[true,true,true,true,true,true,true,true,true,true,true,true,true,true,true,true,true,true,true,true,true,true,true,false] 1 (by kernel_rfl) noPanic_put (trivial) (by kernel_rfl) ?_
  simp only [List.take_succ_cons,List.take_zero,List.drop_succ_cons,List.drop_zero]
  repeat ((first | refine wpSegH_no (by rfl) ?_ | (refine wpSegH_yes (by rfl) ?_;apply Exists.intro;apply And.intro;(· (intro wx hS;(try dsimp only at hS);go_simp;first | done | with_reducible rfl))));simp only [Act.put,List.setIfInBounds_toArray,List.set_cons_zero,List.set_cons_succ])
  refine wpSegH_nil ?_
  refine wpAnyK_seg 23 1 _ #[true,true,true,true,true,true,true,true,true,true,true,true,true,true,true,true,true,true,true,true,true,true,true,true] 0 (by kernel_rfl) noPanic_put (trivial) (by kernel_rfl) ?_
  simp only [List.take_succ_cons,List.take_zero,List.drop_succ_cons,List.drop_zero]
  repeat ((first | refine wpSegH_no (by rfl) ?_ | (refine wpSegH_yes (by rfl) ?_;apply Exists.intro;apply And.intro;(· (intro wx hS;(try dsimp only at hS);go_simp;first | done | with_reducible rfl))));simp only [Act.put,List.setIfInBounds_toArray,List.set_cons_zero,List.set_cons_succ])
  refine wpSegH_nil ?_
  refine wpAnyK_next ?_
  refine wpAnyK_done (by kernel_rfl) (NoPanic.normal ?_)
  have H1:=Lib.hid h1
  clear h1 HC
  go_wp2
  exact ⟨rfl,rfl,H1.out⟩
theorem put23 (a V:Value):(#[a] ++ (Array.replicate 22 undef).setIfInBounds 3 V) = #[a,undef,undef,undef,V,undef,undef,undef,undef,undef,undef,undef,undef,undef,undef,undef,undef,undef,undef,undef,undef,undef,undef]:=by kernel_rfl
def trapV (k:Int):Value:=.iface 189 (.int .i64 k)
theorem as_trap (k:Int) (w:World):(Instr.typeAssert (trapV k) 20 189 true).run Tryz.prog w = .ok (.tuple #[.int .i64 k,.bool true]) w 
  := by kernel_rfl
theorem caught_none (b:Nat) (w:World) :
  CallsD Tryz.prog 88 #[.pointer (some ⟨b,0,none⟩)] .returning w fun e u' w'=>e = .returned (.tuple #[]) ∧ u' = .returning ∧ w' = w:=by
 refine callsD_of_wpS Tryz.func88 rfl fun c₀ ct hu=>?_
 apply wpS_seq
 apply wpS_region
 simp [wpOpsS,go_sem,recoverD,hu,Tryz.ntmps88,Exit.thenS]
 rw [put23]
 refine wpS_of_wp ?_
 go_wp2
 cases c₀
 simp_all [bodyPostS,results,Tryz.results88]
def Wd.trap (W:Wd) (k:Int):Wd:={ W with en:=2,why:=k }
theorem caught_trap {w0 w:World} {p q b:Nat} {T:List Value} {W:Wd} {D:Wa} {cs:List Value} {Y:List Asr} (k:Int) (h:Own w0 w (wparts p W D T ++ (CelA b [.pointer (some ⟨q,0,none⟩)] :: CelA q (.pointer (some ⟨p,0,none⟩) :: cs) :: Y))) (older:List PanicEntry) :
  CallsD Tryz.prog 88 #[.pointer (some ⟨b,0,none⟩)] (.panicking ({ v:=trapV k,recovered:=false } :: older)) w fun e u' w' =>
   e = .returned (.tuple #[]) ∧ u' = .panicking ({ v:=trapV k,recovered:=true } :: older) ∧ Own w0 w' (wparts p (W.trap k) D T ++ (CelA b [.pointer (some ⟨q,0,none⟩)] :: CelA q (.pointer (some ⟨p,0,none⟩) :: cs) :: Y)):=by
 have h2:=fun w=>as_trap k w
 have h3:∀ w:World,(binOp .eql 20 (trapV k) .nilIface).run Tryz.prog w = .ok (.bool false) w:=fun w=>rfl
 have h4:∀ w:World,(eqGuard .eql 20 (.tmp 4) (.const .nilIface) (trapV k) .nilIface).run Tryz.prog w = .ok () w:=fun w=>rfl
 generalize trapV k = V at *
 have b0:=(h.cel 10 rfl 0 _ rfl).1
 have q0:=(h.cel 11 rfl 0 _ rfl).1
 have H:=Lib.hid h
 have HP:Hid (∀ w1:World,Own w0 w1 (wparts p W D T ++ (CelA b [.pointer (some ⟨q,0,none⟩)] :: CelA q (.pointer (some ⟨p,0,none⟩) :: cs) :: Y)) → (∃ v,w1.cell? ⟨p,9,none⟩ = some v) ∧ w1.frozen? ⟨p,9,none⟩ = false ∧ (∃ v,w1.cell? ⟨p,10,none⟩ = some v) ∧ w1.frozen? ⟨p,10,none⟩ = false ∧
   Own w0 ((w1.setCell ⟨p,9,none⟩ (.int .i64 2)).setCell ⟨p,10,none⟩ (.int .i64 k)) (wparts p (W.trap k) D T ++ (CelA b [.pointer (some ⟨q,0,none⟩)] :: CelA q (.pointer (some ⟨p,0,none⟩) :: cs) :: Y))):=Lib.hid (fun w1 h1=>by
  obtain ⟨x0,x1⟩:=h1.cel 0 rfl 9 _ rfl
  obtain ⟨y0,y1⟩:=h1.cel 0 rfl 10 _ rfl
  exact ⟨⟨_,x0⟩,x1,⟨_,y0⟩,y1,(h1.setAt 0 rfl 9 (.int .i64 2)).setAt 0 rfl 10 (.int .i64 k)⟩)
 clear h
 refine callsD_of_wpS Tryz.func88 rfl fun c₀ ct hu=>?_
 apply wpS_seq
 apply wpS_region
 simp [wpOpsS,go_sem,recoverD,hu,Tryz.ntmps88,Exit.thenS]
 rw [put23]
 refine wpS_of_wp ?_
 go_upto_region 7 with fail
 obtain ⟨⟨v9,x0⟩,x1,⟨v10,y0⟩,y1,ho⟩:=HP.out w H.out
 have ho2:=ho.step (below_drew1 _)
 have SB:∀ (wx:World) (W':Wd),Own w0 wx (wparts p W' D T ++ (CelA b [.pointer (some ⟨q,0,none⟩)] :: CelA q (.pointer (some ⟨p,0,none⟩) :: cs) :: Y)) → wx.cell? ⟨b,0,none⟩ = some (.pointer (some ⟨q,0,none⟩)) ∧ wx.cell? ⟨q,0,none⟩ = some (.pointer (some ⟨p,0,none⟩)) :=
  fun wx W' h=>⟨(h.cel 10 rfl 0 _ rfl).1,(h.cel 11 rfl 0 _ rfl).1⟩
 have HM:Hid (Own w0 (w.setCell ⟨p,9,none⟩ (.int .i64 2)) (wparts p { W with en:=2 } D T ++ (CelA b [.pointer (some ⟨q,0,none⟩)] :: CelA q (.pointer (some ⟨p,0,none⟩) :: cs) :: Y))):=Lib.hid (H.out.setAt 0 rfl 9 (.int .i64 2))
 have HS:=Lib.hid SB
 have HO2:=Lib.hid ho2
 have HO:=Lib.hid ho
 clear SB ho ho2 HP
 refine wp_region_lexH (fun wx=>wx.cell? ⟨b,0,none⟩ = some (.pointer (some ⟨q,0,none⟩)) ∧ wx.cell? ⟨q,0,none⟩ = some (.pointer (some ⟨p,0,none⟩))) 15 (Array.replicate 15 false) (by kernel_rfl) (by kernel_rfl) ?_
 refine wpAnyH_seg 0 11 _ #[true,true,true,true,true,true,true,true,true,true,true,false,false,false,false] 4 (by kernel_rfl) noPanic_put (HS.out _ W (H.out.step (below_drew1 _))) (by kernel_rfl) ?_
 simp only [List.take_succ_cons,List.take_zero,List.drop_zero]
 repeat ((first | refine wpSegH_no (by rfl) ?_ | (refine wpSegH_yes (by rfl) ?_;apply Exists.intro;apply And.intro;(· (intro wx hS;(try dsimp only at hS);go_simp;first | done | with_reducible rfl))));simp only [Act.put,List.setIfInBounds_toArray,List.set_cons_zero,List.set_cons_succ])
 refine wpSegH_nil ?_
 refine wpAnyH_one 11 _ #[true,true,true,true,true,true,true,true,true,true,true,true,false,false,false] 3 (by kernel_rfl) (fun K hK=>?_)
 have HKK:=Lib.hid hK
 clear hK
 simp only [List.drop_succ_cons,List.drop_zero]
 refine headH_mk (by rfl) ?_
 go_simp
 refine HKK.out _ _ ((by first | exact HS.out _ { W with en:=2 } (HM.out.step (below_drew1 _)) | exact HS.out _ { W with en:=2 } HM.out)) ?_
 clear HKK K
 refine wpAnyH_seg 12 2 _ #[true,true,true,true,true,true,true,true,true,true,true,true,true,true,false] 1 (by kernel_rfl) noPanic_put ((by first | exact HS.out _ { W with en:=2 } (HM.out.step (below_drew1 _)) | exact HS.out _ { W with en:=2 } HM.out)) (by kernel_rfl) ?_
 simp only [List.take_succ_cons,List.take_zero,List.drop_succ_cons,List.drop_zero]
 repeat ((first | refine wpSegH_no (by rfl) ?_ | (refine wpSegH_yes (by rfl) ?_;apply Exists.intro;apply And.intro;(· (intro wx hS;(try dsimp only at hS);go_simp;first | done | with_reducible rfl))));simp only [Act.put,List.setIfInBounds_toArray,List.set_cons_zero,List.set_cons_succ])
 refine wpSegH_nil ?_
 refine wpAnyH_one 14 _ #[true,true,true,true,true,true,true,true,true,true,true,true,true,true,true] 0 (by kernel_rfl) (fun K hK=>?_)
 have HKK:=Lib.hid hK
 clear hK
 simp only [List.drop_succ_cons,List.drop_zero]
 refine headH_mk (by rfl) ?_
 go_simp
 refine HKK.out _ _ ((by first | exact HS.out _ (W.trap k) HO2.out | exact HS.out _ (W.trap k) HO.out)) ?_
 clear HKK K
 refine wpAnyH_done (by kernel_rfl) (NoPanic.normal ?_) _
 refine ⟨rfl,_,rfl,.tuple #[],by simp [results,Tryz.results88],rfl,rfl,?_⟩
 first | exact HO2.out | exact HO.out
section
variable {P:Program} {ops:Array Oper} {Q:Exit → Act → World → Prop} {S:World → Prop} {md:Region.Mode}
theorem Oper.wp_impQ {Q':Exit → Act → World → Prop} (h:∀ e a w,Q e a w → Q' e a w) {o:Oper} {a:Act} {w:World} {K:Act → World → Prop} (hh:o.wp P a w K Q):o.wp P a w K Q':=by
 unfold Oper.wp at *
 generalize (execOp a.eval o).run P w = r at *
 cases r with
 | ok n w' =>
  cases n <;> simp only [Oper.upon] at hh ⊢ <;>
   first
    | exact hh
    | exact Calls.mono hh (fun e w'' he=>by cases e <;> first | exact he | exact h _ _ _ he | (obtain ⟨a,w,he⟩:=he;exact ⟨a,w,h _ _ _ he⟩))
 | halt x w'=>cases x <;> simp only [Oper.upon] at hh ⊢ <;> first | exact h _ _ _ hh | exact hh
theorem wpOp_impQ {Q':Exit → Act → World → Prop} (h:∀ e a w,Q e a w → Q' e a w) {i:Nat} {a:Act} {w:World} {K:Act → World → Prop} (hh:wpOp P ops Q i K a w):wpOp P ops Q' i K a w:=by
 unfold wpOp at *
 split
 ·simpa [*] using hh
 ·rename_i o ho
  simp only [ho] at hh
  split
  ·rename_i hw;simp only [hw,if_true] at hh;exact hh.imp (Oper.wp_impQ h) (fun ⟨h1,a,w,h2⟩=>⟨h1,a,w,h _ _ _ h2⟩)
  ·rename_i hw;simp only [hw] at hh;exact hh
def wpAnyL (P:Program) (md:Region.Mode) (ops:Array Oper) (Q:Exit → Act → World → Prop) (S:World → Prop) (g:Nat) (full:Array Bool):Nat → Array Bool → Act → World → Prop
 | 0,listed,a,w=>listed = full ∧ wpAny P md ops Q g full a w
 | fuel + 1,listed,a,w=>Region.ready md ops listed ≠ [] ∧
  ∀ i ∈ Region.ready md ops listed,wpOp P ops (NoPanic Q) i (fun a' w'=>S w' ∧ wpAnyL P md ops Q S g full fuel (listed.setIfInBounds i true) a' w') a w
theorem wpAny_of_l {g:Nat} {full:Array Bool}:∀ (fuel:Nat) (listed:Array Bool) (a:Act) (w:World),wpAnyL P md ops Q S g full fuel listed a w → wpAny P md ops Q (fuel + g) listed a w
 | 0,_,_,_,h=>by obtain ⟨rfl,h⟩:=h;rw [Nat.zero_add];exact h
 | fuel + 1,_,_,_,h=>by
  rw [show fuel + 1 + g = (fuel + g) + 1 by omega]
  exact ⟨fun h0=>absurd h0 h.1,fun i hi=>wpOp_impQ NoPanic.imp (wpOp_mono (fun a' w' h'=>wpAny_of_l fuel _ a' w' h'.2) (h.2 i hi))⟩
theorem wpAnyL_first {i:Nat} {oi:Oper} {v:Value} {g:Nat} {full:Array Bool} (hi:ops[i]? = some oi) (hsel:∀ (j:Nat) (o:Oper) cs b,ops[j]? = some o → o.op ≠ .select cs b)
  (hB:phaseB md ops full = true) :
  ∀ (fuel:Nat) (listed:Array Bool) (a:Act) (w:World),
   (∀ j oj,ops[j]? = some oj → j ≠ i → listed.getD j true = false → (∀ e ∈ oj.after,Region.binds md e = true → e.on ≠ i) → oi.apart ops oj = true) →
   closedB md ops listed = true → i ∈ Region.ready md ops listed → YieldsIf P ops S oi v a → S w →
   wpAnyL P md ops Q S g full fuel (listed.setIfInBounds i true) (a.put oi.dst v) w → wpAnyL P md ops Q S g full (fuel + 1) listed a w
 | 0,listed,a,w,_,hcl,hr,hy,hS,H=>by
  refine ⟨fun h=>(by rw [h] at hr;cases hr),fun j hj=>?_⟩
  by_cases hji:j = i
  ·subst hji;exact hy.wpOp hi hS ⟨hS,H⟩
  ·exact (phase_not hcl hB (Array.getElem?_eq_some_iff.1 hi).1 H.1 (mem_ready.1 hr).1 hj hji).elim
 | fuel + 1,listed,a,w,hfree,hcl,hr,hy,hS,H=>by
  refine ⟨fun h=>(by rw [h] at hr;cases hr),fun j hj=>?_⟩
  by_cases hji:j = i
  ·subst hji;exact hy.wpOp hi hS ⟨hS,H⟩
  ·have h1:=H.2 j (ready_mono hj hji)
   obtain ⟨hjun,oj,hoj,hall⟩:=mem_ready.1 hj
   have hnot:∀ e ∈ oj.after,Region.binds md e = true → e.on ≠ i:=fun e he hb heq=>by
    have h2:=hall e he hb
    have h0:=(mem_ready.1 hr).1
    rw [heq] at h2
    rcases Nat.lt_or_ge i listed.size with h' | h'
    ·simp [h'] at h0 h2;rw [h0] at h2;cases h2
    ·simp [Array.getElem?_eq_none h'] at h2
   refine wpOp_mono (fun a' w' h3=>?_) (wpOp_putIf hoj (hfree j oj hoj hji hjun hnot) (fun cs b=>hsel i oi cs b hi) (fun cs b=>hsel j oj cs b hoj) (fun c a w h=>h) hy h1)
   have hS':S w':=h3.2.1
   refine ⟨hS',wpAnyL_first hi hsel hB fuel (listed.setIfInBounds j true) a' w' (fun k ok hk hki hun hno=>hfree k ok hk hki ?_ hno) (closedB_set hcl hj) (ready_mono hr (Ne.symm hji)) h3.1 hS' ?_⟩
   ·by_cases hjk:j = k
    ·subst hjk;exact hjun
    ·rw [getD_set_ne true hjk] at hun;exact hun
   ·rw [Array.setIfInBounds_comm _ _ hji]
    exact h3.2.2
theorem wpAnyL_segs {g:Nat} {full:Array Bool} (hs:Region.noSelect ops = true) (hP:phaseB .any ops full = true) (fuel:Nat) (w:World) (hS:S w) :
  ∀ (l:List Oper) (k:Nat) (listed:Array Bool) (a:Act),(∀ j,j < l.length → l[j]? = ops[k + j]?) → closedB .any ops listed = true → segB ops l.length k listed = true →
   wpSegH P ops S (fun a'=>wpAnyL P .any ops Q S g full fuel (marks l.length k listed) a' w) l a → wpAnyL P .any ops Q S g full (l.length + fuel) listed a w
 | [],k,listed,a,_,_,_,h=>by rw [List.length_nil,Nat.zero_add];exact h
 | o :: l,k,listed,a,hl,hcl,hB,h=>by
  have h0:ops[k]? = some o:=by simpa using (hl 0 (by simp)).symm
  simp only [List.length_cons,segB,Bool.and_eq_true] at hB
  obtain ⟨⟨hr,hf⟩,hB⟩:=hB
  have hl':∀ j,j < l.length → l[j]? = ops[k + 1 + j]?:=fun j hj=>by have:=hl (j + 1) (by simp;omega);simpa [Nat.add_assoc,Nat.add_comm 1 j] using this
  rw [List.length_cons,show l.length + 1 + fuel = (l.length + fuel) + 1 by omega]
  have hr':k ∈ Region.ready .any ops listed:=by simpa using hr
  rcases h with ⟨hw,v,hv,h⟩ | ⟨hw,h⟩
  ·exact wpAnyL_first h0 (Region.noSelect_spec hs) hP _ listed a w (Region.free_spec h0 hf) hcl hr' (.inl ⟨hw,hv⟩) hS (wpAnyL_segs hs hP fuel w hS l (k + 1) _ _ hl' (closedB_set hcl hr') hB h)
  ·exact wpAnyL_first h0 (Region.noSelect_spec hs) hP _ listed a w (Region.free_spec h0 hf) hcl hr' (.inr ⟨hw,rfl⟩) hS (wpAnyL_segs hs hP fuel w hS l (k + 1) _ _ hl' (closedB_set hcl hr') hB h)
theorem wpAnyL_seg {l:List Oper} (k n:Nat) (listed listed':Array Bool) (fuel:Nat) {g:Nat} {full:Array Bool} {a:Act} {w:World} (hs:Region.noSelect l.toArray = true) (hS:S w)
  (hB:(segB l.toArray n k listed && decide (k + n ≤ l.length) && (marks n k listed == listed') && phaseB .any l.toArray full && closedB .any l.toArray listed) = true) (h:wpSegH P l.toArray S (fun a'=>wpAnyL P .any l.toArray Q S g full fuel listed' a' w) ((l.drop k).take n) a):wpAnyL P .any l.toArray Q S g full (n + fuel) listed a w:=by
 simp only [Bool.and_eq_true,decide_eq_true_eq,beq_iff_eq] at hB
 obtain ⟨⟨⟨⟨hB,hn⟩,rfl⟩,hP⟩,hcl⟩:=hB
 have hln:((l.drop k).take n).length = n:=by rw [List.length_take,List.length_drop];omega
 have:=wpAnyL_segs (P:=P) (Q:=Q) (S:=S) (g:=g) (full:=full) hs hP fuel w hS ((l.drop k).take n) k listed a (fun j hj=>by
  rw [hln] at hj
  rw [List.getElem?_take,if_pos hj,List.getElem?_drop];simp) hcl (by rw [hln];exact hB) (by rw [hln];exact h)
 rwa [hln] at this
theorem headL {l:List Oper} {i:Nat} {a:Act} {w:World} {K:Act → World → Prop} (h1:headH P l.toArray (NoPanic Q) K a w (l.drop i)):wpOp P l.toArray (NoPanic Q) i K a w:=by
 cases hd:l.drop i with
 | nil=>rw [hd] at h1;exact h1.elim
 | cons o r =>
  rw [hd] at h1
  have h0:l.toArray[i]? = some o:=by
   have:(l.drop i)[0]? = some o:=by rw [hd];rfl
   rw [List.getElem?_drop] at this
   simpa using this
  unfold wpOp
  simp only [h0]
  rw [if_pos h1.1]
  exact .inl h1.2
theorem wpAnyL_one {l:List Oper} (k:Nat) (listed listed':Array Bool) (fuel:Nat) {g:Nat} {full:Array Bool} {a:Act} {w:World} (hB:(decide (Region.ready .any l.toArray listed = [k]) && (listed.setIfInBounds k true == listed')) = true)
  (h:∀ K:Act → World → Prop,(∀ a' w',S w' → wpAnyL P .any l.toArray Q S g full fuel listed' a' w' → K a' w') → headH P l.toArray (NoPanic Q) K a w (l.drop k)):wpAnyL P .any l.toArray Q S g full (fuel + 1) listed a w:=by
 simp only [Bool.and_eq_true,decide_eq_true_eq,beq_iff_eq] at hB
 obtain ⟨hr,rfl⟩:=hB
 refine ⟨fun h0=>(by rw [hr] at h0;cases h0),fun i hi=>?_⟩
 rw [hr] at hi
 have hik:i = k:=by simpa using hi
 subst hik
 exact headL (h _ (fun a' w' h2 h3=>⟨h2,h3⟩))
theorem wpAnyL_next {listed:Array Bool} {g:Nat} {a:Act} {w:World} (h:wpAny P md ops Q g listed a w):wpAnyL P md ops Q S g listed 0 listed a w:=⟨rfl,h⟩
theorem wpAnyL_seq {l:List Oper} (k:Nat) {listed:Array Bool} {a:Act} {w:World} (hB:(Region.seqB .any l.toArray (l.drop k).length k listed) = true) (h:wpList P l.toArray Q (l.drop k) a w):wpAny P .any l.toArray Q (l.drop k).length listed a w :=
 wpAny_of_seq (l.drop k) k listed a w (fun j=>by rw [List.getElem?_drop];simp) hB h
theorem wp_region_lexL {id:Nat} {a:Act} {w:World} {l:List Oper} (S:World → Prop) (fuel g:Nat) (listed full:Array Bool) (hm:P.follows .mixedOrders = true) (hB:(decide (l.length = fuel + g) && (Array.replicate l.length false == listed)) = true)
  (h:wpAnyL P .any l.toArray Q S g full fuel listed a w.drew):(Code.region id l.toArray true).wp P Q a w:=by
 simp only [Bool.and_eq_true,decide_eq_true_eq,beq_iff_eq] at hB
 obtain ⟨hl,rfl⟩:=hB
 have h1:=wpAny_of_l _ _ _ _ h
 rw [← hl] at h1
 exact wp_region_any hm (by simpa using h1)
end
end Go.Proofs.YtphfaekpckbepaaGreat
open Go Go.RowKit
set_option linter.unusedVariables false
namespace Go.Proofs.YtphfaekpckbepaaGreat
theorem DAt.boxIn {w0 w:World} {p b:Nat} {T:List Value} {d:Dq} {W:Wd} {rd:List Int} {R:List Asr} {cs:List Value} (h:DAt w0 w p T d W rd (CelA b cs :: R)) :
  ∃ D ra rc,D.fits W ∧ Own w0 w (wparts p W D T ++ (CelA b cs :: CelA d.q (dcells p (d.g:Int) d.x d.th d.dr d.go ra rd.length rc) :: RowGA 1 ra rc rd.length (intc rd) :: R)):=by
 obtain ⟨D,ra,rc,hf,h⟩:=h
 exact ⟨D,ra,rc,hf,(h.pick 12 rfl).mid⟩
theorem DAt.box {w0 w:World} {p:Nat} {T:List Value} {d:Dq} {W:Wd} {rd:List Int} {R:List Asr} (h:DAt w0 w p T d W rd R) (l:List Value) (t:TypeId):DAt w0 (w.alloc (.cells l.toArray t)) p T d W rd (CelA w.heap.size l :: R):=by
 obtain ⟨D,ra,rc,hf,h⟩:=h
 have h1:Own w0 (w.alloc (.cells l.toArray t)) (CelA w.heap.size l :: ((wparts p W D T ++ [CelA d.q (dcells p (d.g:Int) d.x d.th d.dr d.go ra rd.length rc),RowGA 1 ra rc rd.length (intc rd)]) ++ R)):=by
  rw [List.append_assoc];exact h.alloc l t (b:=w.heap.size) rfl
 have h2:=h1.mid
 rw [List.append_assoc] at h2
 exact ⟨D,ra,rc,hf,h2⟩
theorem top_own0 {w0 w:World} {p q:Nat} {W:Wd} {D:Wa} {T:List Value} {Y:List Asr} (h:Own w0 w (wparts p W D T ++ Y)) {g s cap:Nat} {cs:List Value} (hq:Blk w q (.pointer (some ⟨p,0,none⟩) :: .int .i64 (g:Int) :: cs)) (hg:g < W.gs.length) (hs:D.sk[g]? = some (s,cap)) (hm:1 ≤ (W.g g).n ∧ (W.g g).n ≤ 16) :
  Calls Tryz.prog 89 #[.pointer (some ⟨q,0,none⟩)] w fun r w'=>r = .returned (.pointer (some ⟨s,((W.g g).n - 1) * 11,none⟩)) ∧ ∃ k,w' = w.drewN k:=by
 obtain ⟨b,off,h1,-,-,-,-⟩:=all_at h hg hs
 exact dtop_any (topF_of h hq hg hs h1 hm)
theorem caught_trap' {w0 w:World} {p b:Nat} {T:List Value} {d:Dq} {W:Wd} {rd:List Int} {R:List Asr} (k:Int) (h:DAt w0 w p T d W rd (CelA b [.pointer (some ⟨d.q,0,none⟩)] :: R)) (older:List PanicEntry) :
  CallsD Tryz.prog 88 #[.pointer (some ⟨b,0,none⟩)] (.panicking ({ v:=.iface 189 (.int .i64 k),recovered:=false } :: older)) w fun e u' w' =>
   e = .returned (.tuple #[]) ∧ u' = .panicking ({ v:=.iface 189 (.int .i64 k),recovered:=true } :: older) ∧ DAt w0 w' p T d (W.trap k) rd R:=by
 obtain ⟨D,ra,rc,hf,h1⟩:=h.boxIn
 refine (caught_trap k h1 older).mono ?_
 rintro e u' w' ⟨h1,h2,h3⟩
 exact ⟨h1,h2,D,ra,rc,⟨hf.f,hf.g,hf.c,hf.n,hf.l,hf.k⟩,h3.unmid.drop⟩
theorem ddo_none {w0 w:World} {p:Nat} {T:List Value} {d:Dq} {W:Wd} {rd:List Int} {R:List Asr} (h:DAt w0 w p T d W rd R) (ht:d.th = false) :
  Calls Tryz.prog 71 #[.pointer (some ⟨d.q,0,none⟩)] w fun r w'=>r = .returned (.tuple #[]) ∧ DAt w0 w' p T d (W.trap (-7)) rd R:=by
 have hmf:∀ (fn:Fn) (first cap:Array Value) (w:World),(Instr.makeFunc fn first cap).run Tryz.prog w = .ok (.func fn first cap) w:=fun _ _ _ _=>rfl
 have h1:=h.box [.pointer (some ⟨d.q,0,none⟩)] 172
 obtain ⟨D,ra,rc,hf,h2⟩:=h1.boxIn
 have b0:=(h2.cel 10 rfl 0 _ rfl).1
 have q6:=(h2.cel 11 rfl 6 _ rfl).1
 rw [ht] at q6
 have H1:=Lib.hid h1
 clear h h1 h2 ht hf
 go_enter_defers Tryz.func71,Tryz.ntmps71
 go_wp2_with fail
 refine leaves_cons (f:=88) (args:=#[.pointer (some ⟨w.heap.size,0,none⟩)]) (by simp) (by simp [go_sem]) ?_
 refine (caught_trap' (-7) H1.out _).mono ?_
 rintro e u' w'' ⟨rfl,rfl,h3⟩
 exact ⟨.tuple #[],by simp [results,Tryz.results71],rfl,h3⟩
theorem own_pure {w0 w w':World} {p:Nat} {W:Wd} {D:Wa} {T:List Value} {Y:List Asr} (h:Own w0 w (wparts p W D T ++ Y)) {g s cap:Nat} {z:List Int} (hg:g < W.gs.length) (hs:D.sk[g]? = some (s,cap)) (c:Chg [s] w w') (hk:StkAt w' s (W.g g).n cap z) :
  Own w0 w' (wparts p (W.setG g { W.g g with z:=z }) D T ++ Y):=by
 obtain ⟨R',h1,h2⟩:=(h.pick 3 rfl).lstPick (stks_at hs (Wd.g_at hg))
 have h3:=Own.turn (As:=[StkA s (W.g g).n cap (W.g g).z]) (As':=[StkA s (W.g g).n cap z]) (R:=_) h1 (w':=w') (fun F hF=>by
  obtain ⟨rfl,k⟩:=sep_one.1 hF
  exact ⟨[s],sep_one.2 ⟨rfl,hk⟩,c,fun x hx=>.inl hx⟩)
 have h4:=h2 _ _ _ h3
 have e:=stks_set D.sk W.gs g (s,cap) { W.g g with z:=z }
 simp only at e
 rw [e,set_self _ _ _ hs] at h4
 have h5:=h4.back (i:=3) (As:=wparts p W D T ++ Y) (by simp [wparts])
 have e2:gcs D.sk (W.gs.set g { W.g g with z:=z }) = gcs D.sk W.gs:=gcs_same _ _ _ _ (fun G0 h0=>by rw [Wd.g_of h0];exact ⟨rfl,rfl⟩)
 have e3:(wparts p W D T ++ Y).set 3 (LstA (stks D.sk (W.gs.set g { W.g g with z:=z }))) = wparts p (W.setG g { W.g g with z:=z }) D T ++ Y:=by
  simp only [wparts,Wd.setG,wcells,e2,List.length_set]
  rfl
 rw [e3] at h5
 exact h5
theorem ddo_pure {w0 w:World} {p:Nat} {T:List Value} {d:Dq} {W:Wd} {rd:List Int} {R:List Asr} (h:DAt w0 w p T d W rd R) (ht:d.th = true) (hg:d.g < W.gs.length) (hm:1 ≤ (W.g d.g).n ∧ (W.g d.g).n ≤ 16) (hx:PureOk d.x)
  (hat:0 ≤ (W.g d.g).pc ∧ (W.g d.g).pc < 1000) {z':List Int} (hz:pureM d.x (W.g d.g).o (W.g d.g).z = some z') :
  Calls Tryz.prog 71 #[.pointer (some ⟨d.q,0,none⟩)] w fun r w'=>r = .returned (.tuple #[]) ∧ DAt w0 w' p T d (W.setG d.g { W.g d.g with z:=z' }) rd R:=by
 have hmf:∀ (fn:Fn) (first cap:Array Value) (w:World),(Instr.makeFunc fn first cap).run Tryz.prog w = .ok (.func fn first cap) w:=fun _ _ _ _=>rfl
 obtain ⟨D,ra,rc,hf,h2⟩:=(h.box [.pointer (some ⟨d.q,0,none⟩)] 172).boxIn
 have b0:=(h2.cel 10 rfl 0 _ rfl).1
 have hc:=h2.cel 11 rfl
 have q2:=(hc 2 _ rfl).1
 have q3:=(hc 3 _ rfl).1
 have q4:=(hc 4 _ rfl).1
 have q5:=(hc 5 _ rfl).1
 have q6:=(hc 6 _ rfl).1
 rw [ht] at q6
 obtain ⟨s,cap,hs⟩:=hf.sk_at hg
 obtain ⟨m,hmm⟩:∃ m,m = (W.g d.g).n - 1:=⟨_,rfl⟩
 have HTop:Hid (∀ j,Calls Tryz.prog 89 #[.pointer (some ⟨d.q,0,none⟩)] ((w.alloc (.cells #[.pointer (some ⟨d.q,0,none⟩)] 172)).drewN j) fun r w'=>r = .returned (.pointer (some ⟨s,m * 11,none⟩)) ∧ ∃ k,w' = ((w.alloc (.cells #[.pointer (some ⟨d.q,0,none⟩)] 172)).drewN j).drewN k):=Lib.hid (fun j=>by
  rw [hmm];exact top_own0 (h2.step (below_dN _ j)) ((h2.step (below_dN _ j)).cel 11 rfl) hg hs hm)
 have HPure:Hid (∀ j,Calls Tryz.prog 90 #[.pointer (some ⟨s,m * 11,none⟩),.agg #[.int .i64 d.x.1,.int .i64 d.x.2.1,.int .i64 d.x.2.2.1,.int .i64 d.x.2.2.2]] ((w.alloc (.cells #[.pointer (some ⟨d.q,0,none⟩)] 172)).drewN j) fun r w'=>r = .returned (.bool true) ∧ DAt w0 w' p T d (W.setG d.g { W.g d.g with z:=z' }) rd R):=Lib.hid (fun j=>by
  have hk:=(stk_at (h2.step (below_dN _ j)) hg hs).1
  refine (fpure_yes s (m * 11) (W.g d.g).n cap (W.g d.g).z z' d.x _ hk (by omega) (by have:=hat;unfold Gt.pc Gt.o at this;rw [← hmm] at this;exact this) hx (by unfold Gt.o at hz;rw [← hmm] at hz;exact hz)).mono ?_
  rintro r w' ⟨h1,h3,h4⟩
  exact ⟨h1,D,ra,rc,hf.setG _ _,(own_pure (h2.step (below_dN _ j)) hg hs h3 h4).unmid.drop⟩)
 clear h h2 ht hf hg hm hx hat hz hs hmm hc
 go_enter_defers Tryz.func71,Tryz.ntmps71
 go_upto_region 4 with fail
 generalize w.alloc (.cells #[.pointer (some ⟨d.q,0,none⟩)] 172) = w1 at *
 generalize w.heap.size = bd at *
 refine wp_region_lexK (fun wx=>∃ nq,wx = World.drewN (w1) nq) 6 1 (Array.replicate 7 false) #[true,true,true,true,true,true,false] (by kernel_rfl) (by kernel_rfl) ?_
 refine wpAnyK_seg 0 1 _ #[true,false,false,false,false,false,false] 5 (by kernel_rfl) noPanic_put (drew_q w1) (by kernel_rfl) ?_
 simp only [List.take_succ_cons,List.take_zero,List.drop_zero]
 repeat ((first | refine wpSegH_no (by rfl) ?_ | (refine wpSegH_yes (by rfl) ?_;apply Exists.intro;apply And.intro;(· (rintro wx ⟨nq,rfl⟩;go_simp;first | done | with_reducible rfl))));simp only [Act.put,List.setIfInBounds_toArray,List.set_cons_zero,List.set_cons_succ])
 refine wpSegH_nil ?_
 refine wpAnyK_seg 2 4 _ #[true,false,true,true,true,true,false] 1 (by kernel_rfl) noPanic_put (drew_q w1) (by kernel_rfl) ?_
 simp only [List.take_succ_cons,List.take_zero,List.drop_succ_cons,List.drop_zero]
 repeat ((first | refine wpSegH_no (by rfl) ?_ | (refine wpSegH_yes (by rfl) ?_;apply Exists.intro;apply And.intro;(· (rintro wx ⟨nq,rfl⟩;go_simp;first | done | with_reducible rfl))));simp only [Act.put,List.setIfInBounds_toArray,List.set_cons_zero,List.set_cons_succ])
 refine wpSegH_nil ?_
 refine wpAnyK_one 1 _ #[true,true,true,true,true,true,false] 0 (by kernel_rfl) (fun K hK=>?_)
 have HKK:=Lib.hid hK
 clear hK
 simp only [List.drop_succ_cons,List.drop_zero]
 refine headH_mk (by rfl) ?_
 go_simp
 refine (HTop.out 1).mono ?_
 rintro r w2 ⟨rfl,k2,rfl⟩
 refine HKK.out _ _ ((by first | exact ⟨_,rfl⟩ | exact ⟨_,World.drewN_drewN _ _ _⟩)) ?_
 clear HKK K
 refine wpAnyK_next ?_
 refine wpAnyK_seq 6 (by kernel_rfl) ?_
 simp only [List.drop_succ_cons,List.drop_zero]
 go_wp2_with fail
 refine (HPure.out _).mono ?_
 rintro r w3 ⟨rfl,h3⟩
 have H3:=Lib.hid h3
 clear h3 HPure HTop
 go_wp2_with fail
 refine NoPanic.normal ?_
 go_wp2
 refine leaves_cons (f:=88) (args:=#[.pointer (some ⟨bd,0,none⟩)]) (by simp) (by simp [go_sem]) ?_
 refine (caught_none _ _).mono ?_
 rintro e u' w'' ⟨rfl,rfl,rfl⟩
 exact ⟨.tuple #[],by simp [results,Tryz.results71],rfl,H3.out⟩
theorem DAt.less' {w0 w:World} {p:Nat} {T:List Value} {d:Dq} {W:Wd} {rd:List Int} {A:Asr} {R:List Asr} (h:DAt w0 w p T d W rd (A :: R)):DAt w0 w p T d W rd R:=by
 obtain ⟨D,ra,rc,hf,h⟩:=h
 exact ⟨D,ra,rc,hf,(h.pick 12 rfl).drop⟩
theorem ddo_deed {w0 w:World} {p:Nat} {T:List Value} {d:Dq} {W:Wd} {R:List Asr} (h:DAt w0 w p T d W [] R) (ht:d.th = true) (hg:d.g < W.gs.length) (hm:1 ≤ (W.g d.g).n ∧ (W.g d.g).n ≤ 16) (h9:9 ≤ d.x.1 ∧ d.x.1 ≤ 22)
  (hat:0 ≤ (W.g d.g).pc ∧ (W.g d.g).pc < 1000) (fk:Nat) (hix:∀ w,(Instr.index 192 (.agg oth23) (.int .i64 d.x.1)).run Tryz.prog w = .ok (.func (.func fk) #[] #[]) w) (eg:∀ (args:Array Value) (w:World),(callFunc fk args).run Tryz.prog w = .ok (.enter fk args) w) (m:Dd)
  (hd:∀ R' w',DAt w0 w' p T d (W.step d.g) [] R' → Calls Tryz.prog fk #[.pointer (some ⟨d.q,0,none⟩)] w' fun r w''=>DPost w0 p T d R' m r w'') :
  Calls Tryz.prog 71 #[.pointer (some ⟨d.q,0,none⟩)] w fun r w'=>r = .returned (.tuple #[]) ∧ DAt w0 w' p T d m.end_ m.rd R:=by
 have hmf:∀ (fn:Fn) (first cap:Array Value) (w:World),(Instr.makeFunc fn first cap).run Tryz.prog w = .ok (.func fn first cap) w:=fun _ _ _ _=>rfl
 obtain ⟨D,ra,rc,hf,h2⟩:=(h.box [.pointer (some ⟨d.q,0,none⟩)] 172).boxIn
 have b0:=(h2.cel 10 rfl 0 _ rfl).1
 have hc:=h2.cel 11 rfl
 have q2:=(hc 2 _ rfl).1
 have q3:=(hc 3 _ rfl).1
 have q4:=(hc 4 _ rfl).1
 have q5:=(hc 5 _ rfl).1
 have q6:=(hc 6 _ rfl).1
 rw [ht] at q6
 obtain ⟨s,cap,hs⟩:=hf.sk_at hg
 obtain ⟨k,hmm⟩:∃ k,k = (W.g d.g).n - 1:=⟨_,rfl⟩
 obtain ⟨pc,hpc⟩:∃ pc,pc = (W.g d.g).pc:=⟨_,rfl⟩
 have HTop:Hid (∀ w',Own w0 w' (wparts p W D T ++ (CelA w.heap.size [.pointer (some ⟨d.q,0,none⟩)] :: CelA d.q (dcells p (d.g:Int) d.x d.th d.dr d.go ra 0 rc) :: RowGA 1 ra rc 0 (intc []) :: R)) → Calls Tryz.prog 89 #[.pointer (some ⟨d.q,0,none⟩)] w' fun r w''=>r = .returned (.pointer (some ⟨s,k * 11,none⟩)) ∧ ∃ j,w'' = w'.drewN j):=Lib.hid (fun w' h'=>by
  rw [hmm];exact top_own0 h' (h'.cel 11 rfl) hg hs hm)
 have HAt:Hid (∀ w',Own w0 w' (wparts p W D T ++ (CelA w.heap.size [.pointer (some ⟨d.q,0,none⟩)] :: CelA d.q (dcells p (d.g:Int) d.x d.th d.dr d.go ra 0 rc) :: RowGA 1 ra rc 0 (intc []) :: R)) →
   w'.cell? ⟨w.heap.size,0,none⟩ = some (.pointer (some ⟨d.q,0,none⟩)) ∧ w'.cell? ⟨s,k * 11 + 1,none⟩ = some (.int .i64 pc) ∧ w'.frozen? ⟨s,k * 11 + 1,none⟩ = false ∧ Own w0 (w'.setCell ⟨s,k * 11 + 1,none⟩ (.int .i64 (pc + 1))) (wparts p (W.step d.g) D T ++ (CelA w.heap.size [.pointer (some ⟨d.q,0,none⟩)] :: CelA d.q (dcells p (d.g:Int) d.x d.th d.dr d.go ra 0 rc) :: RowGA 1 ra rc 0 (intc []) :: R))):=Lib.hid (fun w' h'=>by
  obtain ⟨g1,g2⟩:=(stk_at h' hg hs).1.get (k * 11 + 1) (by omega)
  have g3:=own_z h' hg hs (k * 11 + 1) (pc + 1)
  refine ⟨(h'.cel 10 rfl 0 _ rfl).1,?_,g2,?_⟩
  ·rw [g1,hpc];unfold Gt.pc Gt.o;rw [← hmm]
  ·have e:W.step d.g = W.setG d.g { W.g d.g with z:=(W.g d.g).z.set (k * 11 + 1) (pc + 1) }:=by unfold Wd.step Gt.o;rw [← hmm,hpc]
   rw [e];exact g3)
 have HSB:Hid (∀ (W':Wd) (w':World) ,Own w0 w' (wparts p W' D T ++ (CelA w.heap.size [.pointer (some ⟨d.q,0,none⟩)] :: CelA d.q (dcells p (d.g:Int) d.x d.th d.dr d.go ra 0 rc) :: RowGA 1 ra rc 0 (intc []) :: R)) → w'.cell? ⟨w.heap.size,0,none⟩ = some (.pointer (some ⟨d.q,0,none⟩)) ∧ w'.cell? ⟨d.q,2,none⟩ = some (.int .i64 d.x.1)):=Lib.hid (fun W' w' h'=>⟨(h'.cel 10 rfl 0 _ rfl).1,(h'.cel 11 rfl 2 _ rfl).1⟩)
 have HDd:Hid (∀ w',Own w0 w' (wparts p (W.step d.g) D T ++ (CelA w.heap.size [.pointer (some ⟨d.q,0,none⟩)] :: CelA d.q (dcells p (d.g:Int) d.x d.th d.dr d.go ra 0 rc) :: RowGA 1 ra rc 0 (intc []) :: R)) →
   Calls Tryz.prog fk #[.pointer (some ⟨d.q,0,none⟩)] w' fun r w''=>DPost w0 p T d (CelA w.heap.size [.pointer (some ⟨d.q,0,none⟩)] :: R) m r w''):=Lib.hid (fun w' h'=>hd _ w' ⟨D,ra,rc,hf.setG _ _,by
    have h5:Own w0 w' (CelA w.heap.size [.pointer (some ⟨d.q,0,none⟩)] :: ((wparts p (W.step d.g) D T ++ [CelA d.q (dcells p (d.g:Int) d.x d.th d.dr d.go ra 0 rc),RowGA 1 ra rc 0 (intc [])]) ++ R)):=by
     rw [List.append_assoc];exact h'.unmid
    have h6:=h5.mid
    rw [List.append_assoc] at h6
    exact h6⟩)
 have HIx:=Lib.hid hix
 have HFp:=Lib.hid (fun v w=>fpure_no v d.x.1 d.x.2.1 d.x.2.2.1 d.x.2.2.2 h9 w)
 have hpb:IntKind.i64.wrap (pc + 1) = pc + 1:=by rw [IntKind.wrap_i64];omega
 have H2:=Lib.hid h2
 clear h h2 ht hf hg hm h9 hat hs hmm hc hix hd hpc
 go_enter_defers Tryz.func71,Tryz.ntmps71
 go_upto_region 4 with fail
 generalize w.alloc (.cells #[.pointer (some ⟨d.q,0,none⟩)] 172) = w1 at *
 generalize w.heap.size = bd at *
 have o1:=H2.out.step (below_dN w1 1)
 refine wp_region_lexK (fun wx=>∃ nq,wx = World.drewN (w1) nq) 6 1 (Array.replicate 7 false) #[true,true,true,true,true,true,false] (by kernel_rfl) (by kernel_rfl) ?_
 refine wpAnyK_seg 0 1 _ #[true,false,false,false,false,false,false] 5 (by kernel_rfl) noPanic_put (drew_q w1) (by kernel_rfl) ?_
 simp only [List.take_succ_cons,List.take_zero,List.drop_zero]
 repeat ((first | refine wpSegH_no (by rfl) ?_ | (refine wpSegH_yes (by rfl) ?_;apply Exists.intro;apply And.intro;(· (rintro wx ⟨nq,rfl⟩;go_simp;first | done | with_reducible rfl))));simp only [Act.put,List.setIfInBounds_toArray,List.set_cons_zero,List.set_cons_succ])
 refine wpSegH_nil ?_
 refine wpAnyK_seg 2 4 _ #[true,false,true,true,true,true,false] 1 (by kernel_rfl) noPanic_put (drew_q w1) (by kernel_rfl) ?_
 simp only [List.take_succ_cons,List.take_zero,List.drop_succ_cons,List.drop_zero]
 repeat ((first | refine wpSegH_no (by rfl) ?_ | (refine wpSegH_yes (by rfl) ?_;apply Exists.intro;apply And.intro;(· (rintro wx ⟨nq,rfl⟩;go_simp;first | done | with_reducible rfl))));simp only [Act.put,List.setIfInBounds_toArray,List.set_cons_zero,List.set_cons_succ])
 refine wpSegH_nil ?_
 refine wpAnyK_one 1 _ #[true,true,true,true,true,true,false] 0 (by kernel_rfl) (fun K hK=>?_)
 have HKK:=Lib.hid hK
 clear hK
 simp only [List.drop_succ_cons,List.drop_zero]
 refine headH_mk (by rfl) ?_
 go_simp
 refine (HTop.out _ o1).mono ?_
 rintro r w2 ⟨rfl,k2,hw2⟩
 have o2:=o1.q1 hw2
 refine HKK.out _ _ (q_q2 hw2) ?_
 clear HKK K
 refine wpAnyK_next ?_
 refine wpAnyK_seq 6 (by kernel_rfl) ?_
 simp only [List.drop_succ_cons,List.drop_zero]
 clear hw2
 go_wp2_with fail
 refine (HFp.out _ _).mono ?_
 rintro r w3 ⟨rfl,b3⟩
 have o3:=o2.step b3
 have HO3:=Lib.hid o3
 clear b3 o1 o2 o3 HFp
 go_wp2_with fail
 refine NoPanic.normal ?_
 obtain ⟨a0,a1,a2,a3⟩:=HAt.out w3 HO3.out
 have HTp:=Lib.hid (HTop.out w3 HO3.out)
 clear a1 a2 a3
 go_wp2_with fail
 refine HTp.out.mono ?_
 rintro r w4 ⟨rfl,k4,hw4⟩
 obtain ⟨a0',a1,a2,a3⟩:=HAt.out w4 (HO3.out.q1 hw4)
 have HA3:=Lib.hid a3
 clear a3 hw4 HTp HTop HAt
 go_upto_region 6 with fail
 generalize w4.setCell ⟨s,k * 11 + 1,none⟩ (.int .i64 (pc + 1)) = w5 at *
 have o5:=HA3.out.step (below_drew1 w5)
 have hix:=HIx.out
 refine wp_region_lexL (fun wx=>wx.cell? ⟨bd,0,none⟩ = some (.pointer (some ⟨d.q,0,none⟩)) ∧ wx.cell? ⟨d.q,2,none⟩ = some (.int .i64 d.x.1)) 8 1 (Array.replicate 9 false) #[true,true,true,true,true,true,true,true,false] (by kernel_rfl) (by kernel_rfl) ?_
 refine wpAnyL_seg 1 5 _ #[false,true,true,true,true,true,false,false,false] 3 (by kernel_rfl)  (HSB.out _ _ o5) (by kernel_rfl) ?_
 simp only [List.take_succ_cons,List.take_zero,List.drop_succ_cons,List.drop_zero]
 repeat ((first | refine wpSegH_no (by rfl) ?_ | (refine wpSegH_yes (by rfl) ?_;apply Exists.intro;apply And.intro;(· (intro wx hS;(try dsimp only at hS);go_simp;first | done | with_reducible rfl))));simp only [Act.put,List.setIfInBounds_toArray,List.set_cons_zero,List.set_cons_succ])
 refine wpSegH_nil ?_
 refine wpAnyL_seg 7 1 _ #[false,true,true,true,true,true,false,true,false] 2 (by kernel_rfl)  (HSB.out _ _ o5) (by kernel_rfl) ?_
 simp only [List.take_succ_cons,List.take_zero,List.drop_succ_cons,List.drop_zero]
 repeat ((first | refine wpSegH_no (by rfl) ?_ | (refine wpSegH_yes (by rfl) ?_;apply Exists.intro;apply And.intro;(· (intro wx hS;(try dsimp only at hS);go_simp;first | done | with_reducible rfl))));simp only [Act.put,List.setIfInBounds_toArray,List.set_cons_zero,List.set_cons_succ])
 refine wpSegH_nil ?_
 refine wpAnyL_one 0 _ #[true,true,true,true,true,true,false,true,false] 1 (by kernel_rfl) (fun K hK=>?_)
 have HKK:=Lib.hid hK
 clear hK
 simp only [List.drop_zero]
 refine headH_mk (by rfl) ?_
 go_simp
 refine (others_any _).mono ?_
 rintro r w6 ⟨rfl,b6⟩
 have o6:=o5.step b6
 refine HKK.out _ _ (HSB.out _ _ o6) ?_
 clear HKK K
 refine wpAnyL_seg 6 1 _ #[true,true,true,true,true,true,true,true,false] 0 (by kernel_rfl)  (HSB.out _ _ o6) (by kernel_rfl) ?_
 simp only [List.take_succ_cons,List.take_zero,List.drop_succ_cons,List.drop_zero]
 repeat ((first | refine wpSegH_no (by rfl) ?_ | (refine wpSegH_yes (by rfl) ?_;apply Exists.intro;apply And.intro;(· (intro wx hS;(try dsimp only at hS);go_simp;first | done | with_reducible rfl))));simp only [Act.put,List.setIfInBounds_toArray,List.set_cons_zero,List.set_cons_succ])
 refine wpSegH_nil ?_
 refine wpAnyL_next ?_
 refine wpAnyL_seq 8 (by kernel_rfl) ?_
 simp only [List.drop_succ_cons,List.drop_zero]
 have HC:=Lib.hid (HDd.out _ o6)
 clear o5 o6 b6 HDd HSB hix HIx
 obtain ⟨Wm,rm,tm⟩:=m
 cases tm with
 | none =>
  go_wp2_with fail
  refine HC.out.mono ?_
  rintro r w7 ⟨hr7,h7⟩
  unfold DdR at hr7
  simp only at hr7 h7
  subst hr7
  have H7:=Lib.hid h7.less'
  clear h7 HC
  go_wp2
  refine leaves_cons (f:=88) (args:=#[.pointer (some ⟨bd,0,none⟩)]) (by simp) (by simp [go_sem]) ?_
  refine (caught_none _ _).mono ?_
  rintro e u' w'' ⟨rfl,rfl,rfl⟩
  exact ⟨.tuple #[],by simp [results,Tryz.results71],rfl,H7.out⟩
 | some kk =>
  go_wp2_with fail
  refine HC.out.mono ?_
  rintro r w7 ⟨hr7,h7⟩
  unfold DdR trapE at hr7
  simp only at hr7 h7
  subst hr7
  have H7:=Lib.hid h7
  clear h7 HC
  refine leaves_cons (f:=88) (args:=#[.pointer (some ⟨bd,0,none⟩)]) (by simp) (by simp [go_sem]) ?_
  refine (caught_trap' kk H7.out _).mono ?_
  rintro e u' w'' ⟨rfl,rfl,h3⟩
  exact ⟨.tuple #[],by simp [results,Tryz.results71],rfl,h3⟩
theorem lets_iff (W:Wd) (g:Int):W.lets g ↔ W.en = 0 ∧ statusM W g = 1:=by
 unfold Wd.lets statusM
 constructor
 ·rintro ⟨h1,h2,h3,h4⟩;exact ⟨h1,by rw [if_pos ⟨h2,h3⟩];exact h4⟩
 ·rintro ⟨h1,h2⟩
  split at h2
  ·rename_i h;exact ⟨h1,h.1,h.2,h2⟩
  ·cases h2
theorem lets_any {w0 w:World} {p:Nat} {W:Wd} {D:Wa} {T:List Value} {Y:List Asr} (h:Own w0 w (wparts p W D T ++ Y)) (hf:D.fits W) (g:Int) :
  Calls Tryz.prog 68 #[.pointer (some ⟨p,0,none⟩),.int .i64 g] w fun r w'=>r = .returned (.bool (decide (W.lets g))) ∧ w' = w:=by
 have HS:=Lib.hid (status_any h hf g)
 have p9:=(h.cel 0 rfl 9 _ rfl).1
 by_cases he:W.en = 0
 ·have e:decide (W.lets g) = decide (statusM W g = 1):=by
   by_cases hs:statusM W g = 1
   ·rw [decide_eq_true hs,decide_eq_true ((lets_iff W g).2 ⟨he,hs⟩)]
   ·rw [decide_eq_false hs,decide_eq_false (fun hh=>hs ((lets_iff W g).1 hh).2)]
  rw [e]
  rw [he] at p9
  generalize statusM W g = st at *
  have HE:=Lib.hid (show decide (st = 1) = (st == 1) by by_cases h:st = 1 <;> simp [h])
  clear h hf he e
  go_enter Tryz.func68,Tryz.ntmps68
  go_wp2_with fail
  refine HS.out.mono ?_
  rintro r w1 ⟨rfl,rfl⟩
  go_wp2
  go_ret
  exact ⟨by rw [HE.out];rfl,rfl⟩
 ·have e:decide (W.lets g) = false:=decide_eq_false (fun hh=>he ((lets_iff W g).1 hh).1)
  rw [e]
  have ht:(W.en == 0) = false:=by simpa using he
  generalize W.en = en at *
  clear h hf he e HS
  go_enter Tryz.func68,Tryz.ntmps68
  go_wp2
  go_ret
  exact ⟨rfl,rfl⟩
structure NextOk (W:Wd) (g:Nat):Prop where
 gk:g < W.gs.length
 gl:W.gs.length ≤ 1000
 n:1 ≤ (W.g g).n ∧ (W.g g).n ≤ 16
 fn:0 ≤ (W.g g).fn ∧ (W.g g).fn < (W.fs.length:Int)
 pc:0 ≤ (W.g g).pc ∧ (W.g g).pc < 1000
def insV (x:Option In4):Value:=match x with
 | some x=>.agg #[.int .i64 x.1,.int .i64 x.2.1,.int .i64 x.2.2.1,.int .i64 x.2.2.2]
 | none=>.agg #[.int .i64 0,.int .i64 0,.int .i64 0,.int .i64 0]
theorem next_any {w0 w:World} {p:Nat} {W:Wd} {D:Wa} {T:List Value} {Y:List Asr} (h:Own w0 w (wparts p W D T ++ Y)) (hf:D.fits W) (k:Nat) (ok:NextOk W k) :
  Calls Tryz.prog 69 #[.pointer (some ⟨p,0,none⟩),.int .i64 (k:Int)] w fun r w'=>r = .returned (.tuple #[insV (W.ins k),.bool (W.ins k).isSome]) ∧ Below w.heap.size w w':=by
 obtain ⟨hk8,hgl,hm,hfn,hpc⟩:=ok
 obtain ⟨f,hfe,hf8⟩:=nat_of (n:=W.fs.length) hfn
 obtain ⟨i,hie⟩:=Int.eq_ofNat_of_zero_le hpc.1
 obtain ⟨l,hl⟩:∃ l,W.fs[f]? = some l:=⟨_,List.getElem?_eq_getElem hf8⟩
 have e:W.ins k = l[i]?:=by
  unfold Wd.ins Wd.insAt
  rw [hfe,hie,if_neg (by omega),Int.toNat_natCast,Int.toNat_natCast,List.getD_eq_getElem?_getD,hl];rfl
 rw [e]
 obtain ⟨m,hmm⟩:∃ m,m = (W.g k).n - 1:=⟨_,rfl⟩
 obtain ⟨s,cap,hs⟩:=hf.sk_at hk8
 have hA:=h.alloc [.int .i64 0,.int .i64 0,.int .i64 0,.int .i64 0] 29 (b:=w.heap.size) rfl
 have hB:=hA.mid (L:=wparts p W D T)
 obtain ⟨b,off,haa,-,-,sl,-⟩:=all_at hB hk8 hs
 have p2:=(hB.cel 0 rfl 2 _ rfl).1
 have p0:=(hB.cel 0 rfl 0 _ rfl).1
 obtain ⟨z0,f0⟩:=hB.cel 10 rfl 0 _ rfl
 obtain ⟨z1,f1⟩:=hB.cel 10 rfl 1 _ rfl
 obtain ⟨z2,f2⟩:=hB.cel 10 rfl 2 _ rfl
 obtain ⟨z3,f3⟩:=hB.cel 10 rfl 3 _ rfl
 have hS:=(stk_at hB hk8 hs).1
 have c0:=(hS.get (m * 11) (by omega)).1
 have c1:=(hS.get (m * 11 + 1) (by omega)).1
 have e0:(W.g k).z.getD (m * 11) 0 = (f:Int):=by rw [← hfe];unfold Gt.fn Gt.o;rw [← hmm]
 have e1:(W.g k).z.getD (m * 11 + 1) 0 = (i:Int):=by rw [← hie];unfold Gt.pc Gt.o;rw [← hmm]
 rw [e0] at c0
 rw [e1] at c1
 rw [haa] at p2
 have htop:∀ w,Calls Tryz.prog 83 #[.slice (some ⟨s,0,none⟩) (W.g k).n cap] w fun e w'=>e = .returned (.pointer (some ⟨s,m * 11,none⟩)) ∧ w' = w:=fun w=>by
  have:=top_any s m cap w (by omega)
  rw [show m + 1 = (W.g k).n by omega] at this
  exact this
 have HT:=Lib.hid htop
 have k0:(0:Int) ≤ (k:Int):=by omega
 have k8:(k:Int) < (W.gs.length:Int):=by omega
 have f00:(0:Int) ≤ (f:Int):=by omega
 have f8:(f:Int) < (W.fs.length:Int):=by omega
 have hbl:=below_alloc1 w (.cells #[.int .i64 0,.int .i64 0,.int .i64 0,.int .i64 0] 29)
 have hblk:=World.block_lt_of_cell? _ _ z0
 have hfl:f < D.fr.length:=by rw [hf.f];exact hf8
 obtain ⟨cb0,co0,hfa,y1⟩:∃ b off,D.fa = some ⟨b,off,none⟩ ∧ (w.alloc (.cells #[.int .i64 0,.int .i64 0,.int .i64 0,.int .i64 0] 29)).cell? ⟨b,off + f,none⟩ = some (.slice (D.fr[f]).1 l.length (D.fr[f]).2):=by
  obtain ⟨F,⟨-,⟨-,h2⟩,-,-⟩,-⟩:=hB.fact 1 rfl
  exact h2 f _ (by unfold frw;rw [List.getElem?_zipWith,List.getElem?_eq_getElem hfl,hl])
 rw [hfa] at p0
 have HH:=Lib.hid (fun w=>hasI_any (D.fr[f]).1 l.length (D.fr[f]).2 (i:Int) w)
 have i0:(0:Int) ≤ (i:Int):=by omega
 obtain ⟨N,hN⟩:∃ N,N = W.gs.length:=⟨_,rfl⟩
 rw [← hN] at p2 k8
 obtain ⟨NF,hNF⟩:∃ NF,NF = W.fs.length:=⟨_,rfl⟩
 rw [← hNF] at p0 f8
 obtain ⟨n,hn⟩:∃ n,n = (W.g k).n:=⟨_,rfl⟩
 rw [← hn] at HT sl
 have hi9:i < 1000:=by omega
 by_cases hi:i < l.length
 ·have hx:=List.getElem?_eq_getElem hi
  obtain ⟨b',off',c',bb,oo,q1,q2,q3,q4,q5,q6⟩:=code_at hB hf hl hx
  rw [hfa] at q1
  simp only [Option.some.injEq,Addr.mk.injEq,and_true] at q1
  obtain ⟨rfl,rfl⟩:=q1
  rw [y1] at q2
  simp only [Option.some.injEq,Value.slice.injEq,true_and] at q2
  rw [q2.1] at y1 HH
  have hd:decide (0 ≤ (i:Int) ∧ (i:Int) < (l.length:Int)) = true:=decide_eq_true ⟨i0,by omega⟩
  rw [hd] at HH
  have i8:(i:Int) < (l.length:Int):=by omega
  rw [hx]
  generalize l[i] = x at *
  obtain ⟨x1,x2,x3,x4⟩:=x
  unfold insV
  simp only at *
  have HB:=Lib.hid hbl
  clear q2 hd hx hi hbl h hf hk8 hgl hm hfn hpc hfe hf8 hie hl e hmm hs hA hB haa hS e0 e1 htop hfa hN hNF hn
  go_enter Tryz.func69,Tryz.ntmps69
  go_upto_region 1 with fail
  generalize w.alloc (.cells #[.int .i64 0,.int .i64 0,.int .i64 0,.int .i64 0] 29) = w1 at *
  generalize hsz:w.heap.size = bx at *
  have HSZ:=Lib.hid hsz
  clear hsz
  go_upto_region 2 with (refine (HT.out _).mono ?_;rintro r w2 ⟨rfl,rfl⟩)
  refine wp_region_lexK (fun wx=>∃ nq,wx = World.drewN (w2) nq) 11 0 (Array.replicate 11 false) #[true,true,true,true,true,true,true,true,true,true,true] (by kernel_rfl) (by kernel_rfl) ?_
  refine wpAnyK_seg 0 11 _ #[true,true,true,true,true,true,true,true,true,true,true] 0 (by kernel_rfl) noPanic_put (drew_q w2) (by kernel_rfl) ?_
  simp only [List.take_succ_cons,List.take_zero,List.drop_zero]
  repeat ((first | refine wpSegH_no (by rfl) ?_ | (refine wpSegH_yes (by rfl) ?_;apply Exists.intro;apply And.intro;(· (rintro wx ⟨nq,rfl⟩;go_simp;first | done | with_reducible rfl))));simp only [Act.put,List.setIfInBounds_toArray,List.set_cons_zero,List.set_cons_succ])
  refine wpSegH_nil ?_
  refine wpAnyK_next ?_
  refine wpAnyK_done (by kernel_rfl) (NoPanic.normal ?_)
  go_wp2_with fail
  refine (HH.out _).mono ?_
  rintro r w3 ⟨rfl,rfl⟩
  go_wp2
  have hfin:Below w.heap.size w (((((w2.setCell ⟨bx,0,none⟩ (.int .i64 x1)).setCell ⟨bx,1,none⟩ (.int .i64 x2)).setCell ⟨bx,2,none⟩ (.int .i64 x3)).setCell ⟨bx,3,none⟩ (.int .i64 x4)).drew):=by
   have:=HSZ.out
   refine Below.trans (((((HB.out.setCell (by simp) _).setCell (by simp) _).setCell (by simp) _).setCell (by simp) _).mono (by omega)) ((below_drew1 _).mono ?_)
   simp
   omega
  exact bodyPost_ret (v:=.tuple #[.agg #[.int .i64 x1,.int .i64 x2,.int .i64 x3,.int .i64 x4],.bool true]) (by simp [results,Tryz.results69,go_sem,z0,z1,z2,z3,hblk]) rfl ⟨rfl,hfin⟩
 ·have hx:l[i]? = none:=List.getElem?_eq_none (by omega)
  have hd:decide (0 ≤ (i:Int) ∧ (i:Int) < (l.length:Int)) = false:=decide_eq_false (by omega)
  rw [hd] at HH
  rw [hx]
  unfold insV
  simp only at *
  have HB:=Lib.hid hbl
  clear hd hx hi hbl h hf hk8 hgl hm hfn hpc hfe hf8 hie hl e hmm hs hA hB haa hS e0 e1 htop hfa hN hNF hn
  go_enter Tryz.func69,Tryz.ntmps69
  go_upto_region 1 with fail
  generalize w.alloc (.cells #[.int .i64 0,.int .i64 0,.int .i64 0,.int .i64 0] 29) = w1 at *
  generalize hsz:w.heap.size = bx at *
  have HSZ:=Lib.hid hsz
  clear hsz
  go_upto_region 2 with (refine (HT.out _).mono ?_;rintro r w2 ⟨rfl,rfl⟩)
  refine wp_region_lexK (fun wx=>∃ nq,wx = World.drewN (w2) nq) 11 0 (Array.replicate 11 false) #[true,true,true,true,true,true,true,true,true,true,true] (by kernel_rfl) (by kernel_rfl) ?_
  refine wpAnyK_seg 0 11 _ #[true,true,true,true,true,true,true,true,true,true,true] 0 (by kernel_rfl) noPanic_put (drew_q w2) (by kernel_rfl) ?_
  simp only [List.take_succ_cons,List.take_zero,List.drop_zero]
  repeat ((first | refine wpSegH_no (by rfl) ?_ | (refine wpSegH_yes (by rfl) ?_;apply Exists.intro;apply And.intro;(· (rintro wx ⟨nq,rfl⟩;go_simp;first | done | with_reducible rfl))));simp only [Act.put,List.setIfInBounds_toArray,List.set_cons_zero,List.set_cons_succ])
  refine wpSegH_nil ?_
  refine wpAnyK_next ?_
  refine wpAnyK_done (by kernel_rfl) (NoPanic.normal ?_)
  go_wp2_with fail
  refine (HH.out _).mono ?_
  rintro r w3 ⟨rfl,rfl⟩
  go_wp2
  have hfin:Below w.heap.size w (((((w2.setCell ⟨bx,0,none⟩ (.int .i64 0)).setCell ⟨bx,1,none⟩ (.int .i64 0)).setCell ⟨bx,2,none⟩ (.int .i64 0)).setCell ⟨bx,3,none⟩ (.int .i64 0)).drew):=by
   have:=HSZ.out
   refine Below.trans (((((HB.out.setCell (by simp) _).setCell (by simp) _).setCell (by simp) _).setCell (by simp) _).mono (by omega)) ((below_drew1 _).mono ?_)
   simp
   omega
  exact bodyPost_ret (v:=.tuple #[.agg #[.int .i64 0,.int .i64 0,.int .i64 0,.int .i64 0],.bool false]) (by simp [results,Tryz.results69,go_sem,z0,z1,z2,z3,hblk]) rfl ⟨rfl,hfin⟩
theorem keeps_any {w0 w:World} {p:Nat} {T:List Value} {d:Dq} {W:Wd} {rd:List Int} {R:List Asr} (h:DAt w0 w p T d W rd R) (hg:d.g < W.gs.length) (hm:1 ≤ (W.g d.g).n ∧ (W.g d.g).n ≤ 16) :
  Calls Tryz.prog 72 #[.pointer (some ⟨d.q,0,none⟩)] w fun r w'=>r = .returned (.bool (keepsM W d.g d.x)) ∧ ∃ k,w' = w.drewN k:=by
 obtain ⟨D,ra,rc,hf,h⟩:=h
 obtain ⟨b,off,s,cap,F⟩:=opF_of hf h hg hm
 have q0:=F.top.d0
 have q2:=(h.cel 10 rfl 2 _ rfl).1
 have p9:=(h.cel 0 rfl 9 _ rfl).1
 have st0:=F.st.1
 have HM:=Lib.hid (F.hme 0)
 have e:keepsM W d.g d.x = (decide (W.en = 0) && decide ((W.g d.g).st = 1) && !(decide (d.x.1 = 12) || decide (d.x.1 = 17))):=rfl
 rw [e]
 generalize W.en = en at *
 generalize (W.g d.g).st = st at *
 generalize d.x.1 = op at *
 clear h hf hg hm F e
 have ho:op = 12 ∨ op = 17 ∨ ¬ op = 12 ∧ ¬ op = 17:=by omega
 have he:en = 0 ∨ ¬ en = 0:=by omega
 have hs:st = 1 ∨ ¬ st = 1:=by omega
 rcases ho with rfl | rfl | ⟨ho1,ho2⟩
 case' inr.inr=>have o1:(op == 12) = false:=by simpa using ho1
 case' inr.inr=>have o2:(op == 17) = false:=by simpa using ho2
 case' inr.inr=>have d1:decide (op = 12) = false:=decide_eq_false ho1
 case' inr.inr=>have d2:decide (op = 17) = false:=decide_eq_false ho2
 case' inr.inr=>rw [d1,d2]
 case' inr.inr=>clear ho1 ho2 d1 d2
 all_goals
  rcases he with rfl | he
  ·rcases hs with rfl | hs
   ·go_enter Tryz.func72,Tryz.ntmps72
    go_wp2_with fail
    refine HM.out.mono ?_
    rintro r w1 ⟨rfl,k,hw1⟩
    have st1:w1.cell? ⟨b,off + d.g * 2,none⟩ = some (.int .i64 1):=by rw [hw1];exact st0
    have HW:=Lib.hid hw1
    clear hw1 HM st0
    go_wp2
    go_ret
    exact ⟨rfl,_,HW.out⟩
   ·have s1:(st == 1) = false:=by simpa using hs
    have d3:decide (st = 1) = false:=decide_eq_false hs
    rw [d3]
    clear hs d3
    go_enter Tryz.func72,Tryz.ntmps72
    go_wp2_with fail
    refine HM.out.mono ?_
    rintro r w1 ⟨rfl,k,hw1⟩
    have st1:w1.cell? ⟨b,off + d.g * 2,none⟩ = some (.int .i64 st):=by rw [hw1];exact st0
    have HW:=Lib.hid hw1
    clear hw1 HM st0
    go_wp2
    go_ret
    exact ⟨rfl,_,HW.out⟩
  ·have e1:(en == 0) = false:=by simpa using he
   have d4:decide (en = 0) = false:=decide_eq_false he
   rw [d4]
   clear he d4 hs
   go_enter Tryz.func72,Tryz.ntmps72
   go_wp2
   go_ret
   exact ⟨rfl,0,rfl⟩
theorem DrawOk.more {w0:World} {p:Nat} {T:List Value} {W:Wd} {F:Nat} {fst cap:Array Value} {kind n:Int} {R:List Asr} {Qd:Int → List Asr → Prop} {Qp:Ending → List Asr → Prop} (h:DrawOk w0 p T W F fst cap kind n R Qd Qp) (A:Asr) :
  DrawOk w0 p T W F fst cap kind n (A :: R) (fun v R2=>∃ R1,R2 = A :: R1 ∧ Qd v R1) (fun r R2=>∃ R1,R2 = A :: R1 ∧ Qp r R1):=by
 intro Z d w' hD
 have e:∀ X:List Asr,Z ++ (A :: X) = (Z ++ [A]) ++ X:=fun X=>by simp
 rw [e] at hD
 refine (h (Z ++ [A]) d w' hD).mono (fun r w2 hh=>?_)
 rcases hh with ⟨v,R',h1,h2,h3⟩ | ⟨ch,R',h1,h2,h3⟩
 ·exact .inl ⟨v,_,h1,⟨R',rfl,h2⟩,by rw [e];exact h3⟩
 ·exact .inr ⟨ch,_,h1,⟨R',rfl,h2⟩,by rw [e];exact h3⟩
theorem DAt.mk {w0 w:World} {p:Nat} {T:List Value} {W:Wd} {D:Wa} {R:List Asr} {q:Nat} {A:Asr} {g:Nat} {x:In4} {th:Bool} (h:Own w0 w (CelA q (dcells p (g:Int) x th 0 false none 0 0) :: A :: (wparts p W D T ++ R))) (hf:D.fits W) :
  DAt w0 w p T ⟨q,g,x,th,0,false⟩ W [] (A :: R):=by
 refine ⟨D,none,0,hf,?_⟩
 have h1:Own w0 w (RowGA 1 none 0 0 [] :: (CelA q (dcells p (g:Int) x th 0 false none 0 0) :: A :: (wparts p W D T ++ R))) :=
  h.add (Below.refl _ _) (A:=RowGA 1 none 0 0 []) (F:=[]) ⟨rfl,RowG.nil 1 w⟩ (fun x hx=>by simp at hx)
 refine h1.perm ?_
 have e:List.Perm ([RowGA 1 none 0 0 [],CelA q (dcells p (g:Int) x th 0 false none 0 0),A] ++ (wparts p W D T ++ R)) (wparts p W D T ++ ([CelA q (dcells p (g:Int) x th 0 false none 0 0),RowGA 1 none 0 0 [],A] ++ R)):=by
  rw [← List.append_assoc,← List.append_assoc]
  refine List.Perm.append_right R ((List.perm_append_comm).trans (List.Perm.append_left _ ?_))
  exact List.Perm.swap _ _ _
 simpa [intc] using e
theorem eff_get {w:World} {b:Nat} {k:Bool} {a:Option Addr} {n c:Nat} (e0:w.cell? ⟨b,0,none⟩ = some (.bool k)) (e1:w.cell? ⟨b,1,none⟩ = some (.slice a n c)):(loadVar 156 ⟨b,0,none⟩).run Tryz.prog w = .ok (.agg #[.bool k,.slice a n c]) w:=by
 simp [go_sem,e0,e1]
theorem exec_no {w0 w:World} {p:Nat} {T:List Value} {W:Wd} {D:Wa} {R:List Asr} (h:Own w0 w (wparts p W D T ++ R)) (hf:D.fits W) (g:Int) (hl:¬ W.lets g) (draw:Value) :
  Calls Tryz.prog 58 #[.pointer (some ⟨p,0,none⟩),.int .i64 g,draw] w fun r w'=>r = .returned (.agg #[.bool false,.slice none 0 0]) ∧ Own w0 w' (wparts p W D T ++ R):=by
 have HL:Hid (∀ (wx:World) (Y:List Asr),Own w0 wx (wparts p W D T ++ Y) → Calls Tryz.prog 68 #[.pointer (some ⟨p,0,none⟩),.int .i64 g] wx fun r w'=>r = .returned (.bool false) ∧ w' = wx):=Lib.hid (fun wx Y ho=>by
  refine (lets_any ho hf g).mono (fun r w' hh=>?_)
  rw [decide_eq_false hl] at hh
  exact hh)
 have o1:=(h.alloc [.bool false,.slice none 0 0] 156 (b:=w.heap.size) rfl)
 have H1:=Lib.hid o1
 clear h hf hl o1
 go_enter Tryz.func58,Tryz.ntmps58
 go_wp2_with fail
 refine (HL.out _ _ H1.out.mid).mono ?_
 rintro r w2 ⟨rfl,rfl⟩
 go_wp2
 exact bodyPost_ret (results_cell Tryz.results58 _ ⟨w.heap.size,0,none⟩ rfl (eff_get (H1.out.cel 0 rfl 0 _ rfl).1 (H1.out.cel 0 rfl 1 _ rfl).1)) rfl ⟨rfl,H1.out.drop⟩
theorem Own.mid2 {w0 w:World} {A B:Asr} {L R:List Asr} (h:Own w0 w (A :: B :: (L ++ R))):Own w0 w (L ++ (A :: B :: R)):=h.perm (by
 have e:List.Perm ([A,B] ++ (L ++ R)) (L ++ ([A,B] ++ R)):=by
  rw [← List.append_assoc,← List.append_assoc]
  exact List.Perm.append_right R List.perm_append_comm
 simpa using e)
theorem DAt.end_ {w0 w:World} {p:Nat} {T:List Value} {d:Dq} {W:Wd} {rd:List Int} {A:Asr} {R:List Asr} (h:DAt w0 w p T d W rd (A :: R)):∃ D ra rc,D.fits W ∧ Own w0 w (RowGA 1 ra rc rd.length (intc rd) :: (wparts p W D T ++ R)):=by
 obtain ⟨D,ra,rc,hf,h⟩:=h
 exact ⟨D,ra,rc,hf,Own.unmid ((((h.pick 10 rfl).drop).pick 11 rfl).drop)⟩
def boxM (W:Wd) (q g:Nat):Dq:=⟨q,g,(W.ins g).getD (0,0,0,0),(W.ins g).isSome,0,false⟩
def ExecPost (w0:World) (p:Nat) (T:List Value) (W:Wd) (g:Nat) (Qa:Int → Bool → List Asr → Prop) (Qp:Ending → List Asr → Prop) (r:Ending) (w':World):Prop :=
 (∃ v go R' D' ra rc,let m:=doM W g (W.ins g) v go
  r = .returned (.agg #[.bool (keepsM m.end_ g ((W.ins g).getD (0,0,0,0))),.slice ra m.rd.length rc]) ∧ Qa v go R' ∧ D'.fits m.end_ ∧ Own w0 w' (RowGA 1 ra rc m.rd.length (intc m.rd) :: (wparts p m.end_ D' T ++ R'))) ∨
 (∃ D' chain R',r = .panicked chain ∧ Qp r R' ∧ D'.fits W ∧ Own w0 w' (wparts p W D' T ++ R'))
theorem exec_any {w0 w:World} {p:Nat} {T:List Value} {W:Wd} {D:Wa} {R:List Asr} (h:Own w0 w (wparts p W D T ++ R)) (hf:D.fits W) (g:Nat) (hl:W.lets (g:Int)) (ok:NextOk W g) (draw:Value) {Qa:Int → Bool → List Asr → Prop} {Qp:Ending → List Asr → Prop}
  (ha:∀ q b w1,DAt w0 w1 p T (boxM W q g) W [] (CelA b [.bool false,.slice none 0 0] :: R) → Calls Tryz.prog 70 #[.pointer (some ⟨q,0,none⟩),draw] w1 fun r w' =>
   (∃ v go R',r = .returned (.tuple #[]) ∧ Qa v go R' ∧ DAt w0 w' p T ((boxM W q g).ask v go) W [] (CelA b [.bool false,.slice none 0 0] :: R')) ∨ (∃ chain R',r = .panicked chain ∧ Qp r R' ∧ DAt w0 w' p T (boxM W q g) W [] (CelA b [.bool false,.slice none 0 0] :: R')))
  (hd:∀ q v go R' R2 w1,Qa v go R' → DAt w0 w1 p T ((boxM W q g).ask v go) W [] R2 → Calls Tryz.prog 71 #[.pointer (some ⟨q,0,none⟩)] w1 fun r w' =>
   r = .returned (.tuple #[]) ∧ DAt w0 w' p T ((boxM W q g).ask v go) (doM W g (W.ins g) v go).end_ (doM W g (W.ins g) v go).rd R2)
  (hk:∀ v go R',Qa v go R' → g < (doM W g (W.ins g) v go).end_.gs.length ∧ 1 ≤ ((doM W g (W.ins g) v go).end_.g g).n ∧ ((doM W g (W.ins g) v go).end_.g g).n ≤ 16) :
  Calls Tryz.prog 58 #[.pointer (some ⟨p,0,none⟩),.int .i64 (g:Int),draw] w fun r w'=>ExecPost w0 p T W g Qa Qp r w':=by
 have HL:Hid (∀ (wx:World) (D':Wa) (Y:List Asr),D'.fits W → Own w0 wx (wparts p W D' T ++ Y) → Calls Tryz.prog 68 #[.pointer (some ⟨p,0,none⟩),.int .i64 (g:Int)] wx fun r w'=>r = .returned (.bool true) ∧ w' = wx):=Lib.hid (fun wx D' Y hf' ho=>by
  refine (lets_any ho hf' (g:Int)).mono (fun r w' hh=>?_)
  rw [decide_eq_true hl] at hh
  exact hh)
 have HN:=Lib.hid (fun wx Y (ho:Own w0 wx (wparts p W D T ++ Y))=>next_any ho hf g ok)
 have HA:=Lib.hid ha
 have HD:=Lib.hid hd
 have HK:=Lib.hid hk
 have HF:=Lib.hid hf
 have H1:=Lib.hid (h.alloc [.bool false,.slice none 0 0] 156 (b:=w.heap.size) rfl)
 have B1:Hid ((w.alloc (.cells #[.bool false,.slice none 0 0] 156)).heap.size = w.heap.size + 1):=Lib.hid (by simp)
 clear h hf hl ok ha hd hk
 go_enter Tryz.func58,Tryz.ntmps58
 go_wp2_with fail
 refine (HL.out _ _ _ HF.out H1.out.mid).mono ?_
 rintro r w2 ⟨rfl,rfl⟩
 go_upto_region 4 with fail
 have H2:=Lib.hid (H1.out.alloc [.pointer (some ⟨p,0,none⟩),.int .i64 (g:Int),.int .i64 0,.int .i64 0,.int .i64 0,.int .i64 0,.bool false,.int .i64 0,.bool false,.slice none 0 0] 174 (b:=w.heap.size + 1) B1.out.symm)
 clear H1 B1
 generalize ((w.alloc (.cells #[.bool false,.slice none 0 0] 156)).alloc (.cells #[.pointer (some ⟨p,0,none⟩),.int .i64 (g:Int),.int .i64 0,.int .i64 0,.int .i64 0,.int .i64 0,.bool false,.int .i64 0,.bool false,.slice none 0 0] 174)) = w2 at *
 generalize w.heap.size + 1 = q at *
 generalize w.heap.size = b6 at *
 obtain ⟨x0,x1,x2,x3,th,hI1,hI2,hBx⟩:∃ x0 x1 x2 x3 th,insV (W.ins g) = .agg #[.int .i64 x0,.int .i64 x1,.int .i64 x2,.int .i64 x3] ∧ (W.ins g).isSome = th ∧ ∀ q,boxM W q g = ⟨q,g,(x0,x1,x2,x3),th,0,false⟩:=by
  unfold boxM insV
  cases hI:W.ins g with
  | none=>exact ⟨0,0,0,0,false,rfl,rfl,fun _=>rfl⟩
  | some x=>exact ⟨x.1,x.2.1,x.2.2.1,x.2.2.2,true,rfl,rfl,fun _=>rfl⟩
 have HBx:=Lib.hid hBx
 clear hBx
 have HN2:=Lib.hid (HN.out _ _ H2.out.mid2)
 rw [hI1,hI2] at HN2
 clear HN hI1 hI2
 go_wp2_with fail
 refine HN2.out.mono ?_
 rintro r w3 ⟨rfl,b3⟩
 have o3:=H2.out.step b3
 clear H2 HN2 b3
 obtain ⟨z2,y2⟩:=o3.cel 0 rfl 2 _ rfl
 obtain ⟨z3,y3⟩:=o3.cel 0 rfl 3 _ rfl
 obtain ⟨z4,y4⟩:=o3.cel 0 rfl 4 _ rfl
 obtain ⟨z5,y5⟩:=o3.cel 0 rfl 5 _ rfl
 obtain ⟨z6,y6⟩:=o3.cel 0 rfl 6 _ rfl
 have HA2:=Lib.hid (HA.out q b6 _ (by rw [HBx.out q];exact DAt.mk (x:=(x0,x1,x2,x3)) (th:=th) (((((o3.set 2 (.int .i64 x0)).set 3 (.int .i64 x1)).set 4 (.int .i64 x2)).set 5 (.int .i64 x3)).set 6 (.bool th)) HF.out))
 clear HA o3
 go_wp2_with fail
 refine HA2.out.mono ?_
 clear z2 y2 z3 y3 z4 y4 z5 y5 z6 y6 HA2
 intro r w4 hp
 rcases hp with ⟨v,go,R',rfl,hq,h4⟩ | ⟨ch,R',rfl,hq,h4⟩
 ·have HQ:=Lib.hid hq
  have HDo:=Lib.hid (HD.out q v go R' _ w4 hq h4)
  have HKo:=Lib.hid (HK.out v go R' hq)
  have HLo:Hid (Calls Tryz.prog 68 #[.pointer (some ⟨p,0,none⟩),.int .i64 (g:Int)] w4 fun r w'=>r = .returned (.bool true) ∧ w' = w4):=Lib.hid (by
   obtain ⟨D4,ra4,rc4,hf4,o4⟩:=h4
   exact HL.out _ _ _ hf4 o4)
  clear hq h4 HD HK HL
  go_wp2_with fail
  refine HLo.out.mono ?_
  rintro r w5 ⟨rfl,rfl⟩
  clear HLo
  go_wp2_with fail
  refine HDo.out.mono ?_
  rintro r w6 ⟨rfl,h6⟩
  clear HDo
  obtain ⟨m,hm⟩:∃ m,m = doM W g (W.ins g) v go:=⟨_,rfl⟩
  have HM:=Lib.hid hm
  rw [← hm] at h6 HKo
  clear hm
  have h7:=h6.step (below_drew1 w6)
  have HKp:=Lib.hid (keeps_any h7 HKo.out.1 HKo.out.2)
  obtain ⟨D6,ra,rc,hf6,o6⟩:=h6
  have SB:∀ (wx:World) (Z:List Asr),Own w0 wx (wparts p m.end_ D6 T ++ (CelA q (dcells p (g:Int) (boxM W q g).x (boxM W q g).th v go ra m.rd.length rc) :: Z)) → wx.cell? ⟨q,9,none⟩ = some (.slice ra m.rd.length rc):=by
   intro wx Z ho
   exact (ho.cel 10 rfl 9 _ rfl).1
  have HSB:=Lib.hid SB
  have H6:=Lib.hid o6
  have HF6:=Lib.hid hf6
  clear h7 o6 hf6 SB HKo
  go_upto_region 9 with fail
  have o7:=H6.out.step (below_drew1 w6)
  refine wp_region_lexH (fun wx=>wx.cell? ⟨q,9,none⟩ = some (.slice ra m.rd.length rc)) 8 (Array.replicate 8 false) (by kernel_rfl) (by kernel_rfl) ?_
  refine wpAnyH_seg 0 1 _ #[true,false,false,false,false,false,false,false] 7 (by kernel_rfl) noPanic_put (HSB.out _ _ o7) (by kernel_rfl) ?_
  simp only [List.take_succ_cons,List.take_zero,List.drop_zero]
  repeat ((first | refine wpSegH_no (by rfl) ?_ | (refine wpSegH_yes (by rfl) ?_;apply Exists.intro;apply And.intro;(· (intro wx hS;(try dsimp only at hS);go_simp;first | done | with_reducible rfl))));simp only [Act.put,List.setIfInBounds_toArray,List.set_cons_zero,List.set_cons_succ])
  refine wpSegH_nil ?_
  refine wpAnyH_seg 2 4 _ #[true,false,true,true,true,true,false,false] 3 (by kernel_rfl) noPanic_put (HSB.out _ _ o7) (by kernel_rfl) ?_
  simp only [List.take_succ_cons,List.take_zero,List.drop_succ_cons,List.drop_zero]
  repeat ((first | refine wpSegH_no (by rfl) ?_ | (refine wpSegH_yes (by rfl) ?_;apply Exists.intro;apply And.intro;(· (intro wx hS;(try dsimp only at hS);go_simp;first | done | with_reducible rfl))));simp only [Act.put,List.setIfInBounds_toArray,List.set_cons_zero,List.set_cons_succ])
  refine wpSegH_nil ?_
  refine wpAnyH_one 1 _ #[true,true,true,true,true,true,false,false] 2 (by kernel_rfl) (fun K hK=>?_)
  have HKK:=Lib.hid hK
  clear hK
  simp only [List.drop_succ_cons,List.drop_zero]
  refine headH_mk (by rfl) ?_
  go_simp
  refine HKp.out.mono ?_
  rintro r w8 ⟨rfl,k8,hw8⟩
  have o8:=o7.q1 hw8
  clear hw8 HKp
  refine HKK.out _ _ (HSB.out _ _ o8) ?_
  clear HKK K
  refine wpAnyH_seg 6 1 _ #[true,true,true,true,true,true,true,false] 1 (by kernel_rfl) noPanic_put (HSB.out _ _ o8) (by kernel_rfl) ?_
  simp only [List.take_succ_cons,List.take_zero,List.drop_succ_cons,List.drop_zero]
  repeat ((first | refine wpSegH_no (by rfl) ?_ | (refine wpSegH_yes (by rfl) ?_;apply Exists.intro;apply And.intro;(· (intro wx hS;(try dsimp only at hS);go_simp;first | done | with_reducible rfl))));simp only [Act.put,List.setIfInBounds_toArray,List.set_cons_zero,List.set_cons_succ])
  refine wpSegH_nil ?_
  obtain ⟨e0,f0⟩:=o8.cel 12 rfl 0 _ rfl
  obtain ⟨e1,f1⟩:=o8.cel 12 rfl 1 _ rfl
  have o9:=((o8.pick 12 rfl).set 0 (.bool (keepsM m.end_ g (boxM W q g).x))).set 1 (.slice ra m.rd.length rc)
  have H9:=Lib.hid o9
  refine wpAnyH_one 7 _ #[true,true,true,true,true,true,true,true] 0 (by kernel_rfl) (fun K hK=>?_)
  have HKK:=Lib.hid hK
  clear hK
  simp only [List.drop_succ_cons,List.drop_zero]
  refine headH_mk (by rfl) ?_
  go_simp
  refine HKK.out _ _ ((H9.out.cel 11 rfl 9 _ rfl).1) ?_
  clear HKK K
  refine wpAnyH_done (by kernel_rfl) (NoPanic.normal ?_) _
  clear o7 o8 o9 H6 HSB
  go_wp2_with fail
  refine bodyPost_ret (results_cell Tryz.results58 _ ⟨b6,0,none⟩ rfl (eff_get (k:=keepsM m.end_ g (boxM W q g).x) (H9.out.cel 0 rfl 0 _ rfl).1 (H9.out.cel 0 rfl 1 _ rfl).1)) rfl (.inl ⟨v,go,R',D6,ra,rc,?_⟩)
  have HM2:=HM.out
  clear HM
  subst HM2
  exact ⟨rfl,HQ.out,HF6.out,Own.unmid ((H9.out.drop.pick 10 rfl).drop)⟩
 ·obtain ⟨D5,ra5,rc5,hf5,h5⟩:=h4.end_
  exact ⟨rfl,.inr ⟨D5,ch,R',rfl,hq,hf5,h5.drop⟩⟩
theorem demit_any {w0 w:World} {p:Nat} {T:List Value} {d:Dq} {W:Wd} {R:List Asr} (h:DAt w0 w p T d W [] R) (hg:d.g < W.gs.length) (hm:1 ≤ (W.g d.g).n ∧ (W.g d.g).n ≤ 16) (ha:0 ≤ d.x.2.1 ∧ d.x.2.1 < 8) (ho:W.out.length ≤ 1000) :
  Calls Tryz.prog 112 #[.pointer (some ⟨d.q,0,none⟩)] w fun r w'=>DPost w0 p T d R (emitM W [] d.g d.x) r w':=by
 obtain ⟨D,ra,rc,hf,h⟩:=h
 obtain ⟨a,hA,ha8⟩:=nat_of (n:=8) ha
 obtain ⟨b,off,s,cap,F⟩:=opF_of hf h hg hm
 have q0:=F.top.d0
 have q3:=(h.cel 10 rfl 3 _ rfl).1
 have p8:=(h.cel 0 rfl 8 _ rfl).1
 rw [hA] at q3
 by_cases hl:1000 ≤ W.out.length
 ·have e:emitM W [] d.g d.x = ⟨W,[],some (-6)⟩:=by unfold emitM;rw [if_pos hl]
  rw [e]
  have hd:decide ((1000:Int) ≤ (W.out.length:Int)) = true:=by simpa using (by omega:(1000:Int) ≤ (W.out.length:Int))
  have H:=Lib.hid (show DAt w0 w p T d W [] R from ⟨D,ra,rc,hf,h⟩)
  generalize W.out.length = n at *
  clear h hf F q3 hl ho e
  go_enter Tryz.func112,Tryz.ntmps112
  go_wp2
  exact ⟨rfl,rfl,H.out⟩
 ·have e:emitM W [] d.g d.x = ⟨{ W with out:=W.out ++ [(W.g d.g).rg d.x.2.1] },[],none⟩:=by unfold emitM;rw [if_neg hl]
  rw [e]
  have hd:decide ((1000:Int) ≤ (W.out.length:Int)) = false:=by simpa using (by omega:¬ (1000:Int) ≤ (W.out.length:Int))
  have hone:d.x.2.1 = (a:Int):=hA
  rw [hA]
  generalize hv:(W.g d.g).rg (a:Int) = v
  have hreg:=(reg_at F.stk hm.1 a ha8).1
  rw [hv] at hreg
  have a0:(0:Int) ≤ (a:Int):=by omega
  have a8:(a:Int) < 8:=by omega
  have SCB:∀ (wx:World) (A9:Asr),Own w0 wx ((wparts p W D T ++ (CelA d.q (dcells p (d.g:Int) d.x d.th d.dr d.go ra 0 rc) :: RowGA 1 ra rc 0 (intc []) :: R)).set 9 A9) →
    wx.cell? ⟨d.q,0,none⟩ = some (.pointer (some ⟨p,0,none⟩)) ∧ wx.cell? ⟨p,8,none⟩ = some (.slice D.oa W.out.length D.oc) ∧ wx.cell? ⟨d.q,3,none⟩ = some (.int .i64 (a:Int)) ∧ wx.cell? ⟨s,((W.g d.g).n - 1) * 11 + 2 + a,none⟩ = some (.int .i64 v):=by
   intro wx A9 ho
   obtain ⟨Fx,⟨_,hk⟩,-⟩:=(ho.pick 3 rfl).lstFact (stks_at F.sk (Wd.g_at hg))
   have h3:=(ho.cel 10 rfl 3 _ rfl).1
   rw [hA] at h3
   have hr:=(reg_at hk hm.1 a ha8).1
   rw [hv] at hr
   exact ⟨(ho.cel 10 rfl 0 _ rfl).1,(ho.cel 0 rfl 8 _ rfl).1,h3,hr⟩
  have htop:=dtop_any (F.top.drewN 1)
  have H:=Lib.hid h
  have HF:=Lib.hid hf
  obtain ⟨i0,hi0,hz0,hz1,hz2⟩:=info_parts info_i6
  have Hi:=Lib.hid hi0;clear hi0
  have Hz0:=Lib.hid hz0;clear hz0
  have Hz1:=Lib.hid hz1;clear hz1
  have Hz2:=Lib.hid hz2;clear hz2
  have HL:=Lib.hid (show W.out.length ≤ 1000 from ho)
  obtain ⟨n,hn⟩:∃ n,n = W.out.length:=⟨_,rfl⟩
  rw [← hn] at SCB hd p8 HL
  obtain ⟨m,hmm⟩:∃ m,m = (W.g d.g).n - 1:=⟨_,rfl⟩
  rw [← hmm] at SCB hreg htop
  have HT:=Lib.hid htop
  have HN:=Lib.hid hn
  clear hn hl ho e hone F hf hA hv ha hm htop hmm
  have h0:=H.out
  clear h
  go_enter Tryz.func112,Tryz.ntmps112
  go_upto_region 2 with fail
  have o1:=h0.step (below_drew1 w)
  refine wp_region_lexY (fun wx=>wx.cell? ⟨d.q,0,none⟩ = some (.pointer (some ⟨p,0,none⟩)) ∧ wx.cell? ⟨p,8,none⟩ = some (.slice D.oa n D.oc) ∧ wx.cell? ⟨d.q,3,none⟩ = some (.int .i64 (a:Int)) ∧ wx.cell? ⟨s,m * 11 + 2 + a,none⟩ = some (.int .i64 v)) 26 27 (Array.replicate 27 false) (by kernel_rfl) (by kernel_rfl) ?_
  refine wpAnyY_seg 0 12 _ #[true,true,true,true,true,true,true,true,true,true,true,true,false,false,false,false,false,false,false,false,false,false,false,false,false,false,false] 15 (by kernel_rfl) noPanic_put (SCB _ _ o1) (by kernel_rfl) ?_
  simp only [List.take_succ_cons,List.take_zero,List.drop_zero]
  repeat ((first | refine wpSegH_no (by rfl) ?_ | (refine wpSegH_yes (by rfl) ?_;apply Exists.intro;apply And.intro;(· (intro wx hS;(try dsimp only at hS);go_simp;first | done | with_reducible rfl))));simp only [Act.put,List.setIfInBounds_toArray,List.set_cons_zero,List.set_cons_succ])
  refine wpSegH_nil ?_
  refine wpAnyY_seg 13 5 _ #[true,true,true,true,true,true,true,true,true,true,true,true,false,true,true,true,true,true,false,false,false,false,false,false,false,false,false] 10 (by kernel_rfl) noPanic_put (SCB _ _ o1) (by kernel_rfl) ?_
  simp only [List.take_succ_cons,List.take_zero,List.drop_succ_cons,List.drop_zero]
  repeat ((first | refine wpSegH_no (by rfl) ?_ | (refine wpSegH_yes (by rfl) ?_;apply Exists.intro;apply And.intro;(· (intro wx hS;(try dsimp only at hS);go_simp;first | done | with_reducible rfl))));simp only [Act.put,List.setIfInBounds_toArray,List.set_cons_zero,List.set_cons_succ])
  refine wpSegH_nil ?_
  refine wpAnyY_one 12 _ #[true,true,true,true,true,true,true,true,true,true,true,true,true,true,true,true,true,true,false,false,false,false,false,false,false,false,false] 9 (by kernel_rfl) (fun K hK=>?_)
  have HKK:=Lib.hid hK
  clear hK
  simp only [List.drop_succ_cons,List.drop_zero]
  refine headH_mk (by rfl) ?_
  go_simp
  refine HT.out.mono ?_
  rintro r w1 ⟨rfl,k1,hw1⟩
  have o2:=h0.q2 hw1
  clear hw1
  refine HKK.out _ _ (SCB _ _ o2) ?_
  clear HKK K
  refine wpAnyY_seg 18 4 _ #[true,true,true,true,true,true,true,true,true,true,true,true,true,true,true,true,true,true,true,true,true,true,false,false,false,false,false] 5 (by kernel_rfl) noPanic_put (SCB _ _ o2) (by kernel_rfl) ?_
  simp only [List.take_succ_cons,List.take_zero,List.drop_succ_cons,List.drop_zero]
  repeat ((first | refine wpSegH_no (by rfl) ?_ | (refine wpSegH_yes (by rfl) ?_;apply Exists.intro;apply And.intro;(· (intro wx hS;(try dsimp only at hS);go_simp;first | done | with_reducible rfl))));simp only [Act.put,List.setIfInBounds_toArray,List.set_cons_zero,List.set_cons_succ])
  refine wpSegH_nil ?_
  refine wpAnyY_one 22 _ #[true,true,true,true,true,true,true,true,true,true,true,true,true,true,true,true,true,true,true,true,true,true,true,false,false,false,false] 4 (by kernel_rfl) (fun K hK=>?_)
  have HKK:=Lib.hid hK
  clear hK
  simp only [List.drop_succ_cons,List.drop_zero]
  refine headH_mk (by rfl) ?_
  go_simp
  have o3:=o2.step (below_alloc1 _ (.cells #[.int .i64 v] 2))
  refine HKK.out _ _ (SCB _ _ o3) ?_
  clear HKK K
  refine wpAnyY_one 23 _ #[true,true,true,true,true,true,true,true,true,true,true,true,true,true,true,true,true,true,true,true,true,true,true,true,false,false,false] 3 (by kernel_rfl) (fun K hK=>?_)
  have HKK:=Lib.hid hK
  clear hK
  simp only [List.drop_succ_cons,List.drop_zero]
  refine headH_mk (by rfl) ?_
  have hrow:=o3.rowG 9 rfl
  rw [← HN.out] at hrow
  refine wp_append_rowG (n:=n) (m:=1) (cs:=intc W.out) (ds:=intc [v]) _ _ 39 (by rfl) 2 i0 _ Tryz.underlying39 Hi.out Hz0.out Hz1.out Hz2.out rfl (by omega) (by omega) (by rfl) (by rfl) hrow (CellsAt.new _ (intc [v]) _ rfl) rfl (intc_one _) (by have:=HL.out;omega) ?_
  intro a9 c9 w9 k9 ch9 f9
  have o4:=(Own.rowTurn (o3.pick 9 rfl) k9 ch9 f9).back (i:=9) (As:=wparts p W D T ++ (CelA d.q (dcells p (d.g:Int) d.x d.th d.dr d.go ra 0 rc) :: RowGA 1 ra rc 0 (intc []) :: R)) (by simp [wparts])
  refine HKK.out _ _ (SCB _ _ o4) ?_
  clear HKK K
  refine wpAnyY_segT 24 1 _ #[true,true,true,true,true,true,true,true,true,true,true,true,true,true,true,true,true,true,true,true,true,true,true,true,true,false,false] 2 (by kernel_rfl) noPanic_put (by kernel_rfl) ?_
  simp only [List.take_succ_cons,List.take_zero,List.drop_succ_cons,List.drop_zero]
  repeat ((first | refine wpSegH_no (by rfl) ?_ | (refine wpSegH_yes (by rfl) ?_;apply Exists.intro;apply And.intro;(· (intro wx hS;(try dsimp only at hS);go_simp;first | done | with_reducible rfl))));simp only [Act.put,List.setIfInBounds_toArray,List.set_cons_zero,List.set_cons_succ])
  refine wpSegH_nil ?_
  refine wpAnyY_seg 25 1 _ #[true,true,true,true,true,true,true,true,true,true,true,true,true,true,true,true,true,true,true,true,true,true,true,true,true,true,false] 1 (by kernel_rfl) noPanic_put (SCB _ _ o4) (by kernel_rfl) ?_
  simp only [List.take_succ_cons,List.take_zero,List.drop_succ_cons,List.drop_zero]
  repeat ((first | refine wpSegH_no (by rfl) ?_ | (refine wpSegH_yes (by rfl) ?_;apply Exists.intro;apply And.intro;(· (intro wx hS;(try dsimp only at hS);go_simp;first | done | with_reducible rfl))));simp only [Act.put,List.setIfInBounds_toArray,List.set_cons_zero,List.set_cons_succ])
  refine wpSegH_nil ?_
  have hf:=HF.out
  obtain ⟨z8,f8⟩:=o4.cel 0 rfl 8 _ rfl
  have o5:=o4.setAt 0 rfl 8 (.slice a9 (n + 1) c9)
  have e1:(W.out ++ [v]).length = n + 1:=by rw [List.length_append,← HN.out];rfl
  have HR:Hid (DAt w0 (w9.setCell ⟨p,8,none⟩ (.slice a9 (n + 1) c9)) p T d { W with out:=W.out ++ [v] } [] R):=Lib.hid ⟨{ D with oa:=a9,oc:=c9 },ra,rc,⟨hf.f,hf.g,hf.c,hf.n,hf.l,hf.k⟩,by
   simp only [wparts,wcells,e1,intc_app]
   exact o5⟩
  clear o1 o2 o3 o4 o5 k9 ch9 f9 hf hrow SCB HT H HF
  refine wpAnyY_late 26 _ #[true,true,true,true,true,true,true,true,true,true,true,true,true,true,true,true,true,true,true,true,true,true,true,true,true,true,true] 0 (by kernel_rfl) (fun K hK=>?_)
  have HKK:=Lib.hid hK
  clear hK
  simp only [List.drop_succ_cons,List.drop_zero]
  refine headH_mk (by rfl) ?_
  go_simp
  refine HKK.out _ _ ?_
  clear HKK K
  refine wpAnyY_done (by kernel_rfl) (NoPanic.normal ?_) _
  go_wp2
  go_end0
  exact ⟨rfl,HR.out⟩
theorem drand_any {w0 w:World} {p:Nat} {T:List Value} {d:Dq} {W:Wd} {R:List Asr} (h:DAt w0 w p T d W [] R) (hg:d.g < W.gs.length) (hm:1 ≤ (W.g d.g).n ∧ (W.g d.g).n ≤ 16) (ha:0 ≤ d.x.2.1 ∧ d.x.2.1 < 8) :
  Calls Tryz.prog 113 #[.pointer (some ⟨d.q,0,none⟩)] w fun r w'=>DPost w0 p T d R ⟨W.put d.g d.x.2.1 d.dr,[],none⟩ r w':=by
 obtain ⟨D,ra,rc,hf,h⟩:=h
 obtain ⟨a,hA,ha8⟩:=nat_of (n:=8) ha
 obtain ⟨b,off,s,cap,F⟩:=opF_of hf h hg hm
 have q0:=F.top.d0
 have q3:=(h.cel 10 rfl 3 _ rfl).1
 have q7:=(h.cel 10 rfl 7 _ rfl).1
 rw [hA] at q3
 rw [hA]
 obtain ⟨m,hmm⟩:∃ m,m = (W.g d.g).n - 1:=⟨_,rfl⟩
 have hreg:=reg_at F.stk hm.1 a ha8
 have HT:=Lib.hid (F.htop hmm 1)
 have HP:Hid (∀ w1 k,w1 = (w.drewN 1).drewN k → DAt w0 (w1.setCell ⟨s,m * 11 + 2 + a,none⟩ (.int .i64 d.dr)) p T d (W.put d.g (a:Int) d.dr) [] R):=Lib.hid (fun w1 k e=>by
  rw [hmm]
  exact ⟨D,ra,rc,hf.setG _ _,own_put (h.q2 e) hg F.sk a d.dr⟩)
 rw [← hmm] at hreg
 have a0:(0:Int) ≤ (a:Int):=by omega
 have a8:(a:Int) < 8:=by omega
 obtain ⟨r0,r1⟩:=hreg
 clear h hf F hA ha hm hmm
 go_enter Tryz.func113,Tryz.ntmps113
 refine wp_region_lexK (fun wx=>∃ nq,wx = World.drewN (w) nq) 14 1 (Array.replicate 15 false) #[true,true,true,true,true,true,true,true,true,true,true,true,true,true,false] (by kernel_rfl) (by kernel_rfl) ?_
 refine wpAnyK_seg 0 1 _ #[true,false,false,false,false,false,false,false,false,false,false,false,false,false,false] 13 (by kernel_rfl) noPanic_put (drew_q w) (by kernel_rfl) ?_
 simp only [List.take_succ_cons,List.take_zero,List.drop_zero]
 repeat ((first | refine wpSegH_no (by rfl) ?_ | (refine wpSegH_yes (by rfl) ?_;apply Exists.intro;apply And.intro;(· (rintro wx ⟨nq,rfl⟩;go_simp;first | done | with_reducible rfl))));simp only [Act.put,List.setIfInBounds_toArray,List.set_cons_zero,List.set_cons_succ])
 refine wpSegH_nil ?_
 refine wpAnyK_seg 2 9 _ #[true,false,true,true,true,true,true,true,true,true,true,false,false,false,false] 4 (by kernel_rfl) noPanic_put (drew_q w) (by kernel_rfl) ?_
 simp only [List.take_succ_cons,List.take_zero,List.drop_succ_cons,List.drop_zero]
 repeat ((first | refine wpSegH_no (by rfl) ?_ | (refine wpSegH_yes (by rfl) ?_;apply Exists.intro;apply And.intro;(· (rintro wx ⟨nq,rfl⟩;go_simp;first | done | with_reducible rfl))));simp only [Act.put,List.setIfInBounds_toArray,List.set_cons_zero,List.set_cons_succ])
 refine wpSegH_nil ?_
 refine wpAnyK_one 1 _ #[true,true,true,true,true,true,true,true,true,true,true,false,false,false,false] 3 (by kernel_rfl) (fun K hK=>?_)
 have HKK:=Lib.hid hK
 clear hK
 simp only [List.drop_succ_cons,List.drop_zero]
 refine headH_mk (by rfl) ?_
 go_simp
 refine HT.out.mono ?_
 rintro r w1 ⟨rfl,k1,hw1⟩
 refine HKK.out _ _ (q_q2 hw1) ?_
 clear HKK K
 refine wpAnyK_seg 11 3 _ #[true,true,true,true,true,true,true,true,true,true,true,true,true,true,false] 0 (by kernel_rfl) noPanic_put (q_q2 hw1) (by kernel_rfl) ?_
 simp only [List.take_succ_cons,List.take_zero,List.drop_succ_cons,List.drop_zero]
 repeat ((first | refine wpSegH_no (by rfl) ?_ | (refine wpSegH_yes (by rfl) ?_;apply Exists.intro;apply And.intro;(· (rintro wx ⟨nq,rfl⟩;go_simp;first | done | with_reducible rfl))));simp only [Act.put,List.setIfInBounds_toArray,List.set_cons_zero,List.set_cons_succ])
 refine wpSegH_nil ?_
 refine wpAnyK_next ?_
 refine wpAnyK_seq 14 (by kernel_rfl) ?_
 simp only [List.drop_succ_cons,List.drop_zero]
 have hfin:=HP.out _ _ hw1
 have HF:=Lib.hid hfin
 have s0:w1.cell? ⟨s,m * 11 + 2 + a,none⟩ = some (.int .i64 ((W.g d.g).rg (a:Int))):=by rw [hw1];exact r0
 have s1:w1.frozen? ⟨s,m * 11 + 2 + a,none⟩ = false:=by rw [hw1];exact r1
 clear hfin hw1 HP HT
 go_wp2
 go_end0
 exact ⟨rfl,HF.out⟩
theorem dlock_any {w0 w:World} {p:Nat} {T:List Value} {d:Dq} {W:Wd} {R:List Asr} (h:DAt w0 w p T d W [] R) (hg:d.g < W.gs.length) (hm:1 ≤ (W.g d.g).n ∧ (W.g d.g).n ≤ 16) (ha:0 ≤ d.x.2.1 ∧ d.x.2.1 < (W.Ls.length:Int)) (hl:∀ L ∈ W.Ls,L.length ≤ 1000000) (hk:W.Ls.length ≤ 1000) :
  Calls Tryz.prog 110 #[.pointer (some ⟨d.q,0,none⟩)] w fun r w'=>DPost w0 p T d R (lockM W [] d.g d.x) r w':=by
 obtain ⟨D,ra,rc,hf,h⟩:=h
 obtain ⟨a,hA,ha8⟩:=nat_of (n:=W.Ls.length) ha
 obtain ⟨b,off,s,cap,F⟩:=opF_of hf h hg hm
 have q0:=F.top.d0
 have q1:=F.top.d1
 have q3:=(h.cel 10 rfl 3 _ rfl).1
 have p4:=(h.cel 0 rfl 4 _ rfl).1
 rw [hA] at q3
 obtain ⟨pt,lb,lo,R',hla,l0,k1,k2⟩:=own_lock h hf ha8
 rw [hla] at p4
 have a0:(0:Int) ≤ (a:Int):=by omega
 have a8:(a:Int) < (W.Ls.length:Int):=by omega
 have hLl:=hl _ (List.mem_of_getElem? (Wd.lk_at ha8))
 have e:lockM W [] d.g d.x = if (W.lk (a:Int)).isEmpty = true then ⟨{ W with Ls:=W.Ls.set a (W.lk (a:Int) ++ [(d.g:Int)]) },[],none⟩ else ⟨({ W with Ls:=W.Ls.set a (W.lk (a:Int) ++ [(d.g:Int)]) }:Wd).setSt d.g 2,[],none⟩:=by
  unfold lockM
  rw [hA]
  cases hL:W.lk (a:Int) <;> simp [hL]
 rw [e]
 have K2:=Lib.hid k2
 have HC:Hid (∀ k,Calls Tryz.prog 136 #[.pointer (some ⟨pt,0,none⟩),.int .i64 (d.g:Int)] (w.drewN k) fun r w'=>r = .returned (.bool (W.lk (a:Int)).isEmpty) ∧ Own w0 w' (wparts p { W with Ls:=W.Ls.set a (W.lk (a:Int) ++ [(d.g:Int)]) } D T ++ (CelA d.q (dcells p (d.g:Int) d.x d.th d.dr d.go ra 0 rc) :: RowGA 1 ra rc 0 (intc []) :: R)) ∧ D.fits { W with Ls:=W.Ls.set a (W.lk (a:Int) ++ [(d.g:Int)]) }) :=
  Lib.hid (fun k=>(o_ktake (k1.step (below_dN w k)) (d.g:Int) hLl).mono (fun r w' hh=>⟨hh.1,k2 _ _ hh.2⟩))
 generalize hem:(W.lk (a:Int)).isEmpty = em at *
 generalize hW1:({ W with Ls:=W.Ls.set a (W.lk (a:Int) ++ [(d.g:Int)]) }:Wd) = W1 at *
 have hg1:d.g < W1.gs.length:=by rw [← hW1];exact hg
 have hm1:1 ≤ (W1.g d.g).n ∧ (W1.g d.g).n ≤ 16:=by rw [← hW1];exact hm
 generalize W.Ls.length = N at *
 clear k1 k2 h F hf hA ha hl hem hW1 hLl hm e K2
 go_enter Tryz.func110,Tryz.ntmps110
 go_upto_region 0 with fail
 refine wp_region_lexK (fun wx=>∃ nq,wx = World.drewN (w) nq) 18 2 (Array.replicate 20 false) #[true,true,true,true,true,true,true,true,true,true,true,true,true,true,true,true,true,true,false,false] (by kernel_rfl) (by kernel_rfl) ?_
 refine wpAnyK_seg 0 18 _ #[true,true,true,true,true,true,true,true,true,true,true,true,true,true,true,true,true,true,false,false] 0 (by kernel_rfl) noPanic_put (drew_q w) (by kernel_rfl) ?_
 simp only [List.take_succ_cons,List.take_zero,List.drop_zero]
 repeat ((first | refine wpSegH_no (by rfl) ?_ | (refine wpSegH_yes (by rfl) ?_;apply Exists.intro;apply And.intro;(· (rintro wx ⟨nq,rfl⟩;go_simp;first | done | with_reducible rfl))));simp only [Act.put,List.setIfInBounds_toArray,List.set_cons_zero,List.set_cons_succ])
 refine wpSegH_nil ?_
 refine wpAnyK_next ?_
 refine wpAnyK_seq 18 (by kernel_rfl) ?_
 simp only [List.drop_succ_cons,List.drop_zero]
 go_wp2_with fail
 refine (HC.out 1).mono ?_
 rintro r w1 ⟨rfl,h1,hf1⟩
 have H1:=Lib.hid (show DAt w0 w1 p T d W1 [] R from ⟨D,ra,rc,hf1,h1⟩)
 obtain ⟨b1,off1,s1,cap1,F1⟩:=opF_of hf1 h1 hg1 hm1
 have HM:=Lib.hid (F1.hme 0)
 have HP:Hid (∀ w2 k,w2 = (w1.drewN 0).drewN k → DAt w0 (w2.setCell ⟨b1,off1 + d.g * 2,none⟩ (.int .i64 2)) p T d (W1.setSt d.g 2) [] R):=Lib.hid (fun w2 k e=>⟨D,ra,rc,hf1.setG _ _,own_st (h1.q2 e) hf1 hg1 F1.aa 2⟩)
 obtain ⟨c0,c1⟩:=F1.st
 clear HC h1 hf1 F1
 go_wp2_with fail
 refine NoPanic.normal ?_
 cases em with
 | true =>
  go_wp2
  go_end0
  exact ⟨rfl,H1.out⟩
 | false =>
  go_wp2_with fail
  refine (HM.out).mono ?_
  rintro r w2 ⟨rfl,k,hw2⟩
  have HF:=Lib.hid (HP.out _ _ hw2)
  have c0':w2.cell? ⟨b1,off1 + d.g * 2,none⟩ = some (.int .i64 ((W1.g d.g).st)):=by rw [hw2];exact c0
  have c1':w2.frozen? ⟨b1,off1 + d.g * 2,none⟩ = false:=by rw [hw2];exact c1
  clear hw2 HP HM c0 c1
  go_wp2
  go_end0
  exact ⟨rfl,HF.out⟩
end Go.Proofs.YtphfaekpckbepaaGreat
