/-
  An instruction's line.
-/
import Derived.Test.YtdeilfnfpgjnnaaDoorAsW7
open Go Go.RowKit
set_option linter.unusedVariables false
set_option linter.unusedSimpArgs false
namespace Go.Proofs.YtdeilfnfpgjnnaaDoor
def opI (i : Nat) : Prop := ∀ w, (Instr.index 63 (.agg (tabc opsL).toArray) (.int .i64 (i : Int))).run Tryd.prog w = .ok (.agg #[str (opsL.getD i ([], 0)).1, .int .i64 ((opsL.getD i ([], 0)).2 : Int)]) w
set_option maxRecDepth 100000 in
theorem op_at : ∀ i, i < 23 → opI i := fun i hi => by
  have : i = 0 ∨ i = 1 ∨ i = 2 ∨ i = 3 ∨ i = 4 ∨ i = 5 ∨ i = 6 ∨ i = 7 ∨ i = 8 ∨ i = 9 ∨ i = 10 ∨ i = 11 ∨ i = 12 ∨ i = 13 ∨ i = 14 ∨ i = 15 ∨ i = 16 ∨ i = 17 ∨ i = 18 ∨ i = 19 ∨ i = 20 ∨ i = 21 ∨ i = 22 := by omega
  rcases this with rfl | rfl | rfl | rfl | rfl | rfl | rfl | rfl | rfl | rfl | rfl | rfl | rfl | rfl | rfl | rfl | rfl | rfl | rfl | rfl | rfl | rfl | rfl <;> exact fun w => by kernel_rfl
def opR (r : Rd) (ws : List By) (o : Option (Nat × Nat)) : Rd × Int := match o with
  | none => (r, 9)
  | some (op, n) => withN r (numsM ws n) fun x => addI r ((op : Int), x3 x 0, x3 x 1, x3 x 2)
set_option maxRecDepth 100000 in
set_option maxHeartbeats 4000000 in
theorem ins_any (b : Nat) (r : Rd) (R : List Asr) (a : Option Addr) (cap : Nat) (wd : By) (ws : List By) (w0 w : World) (hl : ws.length ≤ 100000) (hs : ∀ x ∈ ws, x.length ≤ 100000) (hg : GlA w0) (h : RdAt w0 w b r R) (hat : CellsAt w a (strs ws)) (hr : r.fs.length ≤ 100000) (hr0 : 0 < r.fs.length) (hrl : ∀ f ∈ r.fs, f.length ≤ 100000) :
    Calls Tryd.prog 29 #[.pointer (some ⟨b, 0, none⟩), str wd, .slice a ws.length cap] w fun e w' =>
      e = .returned (.int .i64 (opR r ws (opAt 0 opsL wd)).2) ∧ RdAt w0 w' b (opR r ws (opAt 0 opsL wd)).1 R := by
  obtain ⟨i0, hi, hz0, hz1, hz2⟩ := info_parts info_ins
  have Hi := Lib.hid hi
  have Hz0 := Lib.hid hz0
  have Hz1 := Lib.hid hz1
  have Hz2 := Lib.hid hz2
  have HG := Lib.hid hg
  have HAT := Lib.hid hat
  have HS := Lib.hid hs
  have HLK := Lib.hid hr
  have HR00 := Lib.hid hr0
  have HRL := Lib.hid hrl
  have HI := Lib.hid op_at
  have HR0 : Hid (RdAt w0 w b r R ∧ Below w.heap.size w w ∧ opAt 0 opsL wd = opAt 0 (opsL.drop 0) wd) := Lib.hid ⟨h, Below.refl _ _, rfl⟩
  have hrg : w.rangeAt 1 0 (tabc opsL) := fun j v hj => by rw [Nat.zero_add]; exact (hg.below h.bel).op j v hj
  obtain ⟨Q, hQ⟩ : ∃ Q, opAt 0 opsL wd = Q := ⟨_, rfl⟩
  rw [hQ] at HR0 ⊢
  obtain ⟨m, hm⟩ : ∃ m, ws.length = m := ⟨_, rfl⟩
  have HM := Lib.hid hm
  rw [hm] at hl ⊢
  obtain ⟨T, hT⟩ : ∃ T, (tabc opsL) = T := ⟨_, rfl⟩
  unfold opI at HI
  rw [hT] at hrg HI
  have HT : Hid (T.length = 46) := Lib.hid (by rw [← hT]; rfl)
  have hlen : (Tryd.prog.info? 63).map (·.size) = some T.length := by rw [HT.out]; kernel_rfl
  clear hi hz0 hz1 hz2 hg hat hs hr hr0 hrl hQ h hm hT
  unfold str
  obtain ⟨sw, hsw⟩ : ∃ sw, bs wd = sw := ⟨_, rfl⟩
  have HSW := Lib.hid hsw
  rw [hsw]
  clear hsw
  go_enter Tryd.func29, Tryd.ntmps29
  go_wp2_with (first
    | (with_reducible refine wpList_load_mid rfl _ _ rfl _ _ rfl _ _ hrg Tryd.underlying63 rfl hlen ?_)
    | fail)
  clear hrg hlen
  go_loopw [13] (fun s wr => ∃ i : Nat, i ≤ 23 ∧ s = .int .i64 (i : Int) ∧ Hid (RdAt w0 wr b r R ∧ Below w.heap.size w wr ∧ Q = opAt i (opsL.drop i) wd)) (fun s _ => 23 - (intOf s).toNat)
  case atStart => exact ⟨0, by omega, rfl, HR0⟩
  case round =>
    obtain ⟨i, hi, rfl, HR⟩ := hrel
    clear HR0
    by_cases hlt : i < 23
    · have hx := HI.out i hlt
      obtain ⟨⟨nm, nn⟩, hnm⟩ : ∃ p, opsL.getD i ([], 0) = p := ⟨_, rfl⟩
      have ho := opAt_drop opsL wd i hlt
      rw [hnm] at ho hx
      simp only at ho hx
      have HO := Lib.hid ho
      unfold str at hx
      have HB : Hid (nn ≤ 3) := Lib.hid (by
        have h : ∀ i < 23, (opsL.getD i ([], 0)).2 ≤ 3 := by decide
        have := h i hlt
        rw [hnm] at this
        exact this)
      have hne := qe_bs nm wd
      rw [HSW.out] at hne
      clear ho hnm
      by_cases he : nm = wd
      · have hne2 : ((bs nm).toList == sw.toList) = true := by rw [hne]; simpa using he
        clear hne
        obtain ⟨sn, hsn⟩ : ∃ sn, bs nm = sn := ⟨_, rfl⟩
        rw [hsn] at hx hne2
        clear hsn
        go_upto_region 5 with fail
        have hQ : Q = some (i, nn) := by rw [HR.out.2.2, HO.out, if_pos he]
        subst hQ
        have hw1 : Below w.heap.size w (wr.alloc (.cells #[.string sn, .int .i64 (nn : Int)] 57)) := HR.out.2.1.alloc (by have := HR.out.2.1.size; omega) _
        have h1 := HR.out.1.step (below_alloc1 wr (.cells #[.string sn, .int .i64 (nn : Int)] 57))
        have HC := numbers_any ws nn a cap _ HB.out (by rw [HM.out]; exact hl) HS.out (HG.out.below h1.bel) (HAT.out.below hw1)
        rw [HM.out] at HC
        obtain ⟨c1, c2, c3, hv, hc⟩ := numsV_agg ws nn
        rw [hv] at HC
        have hpq : opR r ws (some (i, nn)) = if (numsM ws nn).2 = 0 then (addI r ((i : Int), x3 (numsM ws nn).1 0, x3 (numsM ws nn).1 1, x3 (numsM ws nn).1 2), 0) else (r, (numsM ws nn).2) := rfl
        obtain ⟨⟨q1, q2⟩, hqq⟩ : ∃ q, numsM ws nn = q := ⟨_, rfl⟩
        rw [hqq] at HC hc hpq
        simp only at HC hc hpq
        have HPQ := Lib.hid hpq
        clear hqq hpq
        have HC := Lib.hid HC
        have H1 := Lib.hid h1
        have HCC := Lib.hid hc
        obtain ⟨u0, v0⟩ := (Blk.mk wr [.string sn, .int .i64 (nn : Int)] 57 wr.heap.size rfl) 0 _ rfl
        obtain ⟨u1, v1⟩ := (Blk.mk wr [.string sn, .int .i64 (nn : Int)] 57 wr.heap.size rfl) 1 _ rfl
        clear hw1 h1 hv hc hx hne2
        go_wp2_with fail
        refine HC.out.mono ?_
        rintro e w2 ⟨rfl, hb⟩
        obtain ⟨D, hD, o⟩ := H1.out
        have o1 := o.step hb
        obtain ⟨g, hgg⟩ : ∃ g, g = w2.heap.size := ⟨_, rfl⟩
        have o2 := o1.alloc [.int .i64 c1, .int .i64 c2, .int .i64 c3] 64 (b := g) hgg
        have HO2 := Lib.hid o2
        have HD := Lib.hid hD
        clear o o1 o2 hb HC H1 hD
        by_cases hq : q2 = 0
        · subst hq
          have HE12 : Hid (c1 = x3 q1 0 ∧ c2 = x3 q1 1 ∧ c3 = x3 q1 2) := Lib.hid (HCC.out rfl)
          go_upto_region 7 with fail
          rw [← hgg]
          generalize w2.alloc (.cells #[.int .i64 c1, .int .i64 c2, .int .i64 c3] 64) = w3 at *
          clear hgg
          obtain ⟨k, hk⟩ : ∃ k, r.fs.length = k + 1 := ⟨r.fs.length - 1, by have := HR00.out; omega⟩
          have hdl : D.rs.length = k + 1 := by rw [← hk, ← HD.out, List.length_map]
          obtain ⟨fr, hfr⟩ : ∃ fr, D.rs[k]? = some fr := ⟨_, List.getElem?_eq_getElem (by omega)⟩
          obtain ⟨fb, fo, hfa, hfc⟩ := (HO2.out.rowG 2 rfl).cells k _ (frs_at hfr)
          obtain ⟨nl, hnl⟩ : ∃ nl, fr.l.length = nl := ⟨_, rfl⟩
          have hnl2 : nl ≤ 100000 := by
            rw [← hnl]
            refine HRL.out _ ?_
            rw [← HD.out]
            exact List.mem_map_of_mem (List.mem_of_getElem? hfr)
          have hrk : k + 1 ≤ 100000 := by have := HLK.out; omega
          have SCA : ∀ (wx : World), Own w0 wx (CelA g [.int .i64 c1, .int .i64 c2, .int .i64 c3] :: (rdp b r D ++ R)) → wx.cell? ⟨b, 0, none⟩ = some (.slice (some ⟨fb, fo, none⟩) (k + 1) D.fc) := by
            intro wx o
            rw [← hk, ← hfa]
            exact (o.cel 1 rfl 0 _ rfl).1
          have SCB : ∀ (wx : World) (A9 : Asr), Own w0 wx ((CelA g [.int .i64 c1, .int .i64 c2, .int .i64 c3] :: (rdp b r D ++ R)).set (k + 5) A9) →
              wx.cell? ⟨fb, fo + k, none⟩ = some (.slice fr.a nl fr.c) ∧ wx.cell? ⟨g, 0, none⟩ = some (.int .i64 c1) ∧ wx.cell? ⟨g, 1, none⟩ = some (.int .i64 c2) ∧ wx.cell? ⟨g, 2, none⟩ = some (.int .i64 c3) := by
            intro wx A9 o
            refine ⟨?_, (o.cel 0 rfl 0 _ rfl).1, (o.cel 0 rfl 1 _ rfl).1, (o.cel 0 rfl 2 _ rfl).1⟩
            obtain ⟨b2, o2, e2, h2⟩ := (o.rowG 2 rfl).cells k _ (frs_at hfr)
            rw [hfa] at e2
            cases e2
            rw [← hnl]
            exact h2
          have SCC : ∀ (wx : World), Own w0 wx (CelA g [.int .i64 c1, .int .i64 c2, .int .i64 c3] :: (rdp b r D ++ R)) →
              wx.cell? ⟨fb, fo + k, none⟩ = some (.slice fr.a nl fr.c) ∧ wx.cell? ⟨g, 0, none⟩ = some (.int .i64 c1) ∧ wx.cell? ⟨g, 1, none⟩ = some (.int .i64 c2) ∧ wx.cell? ⟨g, 2, none⟩ = some (.int .i64 c3) := by
            intro wx o
            refine ⟨?_, (o.cel 0 rfl 0 _ rfl).1, (o.cel 0 rfl 1 _ rfl).1, (o.cel 0 rfl 2 _ rfl).1⟩
            obtain ⟨b2, o2, e2, h2⟩ := (o.rowG 2 rfl).cells k _ (frs_at hfr)
            rw [hfa] at e2
            cases e2
            rw [← hnl]
            exact h2
          have HK := Lib.hid (And.intro hk (And.intro hdl (And.intro hfr (And.intro hfa hnl))))
          clear hk hdl hfr hfa hfc hnl
          have z0 := SCA _ HO2.out
          have hkk : (((k + 1 : Nat) : Int)) - 1 = (k : Int) := by omega
          go_quiet (fail)
          go_upto_region 8 with fail
          have o2 := HO2.out.step (((Chg.refl [] w3).drewN nq).drew).to_below0
          refine wp_region_lexY (fun wx => wx.cell? ⟨fb, fo + k, none⟩ = some (.slice fr.a nl fr.c) ∧ wx.cell? ⟨g, 0, none⟩ = some (.int .i64 c1) ∧ wx.cell? ⟨g, 1, none⟩ = some (.int .i64 c2) ∧ wx.cell? ⟨g, 2, none⟩ = some (.int .i64 c3)) 15 16 (Array.replicate 16 false) (by kernel_rfl) (by kernel_rfl) ?_
          refine wpAnyY_seg 0 12 _ #[true, true, true, true, true, true, true, true, true, true, true, true, false, false, false, false] 4 (by kernel_rfl) noPanic_put (SCC _ o2) (by kernel_rfl) ?_
          simp only [List.take_succ_cons, List.take_zero, List.drop_zero]
          repeat (first
            | (refine wpSegH_no (by rfl) ?_; simp only [Act.put, List.setIfInBounds_toArray, List.set_cons_zero, List.set_cons_succ])
            | (refine wpSegH_yes (by rfl) ?_; apply Exists.intro; apply And.intro; (· (intro wx hS; (try dsimp only at hS); go_simp; first | done | with_reducible rfl)); simp only [Act.put, List.setIfInBounds_toArray, List.set_cons_zero, List.set_cons_succ]))
          refine wpSegH_nil ?_
          refine wpAnyY_one 12 _ #[true, true, true, true, true, true, true, true, true, true, true, true, true, false, false, false] 3 (by kernel_rfl) (fun K hK => ?_)
          have HKK := Lib.hid hK
          clear hK
          simp only [List.drop_succ_cons, List.drop_zero]
          refine headH_mk (by rfl) ?_
          go_simp
          have o3 := o2.step (below_alloc1 _ (.cells #[.int .i64 (i : Int), .int .i64 c1, .int .i64 c2, .int .i64 c3] 62))
          refine HKK.out _ _ (SCC _ o3) ?_
          clear HKK K
          refine wpAnyY_one 13 _ #[true, true, true, true, true, true, true, true, true, true, true, true, true, true, false, false] 2 (by kernel_rfl) (fun K hK => ?_)
          have HKK := Lib.hid hK
          clear hK
          simp only [List.drop_succ_cons, List.drop_zero]
          refine headH_mk (by rfl) ?_
          have hL5 : ((CelA g [.int .i64 c1, .int .i64 c2, .int .i64 c3] :: (rdp b r D ++ R)) : List Asr)[k + 5]? = some (fra fr) := by
            have := fns_at HK.out.2.2.1
            unfold rdp
            simp only [List.cons_append, List.getElem?_cons_succ]
            rw [List.getElem?_append_left (by have := HK.out.2.1; unfold fns; rw [List.length_map]; omega)]
            exact this
          have hrow := o3.rowG (k + 5) hL5
          rw [HK.out.2.2.2.2] at hrow
          refine wp_append_rowG (n := nl) (m := 1) (cs := inc fr.l) (ds := inc [((i : Int), c1, c2, c3)]) _ _ 45 (by rfl) 62 i0 _ Tryd.underlying45 Hi.out Hz0.out Hz1.out Hz2.out rfl (by omega) (by omega) (by rfl) (by rfl) hrow (CellsAt.new _ (inc [((i : Int), c1, c2, c3)]) _ rfl) (by rfl) (inc_one _) (by omega) ?_
          intro a9 c9 w9 k9 ch9 f9
          have o4 := (Own.rowTurn (o3.pick (k + 5) hL5) k9 ch9 f9).back (i := k + 5) (As := CelA g [.int .i64 c1, .int .i64 c2, .int .i64 c3] :: (rdp b r D ++ R)) (by have := HK.out.2.1; simp [rdp, fns]; omega)
          refine HKK.out _ _ (SCB _ _ o4) ?_
          clear HKK K
          refine wpAnyY_seg 14 1 _ #[true, true, true, true, true, true, true, true, true, true, true, true, true, true, true, false] 1 (by kernel_rfl) noPanic_put (SCB _ _ o4) (by kernel_rfl) ?_
          simp only [List.take_succ_cons, List.take_zero, List.drop_succ_cons, List.drop_zero]
          repeat (first
            | (refine wpSegH_no (by rfl) ?_; simp only [Act.put, List.setIfInBounds_toArray, List.set_cons_zero, List.set_cons_succ])
            | (refine wpSegH_yes (by rfl) ?_; apply Exists.intro; apply And.intro; (· (intro wx hS; (try dsimp only at hS); go_simp; first | done | with_reducible rfl)); simp only [Act.put, List.setIfInBounds_toArray, List.set_cons_zero, List.set_cons_succ]))
          refine wpSegH_nil ?_
          obtain ⟨hk, hdl, hfr, hfa, hnl⟩ := HK.out
          have hkf : k < (frs D.rs).length := by rw [frs_len]; omega
          have o4r := o4.rowG 2 rfl
          rw [hfa] at o4r
          obtain ⟨z8, f8⟩ : ∃ v, w9.cell? ⟨fb, fo + k, none⟩ = some v ∧ w9.frozen? ⟨fb, fo + k, none⟩ = false := o4r.spot k (by have := o4r.2.1; rw [hk] at this; omega)
          obtain ⟨x, hx⟩ : ∃ x : In4, x = ((i : Int), c1, c2, c3) := ⟨_, rfl⟩
          have HE : Hid (RdAt w0 (w9.setCell ⟨fb, fo + k, none⟩ (.slice a9 (nl + 1) c9)) b (addI r x) R) := Lib.hid (by
            obtain ⟨f', hf'⟩ : ∃ f' : Fr, f' = ⟨a9, c9, fr.l ++ [x]⟩ := ⟨_, rfl⟩
            have el : (fr.l ++ [x]).length = nl + 1 := by rw [List.length_append, hnl]; rfl
            have efr : fra f' = RowGA 4 a9 c9 (nl + 1) (inc fr.l ++ inc [((i : Int), c1, c2, c3)]) := by
              rw [hf']
              unfold fra
              simp only
              rw [el, inc_app, hx]
            have efv : frv f' = .slice a9 (nl + 1) c9 := by rw [hf']; unfold frv; simp only; rw [el]
            have e4 : (CelA g [.int .i64 c1, .int .i64 c2, .int .i64 c3] :: (rdp b r D ++ R)).set (k + 5) (RowGA 4 a9 c9 (nl + 1) (inc fr.l ++ inc [((i : Int), c1, c2, c3)])) =
                CelA g [.int .i64 c1, .int .i64 c2, .int .i64 c3] :: CelA b (rcl r D) :: RowGA 1 D.fa D.fc r.fs.length (frs D.rs) :: RowGA 1 D.ca D.cc r.cs.length (intc r.cs) :: RowGA 3 D.ka D.kc r.ks.length (cac r.ks) :: (fns (D.rs.set k f') ++ R) := by
              rw [← efr]
              unfold rdp
              simp only [List.cons_append, List.set_cons_succ]
              rw [List.set_append_left _ _ (by unfold fns; rw [List.length_map]; omega), fns_set]
            have o4x := o4
            rw [e4] at o4x
            have o4y := o4x.pick 2 rfl
            have o5 := (Own.rowSet (hfa ▸ o4y) k (frv f') hkf).back (i := 2) (As := CelA g [.int .i64 c1, .int .i64 c2, .int .i64 c3] :: CelA b (rcl r D) :: RowGA 1 D.fa D.fc r.fs.length (frs D.rs) :: RowGA 1 D.ca D.cc r.cs.length (intc r.cs) :: RowGA 3 D.ka D.kc r.ks.length (cac r.ks) :: (fns (D.rs.set k f') ++ R)) (by simp)
            rw [efv] at o5
            have o6 := o5.drop
            refine ⟨{ D with rs := D.rs.set k f' }, ?_, ?_⟩
            · have hD := HD.out
              have hget : r.fs.getD k [] = fr.l := by
                rw [← hD, List.getD_eq_getElem?_getD, List.getElem?_map, hfr]
                rfl
              unfold addI
              simp only
              rw [List.map_set, hD, hk, Nat.add_sub_cancel, hget, hf']
            · have e7 : (addI r x).fs.length = r.fs.length := by unfold addI; simp
              have e8 : rdp b (addI r x) { D with rs := D.rs.set k f' } = CelA b (rcl r D) :: RowGA 1 D.fa D.fc r.fs.length ((frs D.rs).set k (.slice a9 (nl + 1) c9)) :: RowGA 1 D.ca D.cc r.cs.length (intc r.cs) :: RowGA 3 D.ka D.kc r.ks.length (cac r.ks) :: fns (D.rs.set k f') := by
                unfold rdp rcl
                rw [e7]
                simp only
                rw [← frs_set, efv]
                rfl
              rw [e8, hfa]
              exact o6)
          have HPX := HPQ.out
          rw [if_pos trivial, ← HE12.out.1, ← HE12.out.2.1, ← HE12.out.2.2, ← hx] at HPX
          have HPX := Lib.hid HPX
          clear o2 o3 o4 o4r k9 ch9 f9 hrow SCB SCC SCA hL5 HPQ HE12 hx HK hk hdl hfr hfa hnl
          refine wpAnyY_late 15 _ #[true, true, true, true, true, true, true, true, true, true, true, true, true, true, true, true] 0 (by kernel_rfl) (fun K hK => ?_)
          have HKK := Lib.hid hK
          clear hK
          simp only [List.drop_succ_cons, List.drop_zero]
          refine headH_mk (by rfl) ?_
          go_simp
          refine HKK.out _ _ ?_
          clear HKK K
          refine wpAnyY_done (by kernel_rfl) (NoPanic.normal ?_) _
          go_wp2
          go_ret
          exact ⟨by rw [HPX.out]; rfl, by rw [HPX.out]; exact HE.out⟩
        · have hqb : (q2 == 0) = false := by simpa using hq
          have HE : Hid (RdAt w0 (w2.alloc (.cells #[.int .i64 c1, .int .i64 c2, .int .i64 c3] 64)) b r R) := Lib.hid ⟨D, HD.out, HO2.out.drop⟩
          rw [hgg] at HO2
          go_wp2_with fail
          go_ret
          exact ⟨by rw [HPQ.out, if_neg hq]; rfl, by rw [HPQ.out, if_neg hq]; exact HE.out⟩
      · have hne2 : ((bs nm).toList == sw.toList) = false := by rw [hne]; simpa using he
        clear hne
        obtain ⟨sn, hsn⟩ : ∃ sn, bs nm = sn := ⟨_, rfl⟩
        rw [hsn] at hx hne2
        clear hsn
        have HN : Hid (Q = opAt (i + 1) (opsL.drop (i + 1)) wd) := Lib.hid (by rw [HR.out.2.2, HO.out, if_neg he])
        have HX : Hid (RdAt w0 (wr.alloc (.cells #[.string sn, .int .i64 (nn : Int)] 57)) b r R ∧ Below w.heap.size w (wr.alloc (.cells #[.string sn, .int .i64 (nn : Int)] 57)) ∧ Q = opAt (i + 1) (opsL.drop (i + 1)) wd) :=
          Lib.hid ⟨HR.out.1.step (below_alloc1 _ _), HR.out.2.1.alloc (by have := HR.out.2.1.size; omega) _, HN.out⟩
        go_wp2_with fail
        exact ⟨⟨i + 1, by omega, by go_num, HX⟩, by simp [intOf]; omega⟩
    · obtain rfl : i = 23 := by omega
      have HQ : Hid (Q = none) := Lib.hid (by rw [HR.out.2.2]; exact opAt_end opsL wd)
      go_wp2_with fail
      go_ret
      exact ⟨by rw [HQ.out]; rfl, by rw [HQ.out]; exact HR.out.1⟩
end Go.Proofs.YtdeilfnfpgjnnaaDoor
