/-
  The law's does: Put into the global row.
-/
import Derived.Test.YtmldfckeenahlaaWDo8h
open Go Go.RowKit
set_option linter.unusedVariables false
namespace Go.Proofs.Ytmldfckeenahlaa
set_option maxRecDepth 100000 in
set_option maxHeartbeats 8000000 in
theorem does_7 (w0 w : World) (wb b : Nat) (ds : List Qd) (gl : List Int) (nx : Nat) (out : List Int) (kd wh n : Int) (h : St8 w0 w wb b ds gl nx out) (hK : (bits BinOp.and IntKind.i64 kd 255).tmod 10 = 7) (hn : nx ≤ 100) :
    Calls Try.prog 7 #[.pointer (some ⟨wb, 0, none⟩), .agg #[.int .i64 kd, .int .i64 wh, .int .i64 n]] w fun r w' => Does8 w0 wb b nx r w' := by
  obtain ⟨la, lc, xa, xc, rs, ya, yc, oa, oc, h1, h2, h3, h4, h5⟩ := h
  obtain ⟨i, hi, hi4⟩ : ∃ i : Nat, bits BinOp.and IntKind.i64 wh 3 = (i : Int) ∧ i < 4 := ⟨(wh % 4).toNat, by rw [and_3i]; omega, by omega⟩
  obtain ⟨k, hk, hk4⟩ : ∃ k : Nat, bits BinOp.and IntKind.i64 n 3 = (k : Int) ∧ k < 4 := ⟨(n % 4).toNat, by rw [and_3i]; omega, by omega⟩
  obtain ⟨d, hd⟩ : ∃ d, ds[i]? = some d := ⟨_, List.getElem?_eq_getElem (by omega)⟩
  have hil : i < ds.length := by omega
  have hpool := h3 d (List.mem_of_getElem? hd)
  unfold D8 at h1
  obtain ⟨lb, lo, rfl, -⟩ := (h1.rowG 1 rfl).cells i _ (lptr_at hd)
  obtain ⟨xb, xo, rfl, -⟩ := (h1.rowG 3 rfl).cells.xq hd
  have hinv := h5.nonneg
  have hlen := h5.len
  have hll : d.q.l.length ≤ d.N ∧ 1 ≤ d.N ∧ d.N ≤ 1024 := by
    obtain ⟨F, ⟨_, hL⟩, _⟩ := (h1.locOut hd).head
    have := hL.ll
    exact ⟨this.1, this.2.1, this.2.2.1⟩
  have hgl : gl.length ≤ 100 := by omega
  have hnn : ∀ v, d.q.nx = some v → 0 ≤ v := fun v hv => (hinv v (List.mem_append.2 (.inl ((alln_out hd).mem_iff.2 (List.mem_append.2 (.inl (by unfold qn; rw [hv]; simp))))))).1
  have HNN := Lib.hid (And.intro hnn hinv)
  have HP := Lib.hid (And.intro hpool (And.intro h3 h4))
  have H5 := Lib.hid h5
  have HD := Lib.hid (And.intro hd (And.intro hil h2))
  obtain ⟨ab, hab⟩ : ∃ ab, ab = w.heap.size := ⟨_, rfl⟩
  have hbA := below_alloc1 w (.cells #[.int .i64 kd, .int .i64 wh, .int .i64 n] 29)
  have HO := Lib.hid (h1.step hbA)
  have hact := Blk.mk w [.int .i64 kd, .int .i64 wh, .int .i64 n] 29 ab hab
  have HACT := Lib.hid hact
  clear h1 h2 h3 h4 h5 hd hil hpool hinv hlen hnn hbA hact
  go_enter Try.func7, Try.ntmps7
  go_upto_region 1 with fail
  rw [← hab]
  generalize w.alloc (.cells #[.int .i64 kd, .int .i64 wh, .int .i64 n] 29) = W at *
  clear hab
  obtain ⟨q0, -⟩ := HACT.out 0 _ rfl
  obtain ⟨q1, -⟩ := HACT.out 1 _ rfl
  obtain ⟨q2, -⟩ := HACT.out 2 _ rfl
  go_upto_region 36 with fail
  clear q0 q1 q2 hK hi hk
  have SCX : ∀ (wx : World) (L : List Asr), Own w0 wx (CelA wb [.slice (some ⟨lb, lo, none⟩) 4 lc, .pointer (some ⟨b, 0, none⟩), .slice (some ⟨xb, xo, none⟩) 4 xc, .slice ya gl.length yc, .int .i64 (nx : Int), .slice oa out.length oc] :: L) → (wx.cell? ⟨wb, 1, none⟩ = some (.pointer (some ⟨b, 0, none⟩)) ∧ wx.cell? ⟨wb, 3, none⟩ = some (.slice ya gl.length yc) ∧ wx.cell? ⟨wb, 4, none⟩ = some (.int .i64 (nx : Int))) := fun wx L h =>
    ⟨(h.cel 0 rfl 1 _ rfl).1, (h.cel 0 rfl 3 _ rfl).1, (h.cel 0 rfl 4 _ rfl).1⟩
  have HX := Lib.hid SCX
  obtain ⟨n0, hi0, hz0, hz1, hz2⟩ := info_parts info_i8
  have Ni := Lib.hid hi0; clear hi0
  have Nz0 := Lib.hid hz0; clear hz0
  have Nz1 := Lib.hid hz1; clear hz1
  have Nz2 := Lib.hid hz2; clear hz2
  have o1 := HO.out.step (below_drew1 W)
  have o2 := (HO.out.step (below_alloc1 W (.cells #[.int .i64 (nx : Int)] 3))).step (below_drew1 _)
  have O1 := Lib.hid o1
  have O2 := Lib.hid o2
  clear SCX HO HACT o1 o2
  refine wp_region_lexH (fun wx => wx.cell? ⟨wb, 1, none⟩ = some (.pointer (some ⟨b, 0, none⟩)) ∧ wx.cell? ⟨wb, 3, none⟩ = some (.slice ya gl.length yc) ∧ wx.cell? ⟨wb, 4, none⟩ = some (.int .i64 (nx : Int))) 10 (Array.replicate 10 false) (by kernel_rfl) (by kernel_rfl) ?_
  refine wpAnyH_seg 0 8 _ #[true, true, true, true, true, true, true, true, false, false] 2 (by kernel_rfl) noPanic_put (HX.out _ _ O1.out) (by kernel_rfl) ?_
  simp only [List.take_succ_cons, List.take_zero, List.drop_zero]
  repeat (first
    | (refine wpSegH_no (by rfl) ?_; simp only [Act.put, List.setIfInBounds_toArray, List.set_cons_zero, List.set_cons_succ])
    | (refine wpSegH_yes (by rfl) ?_; apply Exists.intro; apply And.intro; (· (intro wx hS; (try dsimp only at hS); go_simp; first | done | with_reducible rfl)); simp only [Act.put, List.setIfInBounds_toArray, List.set_cons_zero, List.set_cons_succ]))
  refine wpSegH_nil ?_
  refine wpAnyH_one 8 _ #[true, true, true, true, true, true, true, true, true, false] 1 (by kernel_rfl) (fun K hK => ?_)
  have HKK := Lib.hid hK
  clear hK
  simp only [List.drop_succ_cons, List.drop_zero]
  refine headH_mk (by rfl) ?_
  go_simp
  refine HKK.out _ _ (HX.out _ _ O2.out) ?_
  clear HKK K
  have hpr := own_gput8 (O2.out.pick 2 rfl) (some ⟨W.heap.size, 0, none⟩) 1 1 [(nx : Int)] rfl (fun j hj => ((CellsAt.new W (intc [(nx : Int)]) _ rfl).below (below_drew1 _)).int j hj) (by simp; omega)
  refine wpAnyH_one 9 _ #[true, true, true, true, true, true, true, true, true, true] 0 (by kernel_rfl) (fun K hK => ?_)
  have HKK := Lib.hid hK
  clear hK
  simp only [List.drop_succ_cons, List.drop_zero]
  refine headH_mk (by rfl) ?_
  go_simp
  refine hpr.mono ?_
  rintro r w2 ⟨rfl, o2⟩
  have o3 : Own w0 w2 (CelA wb [.slice (some ⟨lb, lo, none⟩) 4 lc, .pointer (some ⟨b, 0, none⟩), .slice (some ⟨xb, xo, none⟩) 4 xc, .slice ya gl.length yc, .int .i64 (nx : Int), .slice oa out.length oc] :: RowGA 1 (some ⟨lb, lo, none⟩) lc 4 (lptr ds) :: gloA b (gl ++ [(nx : Int)]) :: RowGA 3 (some ⟨xb, xo, none⟩) xc 4 (xcs ds) :: PoolA rs :: RowA oa oc out :: locs ds) := (o2.pick 2 rfl).pick 2 rfl
  refine HKK.out _ _ (HX.out _ _ o3) ?_
  clear HKK K
  have O3 := Lib.hid o3
  clear hpr o2 o3 O1 O2
  refine wpAnyH_done (by kernel_rfl) (NoPanic.normal ?_) _
  go_upto_region 37 with fail
  have hyc := fun (wx : World) (hb : Below w2.heap.size w2 wx) => (RowG.of_row ((O3.out.poolGet 4 rfl HP.out.2.2).below hb)).cells
  have HYC := Lib.hid hyc
  have O4 := Lib.hid (O3.out.step (below_drew1 w2))
  clear hyc
  refine wp_region_lexY (fun wx => wx.cell? ⟨wb, 1, none⟩ = some (.pointer (some ⟨b, 0, none⟩)) ∧ wx.cell? ⟨wb, 3, none⟩ = some (.slice ya gl.length yc) ∧ wx.cell? ⟨wb, 4, none⟩ = some (.int .i64 (nx : Int))) 15 16 (Array.replicate 16 false) (by kernel_rfl) (by kernel_rfl) ?_
  refine wpAnyY_seg 0 1 _ #[true, false, false, false, false, false, false, false, false, false, false, false, false, false, false, false] 15 (by kernel_rfl) noPanic_put (HX.out _ _ O4.out) (by kernel_rfl) ?_
  simp only [List.take_succ_cons, List.take_zero, List.drop_zero]
  repeat (first
    | (refine wpSegH_no (by rfl) ?_; simp only [Act.put, List.setIfInBounds_toArray, List.set_cons_zero, List.set_cons_succ])
    | (refine wpSegH_yes (by rfl) ?_; apply Exists.intro; apply And.intro; (· (intro wx hS; (try dsimp only at hS); go_simp; first | done | with_reducible rfl)); simp only [Act.put, List.setIfInBounds_toArray, List.set_cons_zero, List.set_cons_succ]))
  refine wpSegH_nil ?_
  refine wpAnyY_seg 2 4 _ #[true, false, true, true, true, true, false, false, false, false, false, false, false, false, false, false] 11 (by kernel_rfl) noPanic_put (HX.out _ _ O4.out) (by kernel_rfl) ?_
  simp only [List.take_succ_cons, List.take_zero, List.drop_succ_cons, List.drop_zero]
  repeat (first
    | (refine wpSegH_no (by rfl) ?_; simp only [Act.put, List.setIfInBounds_toArray, List.set_cons_zero, List.set_cons_succ])
    | (refine wpSegH_yes (by rfl) ?_; apply Exists.intro; apply And.intro; (· (intro wx hS; (try dsimp only at hS); go_simp; first | done | with_reducible rfl)); simp only [Act.put, List.setIfInBounds_toArray, List.set_cons_zero, List.set_cons_succ]))
  refine wpSegH_nil ?_
  refine wpAnyY_seg 7 4 _ #[true, false, true, true, true, true, false, true, true, true, true, false, false, false, false, false] 7 (by kernel_rfl) noPanic_put (HX.out _ _ O4.out) (by kernel_rfl) ?_
  simp only [List.take_succ_cons, List.take_zero, List.drop_succ_cons, List.drop_zero]
  repeat (first
    | (refine wpSegH_no (by rfl) ?_; simp only [Act.put, List.setIfInBounds_toArray, List.set_cons_zero, List.set_cons_succ])
    | (refine wpSegH_yes (by rfl) ?_; apply Exists.intro; apply And.intro; (· (intro wx hS; (try dsimp only at hS); go_simp; first | done | with_reducible rfl)); simp only [Act.put, List.setIfInBounds_toArray, List.set_cons_zero, List.set_cons_succ]))
  refine wpSegH_nil ?_
  have oSB := O3.out
  have oS := O4.out
  have bSB := Below.refl w2.heap.size w2
  have bS := below_drew1 w2
  refine wpAnyY_two 1 11 _ #[true, true, true, true, true, true, false, true, true, true, true, false, false, false, false, false] #[true, false, true, true, true, true, false, true, true, true, true, true, false, false, false, false] 6 (by kernel_rfl) (fun K hK => ?_) (fun K hK => ?_)
  · skip
    have HKK := Lib.hid hK
    clear hK
    simp only [List.drop_succ_cons, List.drop_zero]
    refine headH_mk (by rfl) ?_
    go_simp
    have o30B := oSB.add (below_alloc1 w2 (.cells #[] 3)) (A := RowGA 1 (some ⟨w2.heap.size, 0, none⟩) 0 0 (intc [])) (F := [w2.heap.size]) ⟨rfl, RowG.zero (by simp)⟩ (fun x hx => by simp at hx; first | omega | (simp; omega))
    have b30B := below_on bSB (below_alloc1 w2 (.cells #[] 3))
    have o30 := o30B.step (below_drew1 _)
    have b30 := below_on b30B (below_drew1 _)
    refine HKK.out _ _ (HX.out _ _ o30.drop) ?_
    clear HKK K
    refine wpAnyY_two 6 11 _ #[true, true, true, true, true, true, true, true, true, true, true, false, false, false, false, false] #[true, true, true, true, true, true, false, true, true, true, true, true, false, false, false, false] 5 (by kernel_rfl) (fun K hK => ?_) (fun K hK => ?_)
    · skip
      have HKK := Lib.hid hK
      clear hK
      simp only [List.drop_succ_cons, List.drop_zero]
      refine headH_mk (by rfl) ?_
      refine wp_append_rowG (n := 0) (m := gl.length) (cs := intc []) (ds := intc gl) _ _ 35 (by rfl) 3 n0 _ Try.underlying35 Ni.out Nz0.out Nz1.out Nz2.out rfl (by omega) (by omega) (by rfl) (by rfl) (o30.rowG 0 rfl) (HYC.out _ b30) (by rw [intc_len]; simp) (intc_one _) (by omega) ?_
      intro a31 c31 w31 k31 ch31 f31
      have f31 : ∀ x ∈ blk a31, x ∈ blk _ ∨ (w2.alloc (.cells #[] 3)).drew.heap.size ≤ x := f31
      have o31 := Own.rowTurn (o30.pick 0 rfl) k31 ch31 f31
      rw [Nat.zero_add] at o31
      refine HKK.out _ _ (HX.out _ _ o31.drop) ?_
      clear HKK K
      simp only [Nat.zero_add]
      skip
      refine wpAnyY_one 11 _ #[true, true, true, true, true, true, true, true, true, true, true, true, false, false, false, false] 4 (by kernel_rfl) (fun K hK => ?_)
      have HKK := Lib.hid hK
      clear hK
      simp only [List.drop_succ_cons, List.drop_zero]
      refine headH_mk (by rfl) ?_
      go_simp
      have o32B := o31.alloc [.int .i64 (nx : Int)] 3 (b := w31.heap.size) (by simp)
      have o32 := o32B
      refine HKK.out _ _ (HX.out _ _ o32.drop.drop) ?_
      clear HKK K
      refine wpAnyY_one 12 _ #[true, true, true, true, true, true, true, true, true, true, true, true, true, false, false, false] 3 (by kernel_rfl) (fun K hK => ?_)
      have HKK := Lib.hid hK
      clear hK
      simp only [List.drop_succ_cons, List.drop_zero]
      refine headH_mk (by rfl) ?_
      refine wp_append_rowG (n := gl.length) (m := 1) (cs := intc [] ++ intc gl) (ds := intc [(nx : Int)]) _ _ 35 (by rfl) 3 n0 _ Try.underlying35 Ni.out Nz0.out Nz1.out Nz2.out rfl (by omega) (by omega) (by rfl) (by rfl) (o32.rowG 1 rfl) (cells_blk8 (o32.cel 0 rfl)) (by rw [intc_len]; simp) (intc_one _) (by omega) ?_
      intro a33 c33 w33 k33 ch33 f33
      have o33x := Own.rowTurn (o32.pick 1 rfl) k33 ch33 f33
      have o33 := (o33x.pick 1 rfl).drop
      refine HKK.out _ _ (HX.out _ _ o33.drop) ?_
      clear HKK K
      refine wpAnyY_segT 13 2 _ #[true, true, true, true, true, true, true, true, true, true, true, true, true, true, true, false] 1 (by kernel_rfl) noPanic_put (by kernel_rfl) ?_
      simp only [List.take_succ_cons, List.take_zero, List.drop_succ_cons, List.drop_zero]
      repeat (first
        | (refine wpSegH_no (by rfl) ?_; simp only [Act.put, List.setIfInBounds_toArray, List.set_cons_zero, List.set_cons_succ])
        | (refine wpSegH_yes (by rfl) ?_; apply Exists.intro; apply And.intro; (· (intro wx hS; (try dsimp only at hS); go_simp; first | done | with_reducible rfl)); simp only [Act.put, List.setIfInBounds_toArray, List.set_cons_zero, List.set_cons_succ]))
      refine wpSegH_nil ?_
      have o20 : Own w0 w33 (RowA a33 c33 (gl ++ [(nx : Int)]) :: CelA wb [.slice (some ⟨lb, lo, none⟩) 4 lc, .pointer (some ⟨b, 0, none⟩), .slice (some ⟨xb, xo, none⟩) 4 xc, .slice ya gl.length yc, .int .i64 (nx : Int), .slice oa out.length oc] :: RowGA 1 (some ⟨lb, lo, none⟩) lc 4 (lptr ds) :: gloA b (gl ++ [(nx : Int)]) :: RowGA 3 (some ⟨xb, xo, none⟩) xc 4 (xcs ds) :: PoolA rs :: RowA oa oc out :: locs ds) := o33.weak (fun F hF => by
        obtain ⟨e1, e2⟩ := hF
        refine ⟨e1, ?_⟩
        rw [show intc [] ++ intc gl ++ intc [(nx : Int)] = intc (gl ++ [(nx : Int)]) by simp [intc]] at e2
        exact e2.to_row.1)
      have o21 := (((((((o20.pick 5 rfl).pick 1 rfl).poolTake).pick 4 rfl).pick 4 rfl).pick 4 rfl).pick 4 rfl)
      obtain ⟨y3, g3⟩ := o21.cel 0 rfl 3 _ rfl
      have hx9 := o21.set 3 (.slice a33 (gl.length + 1) c33)
      have O9 := Lib.hid hx9
      clear o20 o21 hx9 O3 O4 HYC HX
      refine wpAnyY_late 15 _ #[true, true, true, true, true, true, true, true, true, true, true, true, true, true, true, true] 0 (by kernel_rfl) (fun K hK => ?_)
      have HKK := Lib.hid hK
      clear hK
      simp only [List.drop_succ_cons, List.drop_zero]
      refine headH_mk (by rfl) ?_
      go_simp
      refine HKK.out _ _ ?_
      clear HKK K
      refine wpAnyY_done (by kernel_rfl) (NoPanic.normal ?_) _
      go_upto_region 38 with fail
      have O9 := O9.out
      generalize w33.setCell ⟨wb, 3, none⟩ (.slice a33 (gl.length + 1) c33) = W7 at *
      clear y3 g3
      obtain ⟨y4, g4⟩ := O9.cel 0 rfl 4 _ rfl
      have hx10 := O9.set 4 (.int .i64 ((nx : Int) + 1))
      have e10 : ((nx + 1 : Nat) : Int) = (nx : Int) + 1 := by omega
      rw [← e10] at hx10
      have OX := Lib.hid hx10
      clear hx10 O9
      go_wp2_with fail
      go_ret
      refine ⟨ds, gl ++ [(nx : Int)], nx + 1, out, rfl, ⟨some ⟨lb, lo, none⟩, lc, some ⟨xb, xo, none⟩, xc, (a33, c33, gl ++ [(nx : Int)]) :: rs, a33, c33, oa, oc, ?_, HD.out.2.2, fun e he => List.mem_cons.2 (.inr (HP.out.2.1 e he)), List.mem_cons.2 (.inl rfl), H5.out.put⟩, by omega, by omega⟩
      unfold D8
      rw [show (gl ++ [(nx : Int)]).length = gl.length + 1 by simp]
      exact OX.out
    · skip
      have HKK := Lib.hid hK
      clear hK
      simp only [List.drop_succ_cons, List.drop_zero]
      refine headH_mk (by rfl) ?_
      go_simp
      have o34B := o30B.alloc [.int .i64 (nx : Int)] 3 (b := w2.heap.size + 1) (by simp)
      have b34B := below_on b30B (below_alloc1 (w2.alloc (.cells #[] 3)) (.cells #[.int .i64 (nx : Int)] 3))
      have o34 := o34B.step (below_drew1 _)
      have b34 := below_on b34B (below_drew1 _)
      refine HKK.out _ _ (HX.out _ _ o34.drop.drop) ?_
      clear HKK K
      refine wpAnyY_one 6 _ #[true, true, true, true, true, true, true, true, true, true, true, true, false, false, false, false] 4 (by kernel_rfl) (fun K hK => ?_)
      have HKK := Lib.hid hK
      clear hK
      simp only [List.drop_succ_cons, List.drop_zero]
      refine headH_mk (by rfl) ?_
      refine wp_append_rowG (n := 0) (m := gl.length) (cs := intc []) (ds := intc gl) _ _ 35 (by rfl) 3 n0 _ Try.underlying35 Ni.out Nz0.out Nz1.out Nz2.out rfl (by omega) (by omega) (by rfl) (by rfl) (o34.rowG 1 rfl) (HYC.out _ b34) (by rw [intc_len]; simp) (intc_one _) (by omega) ?_
      intro a35 c35 w35 k35 ch35 f35
      have f35 : ∀ x ∈ blk a35, x ∈ blk _ ∨ ((w2.alloc (.cells #[] 3)).alloc (.cells #[.int .i64 (nx : Int)] 3)).drew.heap.size ≤ x := f35
      have o35 := (Own.rowTurn (o34.pick 1 rfl) k35 ch35 f35).pick 1 rfl
      rw [Nat.zero_add] at o35
      refine HKK.out _ _ (HX.out _ _ o35.drop.drop) ?_
      clear HKK K
      simp only [Nat.zero_add]
      refine wpAnyY_one 12 _ #[true, true, true, true, true, true, true, true, true, true, true, true, true, false, false, false] 3 (by kernel_rfl) (fun K hK => ?_)
      have HKK := Lib.hid hK
      clear hK
      simp only [List.drop_succ_cons, List.drop_zero]
      refine headH_mk (by rfl) ?_
      refine wp_append_rowG (n := gl.length) (m := 1) (cs := intc [] ++ intc gl) (ds := intc [(nx : Int)]) _ _ 35 (by rfl) 3 n0 _ Try.underlying35 Ni.out Nz0.out Nz1.out Nz2.out rfl (by omega) (by omega) (by rfl) (by rfl) (o35.rowG 1 rfl) (cells_blk8 (o35.cel 0 rfl)) (by rw [intc_len]; simp) (intc_one _) (by omega) ?_
      intro a36 c36 w36 k36 ch36 f36
      have o36x := Own.rowTurn (o35.pick 1 rfl) k36 ch36 f36
      have o36 := (o36x.pick 1 rfl).drop
      refine HKK.out _ _ (HX.out _ _ o36.drop) ?_
      clear HKK K
      refine wpAnyY_segT 13 2 _ #[true, true, true, true, true, true, true, true, true, true, true, true, true, true, true, false] 1 (by kernel_rfl) noPanic_put (by kernel_rfl) ?_
      simp only [List.take_succ_cons, List.take_zero, List.drop_succ_cons, List.drop_zero]
      repeat (first
        | (refine wpSegH_no (by rfl) ?_; simp only [Act.put, List.setIfInBounds_toArray, List.set_cons_zero, List.set_cons_succ])
        | (refine wpSegH_yes (by rfl) ?_; apply Exists.intro; apply And.intro; (· (intro wx hS; (try dsimp only at hS); go_simp; first | done | with_reducible rfl)); simp only [Act.put, List.setIfInBounds_toArray, List.set_cons_zero, List.set_cons_succ]))
      refine wpSegH_nil ?_
      have o20 : Own w0 w36 (RowA a36 c36 (gl ++ [(nx : Int)]) :: CelA wb [.slice (some ⟨lb, lo, none⟩) 4 lc, .pointer (some ⟨b, 0, none⟩), .slice (some ⟨xb, xo, none⟩) 4 xc, .slice ya gl.length yc, .int .i64 (nx : Int), .slice oa out.length oc] :: RowGA 1 (some ⟨lb, lo, none⟩) lc 4 (lptr ds) :: gloA b (gl ++ [(nx : Int)]) :: RowGA 3 (some ⟨xb, xo, none⟩) xc 4 (xcs ds) :: PoolA rs :: RowA oa oc out :: locs ds) := o36.weak (fun F hF => by
        obtain ⟨e1, e2⟩ := hF
        refine ⟨e1, ?_⟩
        rw [show intc [] ++ intc gl ++ intc [(nx : Int)] = intc (gl ++ [(nx : Int)]) by simp [intc]] at e2
        exact e2.to_row.1)
      have o21 := (((((((o20.pick 5 rfl).pick 1 rfl).poolTake).pick 4 rfl).pick 4 rfl).pick 4 rfl).pick 4 rfl)
      obtain ⟨y3, g3⟩ := o21.cel 0 rfl 3 _ rfl
      have hx9 := o21.set 3 (.slice a36 (gl.length + 1) c36)
      have O9 := Lib.hid hx9
      clear o20 o21 hx9 O3 O4 HYC HX
      refine wpAnyY_late 15 _ #[true, true, true, true, true, true, true, true, true, true, true, true, true, true, true, true] 0 (by kernel_rfl) (fun K hK => ?_)
      have HKK := Lib.hid hK
      clear hK
      simp only [List.drop_succ_cons, List.drop_zero]
      refine headH_mk (by rfl) ?_
      go_simp
      refine HKK.out _ _ ?_
      clear HKK K
      refine wpAnyY_done (by kernel_rfl) (NoPanic.normal ?_) _
      go_upto_region 38 with fail
      have O9 := O9.out
      generalize w36.setCell ⟨wb, 3, none⟩ (.slice a36 (gl.length + 1) c36) = W7 at *
      clear y3 g3
      obtain ⟨y4, g4⟩ := O9.cel 0 rfl 4 _ rfl
      have hx10 := O9.set 4 (.int .i64 ((nx : Int) + 1))
      have e10 : ((nx + 1 : Nat) : Int) = (nx : Int) + 1 := by omega
      rw [← e10] at hx10
      have OX := Lib.hid hx10
      clear hx10 O9
      go_wp2_with fail
      go_ret
      refine ⟨ds, gl ++ [(nx : Int)], nx + 1, out, rfl, ⟨some ⟨lb, lo, none⟩, lc, some ⟨xb, xo, none⟩, xc, (a36, c36, gl ++ [(nx : Int)]) :: rs, a36, c36, oa, oc, ?_, HD.out.2.2, fun e he => List.mem_cons.2 (.inr (HP.out.2.1 e he)), List.mem_cons.2 (.inl rfl), H5.out.put⟩, by omega, by omega⟩
      unfold D8
      rw [show (gl ++ [(nx : Int)]).length = gl.length + 1 by simp]
      exact OX.out
  · skip
    have HKK := Lib.hid hK
    clear hK
    simp only [List.drop_succ_cons, List.drop_zero]
    refine headH_mk (by rfl) ?_
    go_simp
    have o37B := oSB.alloc [.int .i64 (nx : Int)] 3 (b := w2.heap.size) (by simp)
    have b37B := below_on bSB (below_alloc1 w2 (.cells #[.int .i64 (nx : Int)] 3))
    have o37 := o37B.step (below_drew1 _)
    have b37 := below_on b37B (below_drew1 _)
    refine HKK.out _ _ (HX.out _ _ o37.drop) ?_
    clear HKK K
    refine wpAnyY_one 1 _ #[true, true, true, true, true, true, false, true, true, true, true, true, false, false, false, false] 5 (by kernel_rfl) (fun K hK => ?_)
    have HKK := Lib.hid hK
    clear hK
    simp only [List.drop_succ_cons, List.drop_zero]
    refine headH_mk (by rfl) ?_
    go_simp
    have o38B := o37B.add (below_alloc1 (w2.alloc (.cells #[.int .i64 (nx : Int)] 3)) (.cells #[] 3)) (A := RowGA 1 (some ⟨w2.heap.size + 1, 0, none⟩) 0 0 (intc [])) (F := [w2.heap.size + 1]) ⟨rfl, RowG.zero (by simp)⟩ (fun x hx => by simp at hx; first | omega | (simp; omega))
    have b38B := below_on b37B (below_alloc1 (w2.alloc (.cells #[.int .i64 (nx : Int)] 3)) (.cells #[] 3))
    have o38 := o38B.step (below_drew1 _)
    have b38 := below_on b38B (below_drew1 _)
    refine HKK.out _ _ (HX.out _ _ o38.drop.drop) ?_
    clear HKK K
    refine wpAnyY_one 6 _ #[true, true, true, true, true, true, true, true, true, true, true, true, false, false, false, false] 4 (by kernel_rfl) (fun K hK => ?_)
    have HKK := Lib.hid hK
    clear hK
    simp only [List.drop_succ_cons, List.drop_zero]
    refine headH_mk (by rfl) ?_
    refine wp_append_rowG (n := 0) (m := gl.length) (cs := intc []) (ds := intc gl) _ _ 35 (by rfl) 3 n0 _ Try.underlying35 Ni.out Nz0.out Nz1.out Nz2.out rfl (by omega) (by omega) (by rfl) (by rfl) (o38.rowG 0 rfl) (HYC.out _ b38) (by rw [intc_len]; simp) (intc_one _) (by omega) ?_
    intro a39 c39 w39 k39 ch39 f39
    have f39 : ∀ x ∈ blk a39, x ∈ blk _ ∨ ((w2.alloc (.cells #[.int .i64 (nx : Int)] 3)).alloc (.cells #[] 3)).drew.heap.size ≤ x := f39
    have o39 := Own.rowTurn (o38.pick 0 rfl) k39 ch39 f39
    rw [Nat.zero_add] at o39
    refine HKK.out _ _ (HX.out _ _ o39.drop.drop) ?_
    clear HKK K
    simp only [Nat.zero_add]
    refine wpAnyY_one 12 _ #[true, true, true, true, true, true, true, true, true, true, true, true, true, false, false, false] 3 (by kernel_rfl) (fun K hK => ?_)
    have HKK := Lib.hid hK
    clear hK
    simp only [List.drop_succ_cons, List.drop_zero]
    refine headH_mk (by rfl) ?_
    refine wp_append_rowG (n := gl.length) (m := 1) (cs := intc [] ++ intc gl) (ds := intc [(nx : Int)]) _ _ 35 (by rfl) 3 n0 _ Try.underlying35 Ni.out Nz0.out Nz1.out Nz2.out rfl (by omega) (by omega) (by rfl) (by rfl) (o39.rowG 0 rfl) (cells_blk8 (o39.cel 1 rfl)) (by rw [intc_len]; simp) (intc_one _) (by omega) ?_
    intro a40 c40 w40 k40 ch40 f40
    have o40x := Own.rowTurn (o39.pick 0 rfl) k40 ch40 f40
    have o40 := (o40x.pick 1 rfl).drop
    refine HKK.out _ _ (HX.out _ _ o40.drop) ?_
    clear HKK K
    refine wpAnyY_segT 13 2 _ #[true, true, true, true, true, true, true, true, true, true, true, true, true, true, true, false] 1 (by kernel_rfl) noPanic_put (by kernel_rfl) ?_
    simp only [List.take_succ_cons, List.take_zero, List.drop_succ_cons, List.drop_zero]
    repeat (first
      | (refine wpSegH_no (by rfl) ?_; simp only [Act.put, List.setIfInBounds_toArray, List.set_cons_zero, List.set_cons_succ])
      | (refine wpSegH_yes (by rfl) ?_; apply Exists.intro; apply And.intro; (· (intro wx hS; (try dsimp only at hS); go_simp; first | done | with_reducible rfl)); simp only [Act.put, List.setIfInBounds_toArray, List.set_cons_zero, List.set_cons_succ]))
    refine wpSegH_nil ?_
    have o20 : Own w0 w40 (RowA a40 c40 (gl ++ [(nx : Int)]) :: CelA wb [.slice (some ⟨lb, lo, none⟩) 4 lc, .pointer (some ⟨b, 0, none⟩), .slice (some ⟨xb, xo, none⟩) 4 xc, .slice ya gl.length yc, .int .i64 (nx : Int), .slice oa out.length oc] :: RowGA 1 (some ⟨lb, lo, none⟩) lc 4 (lptr ds) :: gloA b (gl ++ [(nx : Int)]) :: RowGA 3 (some ⟨xb, xo, none⟩) xc 4 (xcs ds) :: PoolA rs :: RowA oa oc out :: locs ds) := o40.weak (fun F hF => by
      obtain ⟨e1, e2⟩ := hF
      refine ⟨e1, ?_⟩
      rw [show intc [] ++ intc gl ++ intc [(nx : Int)] = intc (gl ++ [(nx : Int)]) by simp [intc]] at e2
      exact e2.to_row.1)
    have o21 := (((((((o20.pick 5 rfl).pick 1 rfl).poolTake).pick 4 rfl).pick 4 rfl).pick 4 rfl).pick 4 rfl)
    obtain ⟨y3, g3⟩ := o21.cel 0 rfl 3 _ rfl
    have hx9 := o21.set 3 (.slice a40 (gl.length + 1) c40)
    have O9 := Lib.hid hx9
    clear o20 o21 hx9 O3 O4 HYC HX
    refine wpAnyY_late 15 _ #[true, true, true, true, true, true, true, true, true, true, true, true, true, true, true, true] 0 (by kernel_rfl) (fun K hK => ?_)
    have HKK := Lib.hid hK
    clear hK
    simp only [List.drop_succ_cons, List.drop_zero]
    refine headH_mk (by rfl) ?_
    go_simp
    refine HKK.out _ _ ?_
    clear HKK K
    refine wpAnyY_done (by kernel_rfl) (NoPanic.normal ?_) _
    go_upto_region 38 with fail
    have O9 := O9.out
    generalize w40.setCell ⟨wb, 3, none⟩ (.slice a40 (gl.length + 1) c40) = W7 at *
    clear y3 g3
    obtain ⟨y4, g4⟩ := O9.cel 0 rfl 4 _ rfl
    have hx10 := O9.set 4 (.int .i64 ((nx : Int) + 1))
    have e10 : ((nx + 1 : Nat) : Int) = (nx : Int) + 1 := by omega
    rw [← e10] at hx10
    have OX := Lib.hid hx10
    clear hx10 O9
    go_wp2_with fail
    go_ret
    refine ⟨ds, gl ++ [(nx : Int)], nx + 1, out, rfl, ⟨some ⟨lb, lo, none⟩, lc, some ⟨xb, xo, none⟩, xc, (a40, c40, gl ++ [(nx : Int)]) :: rs, a40, c40, oa, oc, ?_, HD.out.2.2, fun e he => List.mem_cons.2 (.inr (HP.out.2.1 e he)), List.mem_cons.2 (.inl rfl), H5.out.put⟩, by omega, by omega⟩
    unfold D8
    rw [show (gl ++ [(nx : Int)]).length = gl.length + 1 by simp]
    exact OX.out
end Go.Proofs.Ytmldfckeenahlaa
