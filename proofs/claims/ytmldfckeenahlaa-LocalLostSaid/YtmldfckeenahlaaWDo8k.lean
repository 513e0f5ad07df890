/-
  The law's does: Take.
-/
import Derived.Test.YtmldfckeenahlaaWDo8h
open Go Go.RowKit
set_option linter.unusedVariables false
namespace Go.Proofs.Ytmldfckeenahlaa
set_option maxRecDepth 100000 in
set_option maxHeartbeats 8000000 in
theorem does_8 (w0 w : World) (wb b : Nat) (ds : List Qd) (gl : List Int) (nx : Nat) (out : List Int) (kd wh n : Int) (h : St8 w0 w wb b ds gl nx out) (hK : (bits BinOp.and IntKind.i64 kd 255).tmod 10 = 8) (hn : nx ≤ 100) :
    Calls Try.prog 7 #[.pointer (some ⟨wb, 0, none⟩), .agg #[.int .i64 kd, .int .i64 wh, .int .i64 n]] w fun r w' => Does8 w0 wb b nx r w' := by
  obtain ⟨la, lc, xa, xc, rs, ya, yc, oa, oc, h1, h2, h3, h4, h5⟩ := h
  obtain ⟨i, hi, hi4⟩ : ∃ i : Nat, bits BinOp.and IntKind.i64 wh 3 = (i : Int) ∧ i < 4 := ⟨(wh % 4).toNat, by rw [and_3i]; omega, by omega⟩
  obtain ⟨k, hk, hk4⟩ : ∃ k : Nat, bits BinOp.and IntKind.i64 n 3 = (k : Int) ∧ k < 4 := ⟨(n % 4).toNat, by rw [and_3i]; omega, by omega⟩
  obtain ⟨d, hd⟩ : ∃ d, ds[i]? = some d := ⟨_, List.getElem?_eq_getElem (by omega)⟩
  have hil : i < ds.length := by omega
  have hpool := h3 d (List.mem_of_getElem? hd)
  unfold D8 at h1
  obtain ⟨lb, lo, rfl, -⟩ := (h1.rowG 1 rfl).cells i _ (lptr_at hd)
  obtain ⟨xb, xo, rfl, -⟩ := (h1.rowG 3 rfl).cells.xq hd
  have hinv := h5.nonneg
  have hlen := h5.len
  have hll : d.q.l.length ≤ d.N ∧ 1 ≤ d.N ∧ d.N ≤ 1024 := by
    obtain ⟨F, ⟨_, hL⟩, _⟩ := (h1.locOut hd).head
    have := hL.ll
    exact ⟨this.1, this.2.1, this.2.2.1⟩
  have hgl : gl.length ≤ 100 := by omega
  have hnn : ∀ v, d.q.nx = some v → 0 ≤ v := fun v hv => (hinv v (List.mem_append.2 (.inl ((alln_out hd).mem_iff.2 (List.mem_append.2 (.inl (by unfold qn; rw [hv]; simp))))))).1
  have HNN := Lib.hid (And.intro hnn hinv)
  have HP := Lib.hid (And.intro hpool (And.intro h3 h4))
  have H5 := Lib.hid h5
  have HD := Lib.hid (And.intro hd (And.intro hil h2))
  obtain ⟨ab, hab⟩ : ∃ ab, ab = w.heap.size := ⟨_, rfl⟩
  have hbA := below_alloc1 w (.cells #[.int .i64 kd, .int .i64 wh, .int .i64 n] 29)
  have HO := Lib.hid (h1.alloc [.int .i64 kd, .int .i64 wh, .int .i64 n] 29 hab).rot
  have hact := Blk.mk w [.int .i64 kd, .int .i64 wh, .int .i64 n] 29 ab hab
  have HACT := Lib.hid hact
  clear h1 h2 h3 h4 h5 hd hil hpool hinv hlen hnn hbA hact
  go_enter Try.func7, Try.ntmps7
  go_upto_region 1 with fail
  rw [← hab]
  generalize w.alloc (.cells #[.int .i64 kd, .int .i64 wh, .int .i64 n] 29) = W at *
  clear hab
  obtain ⟨q0, -⟩ := HACT.out 0 _ rfl
  obtain ⟨q1, -⟩ := HACT.out 1 _ rfl
  obtain ⟨q2, -⟩ := HACT.out 2 _ rfl
  go_upto_region 40 with fail
  clear q0 q1 q2 hK hi hk
  obtain ⟨m, hm⟩ : ∃ m, m = takes n gl.length := ⟨_, rfl⟩
  have hml : m ≤ gl.length := by rw [hm]; exact takes_le _ _
  have hmm : (if (gl.length : Int) < (if n < 0 then 0 else n) then (gl.length : Int) else (if n < 0 then 0 else n)) = (m : Int) := by
    rw [hm]; unfold takes; (repeat' split) <;> omega
  have hyrow : RowAt W ya yc gl := HO.out.poolGet 4 rfl HP.out.2.2
  have hyl : gl.length ≤ yc := hyrow.1
  have hsl : ∀ w', (Instr.slice 35 (.slice ya gl.length yc) none (some (.int .i64 (m : Int))) none).run Try.prog w' = .ok (.slice ya m yc) w' := fun w' => slice_head w' under_ints size_int ya gl.length yc m (by omega)
  have SCX : ∀ (wx : World) (A B C D E : Asr), Own w0 wx (CelA wb [.slice (some ⟨lb, lo, none⟩) 4 lc, .pointer (some ⟨b, 0, none⟩), .slice (some ⟨xb, xo, none⟩) 4 xc, .slice ya gl.length yc, .int .i64 (nx : Int), .slice oa out.length oc] :: A :: B :: C :: D :: E :: (locs ds ++ [CelA ab [.int .i64 kd, .int .i64 wh, .int .i64 n]])) → (wx.cell? ⟨wb, 1, none⟩ = some (.pointer (some ⟨b, 0, none⟩)) ∧ wx.cell? ⟨wb, 3, none⟩ = some (.slice ya gl.length yc) ∧ wx.cell? ⟨wb, 5, none⟩ = some (.slice oa out.length oc) ∧ wx.cell? ⟨ab, 2, none⟩ = some (.int .i64 n)) := fun wx A B C D E h =>
    ⟨(h.cel 0 rfl 1 _ rfl).1, (h.cel 0 rfl 3 _ rfl).1, (h.cel 0 rfl 5 _ rfl).1, ((Own.dropL (As := CelA wb [.slice (some ⟨lb, lo, none⟩) 4 lc, .pointer (some ⟨b, 0, none⟩), .slice (some ⟨xb, xo, none⟩) 4 xc, .slice ya gl.length yc, .int .i64 (nx : Int), .slice oa out.length oc] :: A :: B :: C :: D :: E :: locs ds) h).cel 0 rfl 2 _ rfl).1⟩
  have HX := Lib.hid SCX
  obtain ⟨n0, hi0, hz0, hz1, hz2⟩ := info_parts info_i8
  have Ni := Lib.hid hi0; clear hi0
  have Nz0 := Lib.hid hz0; clear hz0
  have Nz1 := Lib.hid hz1; clear hz1
  have Nz2 := Lib.hid hz2; clear hz2
  have HML := Lib.hid (And.intro hml (And.intro hmm hsl))
  have HOL := Lib.hid (show out.length ≤ 1000 from by have := H5.out.len; omega)
  have o1 : Own w0 W.drew (CelA wb [.slice (some ⟨lb, lo, none⟩) 4 lc, .pointer (some ⟨b, 0, none⟩), .slice (some ⟨xb, xo, none⟩) 4 xc, .slice ya gl.length yc, .int .i64 (nx : Int), .slice oa out.length oc] :: RowGA 1 (some ⟨lb, lo, none⟩) lc 4 (lptr ds) :: gloA b gl :: RowGA 3 (some ⟨xb, xo, none⟩) xc 4 (xcs ds) :: PoolA rs :: RowA oa oc out :: (locs ds ++ [CelA ab [.int .i64 kd, .int .i64 wh, .int .i64 n]])) := HO.out.step (below_drew1 W)
  have O1 := Lib.hid o1
  have hpr := own_gtake8 (o1.pick 2 rfl) n (by omega)
  rw [← hm] at hpr
  have HPR := Lib.hid hpr
  clear SCX HO HACT hyrow hyl hm hmm hsl hml o1 hpr
  refine wp_region_lexH (fun wx => wx.cell? ⟨wb, 1, none⟩ = some (.pointer (some ⟨b, 0, none⟩)) ∧ wx.cell? ⟨wb, 3, none⟩ = some (.slice ya gl.length yc) ∧ wx.cell? ⟨wb, 5, none⟩ = some (.slice oa out.length oc) ∧ wx.cell? ⟨ab, 2, none⟩ = some (.int .i64 n)) 8 (Array.replicate 8 false) (by kernel_rfl) (by kernel_rfl) ?_
  refine wpAnyH_seg 0 6 _ #[true, true, true, true, true, true, false, false] 2 (by kernel_rfl) noPanic_put (HX.out _ _ _ _ _ _ O1.out) (by kernel_rfl) ?_
  simp only [List.take_succ_cons, List.take_zero, List.drop_zero]
  repeat (first
    | (refine wpSegH_no (by rfl) ?_; simp only [Act.put, List.setIfInBounds_toArray, List.set_cons_zero, List.set_cons_succ])
    | (refine wpSegH_yes (by rfl) ?_; apply Exists.intro; apply And.intro; (· (intro wx hS; (try dsimp only at hS); go_simp; first | done | with_reducible rfl)); simp only [Act.put, List.setIfInBounds_toArray, List.set_cons_zero, List.set_cons_succ]))
  refine wpSegH_nil ?_
  refine wpAnyH_one 6 _ #[true, true, true, true, true, true, true, false] 1 (by kernel_rfl) (fun K hK => ?_)
  have HKK := Lib.hid hK
  clear hK
  simp only [List.drop_succ_cons, List.drop_zero]
  refine headH_mk (by rfl) ?_
  go_simp
  refine HPR.out.mono ?_
  rintro r w2 ⟨a', c', rfl, o2⟩
  have o3 : Own w0 w2 (CelA wb [.slice (some ⟨lb, lo, none⟩) 4 lc, .pointer (some ⟨b, 0, none⟩), .slice (some ⟨xb, xo, none⟩) 4 xc, .slice ya gl.length yc, .int .i64 (nx : Int), .slice oa out.length oc] :: RowGA 1 (some ⟨lb, lo, none⟩) lc 4 (lptr ds) :: gloA b (gl.drop m) :: RowGA 3 (some ⟨xb, xo, none⟩) xc 4 (xcs ds) :: PoolA ((a', c', gl.take m) :: rs) :: RowA oa oc out :: (locs ds ++ [CelA ab [.int .i64 kd, .int .i64 wh, .int .i64 n]])) :=
    by
      have h := ((o2.pick 5 rfl).pick 1 rfl).poolTake
      exact ((((h.pick 4 rfl).pick 2 rfl).pick 4 rfl).pick 4 rfl)
  refine HKK.out _ _ (HX.out _ _ _ _ _ _ o3) ?_
  clear HKK K
  have O3 := Lib.hid o3
  clear o2 o3 O1 HPR
  refine wpAnyH_seg 7 1 _ #[true, true, true, true, true, true, true, true] 0 (by kernel_rfl) noPanic_put (HX.out _ _ _ _ _ _ O3.out) (by kernel_rfl) ?_
  simp only [List.take_succ_cons, List.take_zero, List.drop_succ_cons, List.drop_zero]
  repeat (first
    | (refine wpSegH_no (by rfl) ?_; simp only [Act.put, List.setIfInBounds_toArray, List.set_cons_zero, List.set_cons_succ])
    | (refine wpSegH_yes (by rfl) ?_; apply Exists.intro; apply And.intro; (· (intro wx hS; (try dsimp only at hS); go_simp; first | done | with_reducible rfl)); simp only [Act.put, List.setIfInBounds_toArray, List.set_cons_zero, List.set_cons_succ]))
  refine wpSegH_nil ?_
  refine wpAnyH_done (by kernel_rfl) (NoPanic.normal ?_) _
  go_upto_region 41 with fail
  have O4 := Lib.hid (O3.out.step (below_drew1 w2))
  clear O3
  refine wp_region_lexH (fun wx => wx.cell? ⟨wb, 1, none⟩ = some (.pointer (some ⟨b, 0, none⟩)) ∧ wx.cell? ⟨wb, 3, none⟩ = some (.slice ya gl.length yc) ∧ wx.cell? ⟨wb, 5, none⟩ = some (.slice oa out.length oc) ∧ wx.cell? ⟨ab, 2, none⟩ = some (.int .i64 n)) 10 (Array.replicate 10 false) (by kernel_rfl) (by kernel_rfl) ?_
  refine wpAnyH_seg 0 10 _ #[true, true, true, true, true, true, true, true, true, true] 0 (by kernel_rfl) noPanic_put (HX.out _ _ _ _ _ _ O4.out) (by kernel_rfl) ?_
  simp only [List.take_succ_cons, List.take_zero, List.drop_zero]
  repeat (first
    | (refine wpSegH_no (by rfl) ?_; simp only [Act.put, List.setIfInBounds_toArray, List.set_cons_zero, List.set_cons_succ])
    | (refine wpSegH_yes (by rfl) ?_; apply Exists.intro; apply And.intro; (· (intro wx hS; (try dsimp only at hS); go_simp; first | done | with_reducible rfl)); simp only [Act.put, List.setIfInBounds_toArray, List.set_cons_zero, List.set_cons_succ]))
  refine wpSegH_nil ?_
  refine wpAnyH_done (by kernel_rfl) (NoPanic.normal ?_) _
  go_upto_region 42 with fail
  rw [HML.out.2.1]
  have O5 := Lib.hid (O4.out.step (below_drew1 _))
  clear O4
  have hml := HML.out.1
  have htl : (gl.take m).length = m := by rw [List.length_take]; omega
  have hol := HOL.out
  have hsl := HML.out.2.2
  have hyr : RowAt w2.drew.drew ya yc gl := O5.out.poolGet 4 rfl (List.mem_cons.2 (.inr HP.out.2.2))
  have hyt := (RowG.of_row (hyr.take m)).cells
  have HYT := Lib.hid hyt
  clear hyr hyt
  refine wp_region_lexY (fun wx => wx.cell? ⟨wb, 1, none⟩ = some (.pointer (some ⟨b, 0, none⟩)) ∧ wx.cell? ⟨wb, 3, none⟩ = some (.slice ya gl.length yc) ∧ wx.cell? ⟨wb, 5, none⟩ = some (.slice oa out.length oc) ∧ wx.cell? ⟨ab, 2, none⟩ = some (.int .i64 n)) 14 15 (Array.replicate 15 false) (by kernel_rfl) (by kernel_rfl) ?_
  refine wpAnyY_seg 0 11 _ #[true, true, true, true, true, true, true, true, true, true, true, false, false, false, false] 4 (by kernel_rfl) noPanic_put (HX.out _ _ _ _ _ _ O5.out) (by kernel_rfl) ?_
  simp only [List.take_succ_cons, List.take_zero, List.drop_zero]
  repeat (first
    | (refine wpSegH_no (by rfl) ?_; simp only [Act.put, List.setIfInBounds_toArray, List.set_cons_zero, List.set_cons_succ])
    | (refine wpSegH_yes (by rfl) ?_; apply Exists.intro; apply And.intro; (· (intro wx hS; (try dsimp only at hS); go_simp; first | done | with_reducible rfl)); simp only [Act.put, List.setIfInBounds_toArray, List.set_cons_zero, List.set_cons_succ]))
  refine wpSegH_nil ?_
  refine wpAnyY_one 11 _ #[true, true, true, true, true, true, true, true, true, true, true, true, false, false, false] 3 (by kernel_rfl) (fun K hK => ?_)
  have HKK := Lib.hid hK
  clear hK
  simp only [List.drop_succ_cons, List.drop_zero]
  refine headH_mk (by rfl) ?_
  refine wp_append_rowG (n := out.length) (m := m) (cs := intc out) (ds := intc (gl.take m)) _ _ 35 (by rfl) 3 n0 _ Try.underlying35 Ni.out Nz0.out Nz1.out Nz2.out rfl (by omega) (by omega) (by rfl) (by rfl) (RowG.of_row (O5.out.row 5 rfl)) HYT.out (by rw [intc_len, htl]; simp) (intc_one _) (by omega) ?_
  intro a9 c9 w9 k9 ch9 f9
  rw [← intc_app] at k9
  have k10 := k9.to_row.1
  have o9 := ((((((O5.out.pick 5 rfl).app k10 ch9 f9).pick 5 rfl).pick 5 rfl).pick 5 rfl).pick 5 rfl).pick 5 rfl
  refine HKK.out _ _ (HX.out _ _ _ _ _ _ o9) ?_
  clear HKK K
  refine wpAnyY_segT 12 2 _ #[true, true, true, true, true, true, true, true, true, true, true, true, true, true, false] 1 (by kernel_rfl) noPanic_put (by kernel_rfl) ?_
  simp only [List.take_succ_cons, List.take_zero, List.drop_succ_cons, List.drop_zero]
  repeat (first
    | (refine wpSegH_no (by rfl) ?_; simp only [Act.put, List.setIfInBounds_toArray, List.set_cons_zero, List.set_cons_succ])
    | (refine wpSegH_yes (by rfl) ?_; apply Exists.intro; apply And.intro; (· (intro wx hS; (try dsimp only at hS); go_simp; first | done | with_reducible rfl)); simp only [Act.put, List.setIfInBounds_toArray, List.set_cons_zero, List.set_cons_succ]))
  refine wpSegH_nil ?_
  obtain ⟨y5, g5⟩ := o9.cel 0 rfl 5 _ rfl
  have hx9 := o9.set 5 (.slice a9 (out.length + m) c9)
  have O9 := Lib.hid hx9
  clear o9 hx9 k9 k10 ch9 f9 O5 HYT HX
  refine wpAnyY_late 14 _ #[true, true, true, true, true, true, true, true, true, true, true, true, true, true, true] 0 (by kernel_rfl) (fun K hK => ?_)
  have HKK := Lib.hid hK
  clear hK
  simp only [List.drop_succ_cons, List.drop_zero]
  refine headH_mk (by rfl) ?_
  go_simp
  refine HKK.out _ _ ?_
  clear HKK K
  refine wpAnyY_done (by kernel_rfl) (NoPanic.normal ?_) _
  go_upto_region 43 with fail
  have O9 := O9.out
  generalize w9.setCell ⟨wb, 5, none⟩ (.slice a9 (out.length + m) c9) = W7 at *
  clear y5 g5
  obtain ⟨y3, -⟩ := O9.cel 0 rfl 3 _ rfl
  have hya : RowAt W7 ya yc gl := O9.poolGet 4 rfl (List.mem_cons.2 (.inr HP.out.2.2))
  have hta : RowAt W7 a' c' (gl.take m) := O9.poolGet 4 rfl (List.mem_cons_self ..)
  have hsm := same_any W7 a' ya c' yc (gl.take m) hta.ints (hya.take m).ints (by rw [htl]; unfold maxLen; omega)
  rw [htl] at hsm
  have HSM := Lib.hid hsm
  have O10 := Lib.hid O9
  clear O9 hya hta hsm
  go_wp2_with fail
  all_goals
    refine HSM.out.mono ?_
    rintro r w8 ⟨rfl, m8, rfl⟩
    go_upto_region 44 with fail
    have o11 := O10.out.step (w' := W7.drewN m8) ⟨rfl, rfl, rfl, Nat.le_refl _, fun _ _ => rfl⟩
    generalize W7.drewN m8 = W8 at *
    clear y3 HSM O10
    have hy8 : RowAt W8 ya yc gl := o11.poolGet 4 rfl (List.mem_cons.2 (.inr HP.out.2.2))
    obtain ⟨a1, hs1, hr1, hk1⟩ := slice_from under_ints size_int hy8 m hml
    have o12 := (((((o11.pick 4 rfl).poolAddL (Below.refl _ _) [(a1, yc - m, gl.drop m)] (fun r hr => by
      rw [List.mem_singleton.1 hr]
      exact ⟨hr1, fun x hx => .inl ⟨_, List.mem_cons.2 (.inr HP.out.2.2), by rw [hk1] at hx; exact hx⟩⟩)).pick 4 rfl).pick 4 rfl).pick 4 rfl).pick 4 rfl
    obtain ⟨z3, g3⟩ := o12.cel 0 rfl 3 _ rfl
    have OX := Lib.hid (o12.set 3 (.slice a1 (gl.length - m) (yc - m))).dropEnd
    clear o11 o12 hy8 hr1 hk1
    go_wp2_with fail
    go_ret
    refine ⟨ds, gl.drop m, nx, out ++ gl.take m, rfl, ⟨some ⟨lb, lo, none⟩, lc, some ⟨xb, xo, none⟩, xc, (a1, yc - m, gl.drop m) :: (a', c', gl.take m) :: rs, a1, yc - m, a9, c9, ?_, HD.out.2.2, fun e he => List.mem_cons.2 (.inr (List.mem_cons.2 (.inr (HP.out.2.1 e he)))), List.mem_cons_self .., H5.out.take m⟩, by omega, by omega⟩
    unfold D8
    rw [List.length_drop, List.length_append, htl]
    exact OX.out
end Go.Proofs.Ytmldfckeenahlaa
