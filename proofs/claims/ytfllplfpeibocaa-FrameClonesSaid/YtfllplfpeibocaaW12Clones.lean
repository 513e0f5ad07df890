/-
  The walk of the law FrameClones.
-/
import Derived.Test.YtfllplfpeibocaaWFr4
import Derived.Test.YtfllplfpeibocaaInts
import Derived.OpenShut
import Derived.LoopTactic
open Go Go.RowKit
set_option linter.unusedVariables false
namespace Go.Proofs.Ytfllplfpeibocaa.frameClones
set_option maxRecDepth 100000 in
set_option maxHeartbeats 4000000 in
theorem walk (a0 : Option Addr) (len0 cap0 : Nat) (z0 : List Int) (a1 a2 : Int) (w : World) (w0 : IsRow .i64 w a0 len0 cap0 z0) (v1 : (Lit.int .i64 a1).wf = true) (v2 : (Lit.int .i64 a2).wf = true) :
    Calls Try.prog 3 #[.slice a0 len0 cap0, .int .i64 a1, .int .i64 a2] w fun e w' => e = .returned (.bool true) ∧ Below w.heap.size w w' := by
  obtain ⟨hlc, hcm, hzl, hcells⟩ := w0.cells
  clear w0 v1 v2
  generalize List.take len0 z0 = zs at hzl hcells
  unfold maxLen at hcm
  obtain ⟨z, hz⟩ : ∃ z : Nat → Int, z = fun j => zs.getD j 0 := ⟨_, rfl⟩
  have hzc : ∀ j, j < len0 → ∃ b off, a0 = some ⟨b, off, none⟩ ∧ w.cell? ⟨b, off + j, none⟩ = some (.int .i64 (z j)) := fun j hj => by
    obtain ⟨b, off, e1, e2, e3⟩ := hcells j (by omega)
    have e : z j = zs[j]'(by omega) := by rw [hz]; simp only [List.getD_eq_getElem?_getD]; rw [List.getElem?_eq_getElem (by omega)]; rfl
    rw [e]; exact ⟨b, off, e1, e2⟩
  have HZC := Lib.hid hzc
  clear hzc hz hzl hcells hlc
  have hn1 : ∀ w, (binOp .eql 33 (.pointer none) (.pointer none)).run Try.prog w = .ok (.bool true) w := fun w => by rfl
  go_enter Try.func3, Try.ntmps3
  go_wp2_with fail
  refine (awake12_any _).mono ?_
  rintro e w1 ⟨rfl, hb1⟩
  have B1 := Lib.hid hb1; clear hb1
  go_wp2_with fail
  refine (begin_any 0 a1 _).mono ?_
  rintro e w2 ⟨g, rfl, hg, h2, b2⟩
  have HI : Hid (StkAt w2 g 1 1 (newF 0 a1 0) ∧ (newF 0 a1 0)[0 * 11 + 1]? = some 0 ∧ Below w.heap.size w w2) := Lib.hid ⟨h2, by rfl, below_on B1.out b2⟩
  clear hg h2 b2
  go_wp2_with fail
  go_loopw [7, 8] (fun s c wr => ∃ i g cap : Nat, ∃ zz : List Int, i ≤ 5 ∧ c = .int .i64 i ∧ s = .slice (some ⟨g, 0, none⟩) (i + 1) cap ∧ Hid (StkAt wr g (i + 1) cap zz ∧ zz[i * 11 + 1]? = some 0 ∧ Below w.heap.size w wr)) (fun _ c _ => 5 - (intOf c).toNat)
  case atStart => exact ⟨0, g, 1, newF 0 a1 0, by omega, rfl, rfl, HI.out⟩
  case round =>
    obtain ⟨i, gi, cap, zz, hi, rfl, rfl, hr⟩ := hrel
    by_cases hlt : i < len0 ∧ i < 5
    · obtain ⟨hl1, hl2⟩ := hlt
      obtain ⟨b, off, rfl, c1⟩ := HZC.out i hl1
      have c2 := cell_below c1 hr.out.2.2
      have hli : (i : Int) < (len0 : Int) := by omega
      have hl5 : (i : Int) < 5 := by omega
      clear c1
      go_wp2_with fail
      refine (call_any gi (i + 1) cap zz i (z i) i _ hr.out.1 (by omega) (by omega)).mono ?_
      rintro e w3 ⟨g3, cap3, rfl, hg3, h3, b3⟩
      have H3 : Hid (StkAt w3 g3 (i + 1 + 1) cap3 (zz ++ newF i (z i) i) ∧ (zz ++ newF i (z i) i)[(i + 1) * 11 + 1]? = some 0 ∧ Below w.heap.size w w3) :=
        Lib.hid ⟨h3, by rw [List.getElem?_append_right (by rw [hr.out.1.len]; omega), hr.out.1.len, Nat.add_sub_cancel_left]; rfl, below_on hr.out.2.2 b3⟩
      clear hg3 h3 b3
      go_wp2_with fail
      exact ⟨⟨i + 1, g3, cap3, _, by omega, by go_num, rfl, H3⟩, by simp [intOf]; omega⟩
    · have hcase : (i < len0 ∧ ¬ i < 5) ∨ ¬ i < len0 := by omega
      have hz1 : (i : Int) = i := rfl
      obtain ⟨x2, e2, x3, -⟩ := hr.out.1.cell (i * 11 + 2) (by omega)
      have X2 := Lib.hid e2
      rcases hcase with ⟨q1, q2⟩ | q1
      case' inl => have q1 : (i : Int) < (len0 : Int) := by omega
      case' inl => have q2 : ¬ (i : Int) < 5 := by omega
      case' inr => have q1 : ¬ (i : Int) < (len0 : Int) := by omega
      all_goals
        clear e2 hlt hz1
        go_wp2_with fail
        refine (clone_any gi (i + 1) cap zz _ hr.out.1 (by omega) (by omega)).mono ?_
        rintro e w3 ⟨g3, cap3, rfl, hg3, h3, b3⟩
        have H3 := Lib.hid h3
        have B3 := Lib.hid b3
        have G3 := Lib.hid hg3
        have x3' := cell_below x3 b3
        clear hg3 h3 b3 x3
        go_wp2_with (go_at_call 9; refine (top_any _ i _ _ (by omega)).mono ?_; rintro e wt ⟨rfl, rfl⟩)
        refine (pure_const g3 (i * 11) 0 (i + 1) cap3 zz a2 0 _ (by omega) H3.out (by omega) hr.out.2.1 (by omega)).mono ?_
        rintro e w4 ⟨rfl, c4, h4⟩
        have hgi := hr.out.1.lt
        have hne : g3 ≠ gi := by have := G3.out; omega
        have s4 := (hr.out.1.below B3.out).chg c4 (by simp; omega)
        have b4 : Below w.heap.size w w4 := Chg.below (below_on hr.out.2.2 B3.out) c4 (fun x hx => by simp at hx; subst hx; have := G3.out; have := hr.out.2.2.size; omega)
        have S4 := Lib.hid s4
        have H4 := Lib.hid h4
        have B4 := Lib.hid b4
        have hg3 := H3.out.lt
        have hg34 : g3 < w4.heap.size := H4.out.lt
        clear c4 h4 s4 b4 H3 B3 x3'
        go_wp2_with fail
        refine (call_any gi (i + 1) cap zz 1 a2 2 _ S4.out (by omega) (by omega)).mono ?_
        rintro e w5 ⟨g5, cap5, rfl, hg5, h5, b5⟩
        have H5 := Lib.hid h5
        have B5 := Lib.hid b5
        have G5 := Lib.hid hg5
        clear hg5 h5 b5
        go_wp2_with (go_at_call 9; first | (refine (top_two _ i _ _ (by omega)).mono ?_; rintro e wt ⟨rfl, rfl⟩) | (refine (top_any _ (i + 1) _ _ (by omega)).mono ?_; rintro e wt ⟨rfl, rfl⟩))
        refine (pure_const g5 ((i + 1) * 11) 0 (i + 1 + 1) cap5 (zz ++ newF 1 a2 2) 3 0 _ (by omega) H5.out (by omega) (by rw [List.getElem?_append_right (by rw [S4.out.len]; omega), S4.out.len, Nat.add_sub_cancel_left]; rfl) (by omega)).mono ?_
        rintro e w6 ⟨rfl, c6, h6⟩
        have s6 := (S4.out.below B5.out).chg c6 (by have := G5.out; have := S4.out.lt; simp; omega)
        have t6 := (H4.out.below B5.out).chg c6 (by have := G5.out; simp; omega)
        obtain ⟨d1, -⟩ := s6.at X2.out
        obtain ⟨d2, -⟩ := s6.at hr.out.2.1
        have d3 : w6.cell? ⟨g3, i * 11 + 2, none⟩ = some (.int .i64 a2) := (t6.at (j := i * 11 + 2) (x := a2) (by
          rw [Nat.add_zero, List.getElem?_set_self (by rw [List.length_set, S4.out.len]; omega)])).1
        have b6 : Below w.heap.size w w6 := Chg.below (below_on B4.out B5.out) c6 (fun x hx => by simp at hx; subst hx; have := G5.out; have := B4.out.size; omega)
        have B6 := Lib.hid b6
        clear c6 h6 s6 t6 b6
        go_wp2_with (first | (go_at_call 9; first | ((with_reducible refine (top_any _ i _ _ (by omega)).mono ?_); rintro e wt ⟨rfl, rfl⟩) | ((with_reducible refine (top_none _).mono ?_); rintro e wt ⟨rfl, rfl⟩)))
        go_ret
        exact ⟨rfl, B6.out⟩
end Go.Proofs.Ytfllplfpeibocaa.frameClones
