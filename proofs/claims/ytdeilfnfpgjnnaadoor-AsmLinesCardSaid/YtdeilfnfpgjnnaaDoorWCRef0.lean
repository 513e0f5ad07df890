/-
  The walks of the document's answer for one number.
-/
import Derived.Test.YtdeilfnfpgjnnaaDoorWCode5
open Go Go.RowKit
set_option linter.unusedVariables false
namespace Go.Proofs.YtdeilfnfpgjnnaaDoor
set_option maxRecDepth 100000 in
set_option maxHeartbeats 2000000 in
theorem in_any (v lo hi : Int) (w : World) : Calls Tryd.prog 36 #[.int .i64 v, .int .i64 lo, .int .i64 hi] w fun e w' => e = .returned (.bool (inn v lo hi)) ∧ w' = w := by
  unfold inn
  by_cases h1 : lo ≤ v
  · have h1' : v ≥ lo := h1
    by_cases h2 : v < hi
    · simp only [h1, h2, decide_true, Bool.and_self]
      go_enter Tryd.func36, Tryd.ntmps36
      go_wp2_with fail
      go_ret
      exact ⟨rfl, rfl⟩
    · simp only [h1, h2, decide_true, decide_false, Bool.and_false]
      go_enter Tryd.func36, Tryd.ntmps36
      go_wp2_with fail
      go_ret
      exact ⟨rfl, rfl⟩
  · have h1' : ¬ v ≥ lo := h1
    simp only [h1, decide_false, Bool.false_and]
    go_enter Tryd.func36, Tryd.ntmps36
    go_wp2_with fail
    go_ret
    exact ⟨rfl, rfl⟩
set_option maxRecDepth 100000 in
set_option maxHeartbeats 2000000 in
theorem reg_any (v : Int) (w : World) : Calls Tryd.prog 37 #[.int .i64 v] w fun e w' => e = .returned (.bool (inn v 0 8)) ∧ w' = w := by
  go_enter Tryd.func37, Tryd.ntmps37
  go_wp2_with fail
  refine (in_any _ _ _ _).mono ?_
  rintro e w1 ⟨rfl, rfl⟩
  go_wp2_with fail
  go_ret
  exact ⟨rfl, rfl⟩
end Go.Proofs.YtdeilfnfpgjnnaaDoor
