/-
  Regions that draw their order: two operations that may come up next. No program is named here.
-/
import Derived.Test.YtdeilfnfpgjnnaaDoorSegH
open Go Go.RowKit
set_option linter.unusedVariables false
namespace Go.Proofs.YtdeilfnfpgjnnaaDoor
section
variable {P : Program} {Q : Exit → Act → World → Prop} {S : World → Prop}
/-- Two that may come up next. -/
theorem wpAnyH_two {l : List Oper} (k k' : Nat) (listed listed' listed'' : Array Bool) (fuel : Nat) {a : Act} {w : World} (hB : (decide (Region.ready .any l.toArray listed = [k, k']) && (listed.setIfInBounds k true == listed') && (listed.setIfInBounds k' true == listed'')) = true)
    (h1 : ∀ K : Act → World → Prop, (∀ a' w', S w' → wpAnyH P .any l.toArray Q S fuel listed' a' w' → K a' w') → headH P l.toArray Q K a w (l.drop k))
    (h2 : ∀ K : Act → World → Prop, (∀ a' w', S w' → wpAnyH P .any l.toArray Q S fuel listed'' a' w' → K a' w') → headH P l.toArray Q K a w (l.drop k')) : wpAnyH P .any l.toArray Q S (fuel + 1) listed a w := by
  simp only [Bool.and_eq_true, decide_eq_true_eq, beq_iff_eq] at hB
  obtain ⟨⟨hr, rfl⟩, rfl⟩ := hB
  refine wpAnyH_all hr (by simp) (fun i hi => ?_)
  have h : ∀ K : Act → World → Prop, (∀ a' w', S w' → wpAnyH P .any l.toArray Q S fuel (listed.setIfInBounds i true) a' w' → K a' w') → headH P l.toArray Q K a w (l.drop i) := by
    have hik : i = k ∨ i = k' := by simpa using hi
    rcases hik with rfl | rfl
    · exact h1
    · exact h2
  have h1 := h (fun a' w' => S w' ∧ wpAnyH P .any l.toArray Q S fuel (listed.setIfInBounds i true) a' w') (fun a' w' h2 h3 => ⟨h2, h3⟩)
  cases hd : l.drop i with
  | nil => rw [hd] at h1; exact h1.elim
  | cons o r =>
    rw [hd] at h1
    have h0 : l.toArray[i]? = some o := by
      have : (l.drop i)[0]? = some o := by rw [hd]; rfl
      rw [List.getElem?_drop] at this
      simpa using this
    unfold wpOp
    simp only [h0]
    rw [if_pos h1.1]
    exact .inl h1.2
end
end Go.Proofs.YtdeilfnfpgjnnaaDoor
