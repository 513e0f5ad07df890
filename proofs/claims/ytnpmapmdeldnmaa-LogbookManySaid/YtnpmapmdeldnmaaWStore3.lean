/-
  The walk of a store's Crash.
-/
import Derived.Test.YtnpmapmdeldnmaaWStore2
open Go Go.RowKit
set_option linter.unusedVariables false
namespace Go.Proofs.Ytnpmapmdeldnmaa
set_option maxRecDepth 100000 in
theorem size_u8 (w : World) : (sizeOf (Try.prog.elem 48)).run Try.prog w = .ok 1 w := by first | rfl | kernel_rfl
set_option maxRecDepth 100000 in
theorem size_u8' (w : World) : (sizeOf 5).run Try.prog w = .ok 1 w := by first | rfl | kernel_rfl
/-- What a store's cells are, laid open. -/
theorem StoreAt.open {w : World} {p : Nat} {s : SSt} {F : List Nat} (h : StoreAt w p s F) : ∃ a cap, F = p :: (Value.ownBlock (.slice a s.bs.length cap)).toList ∧ Value.ownBlock (.slice a s.bs.length cap) ≠ some p ∧ Blk w p (s.cells (.slice a s.bs.length cap)) ∧ w.ownsRow 0 5 1 (.slice a s.bs.length cap) s.bs.length (u8c s.bs) ∧ s.ok ∧ s.bs.length ≤ cap ∧ (a = none → cap = 0) := by
  obtain ⟨h0, v, rfl, h2, h3, h4⟩ := h
  have h4' := h4
  rcases h4.2 with ⟨rfl, hn⟩ | ⟨g, cap, cur, rfl, _, _, hc, _⟩
  · exact ⟨none, 0, by rw [hn], by rw [hn]; exact h2, by rw [hn]; exact h3, by rw [hn] at h4' ⊢; exact h4', h0, by omega, fun _ => rfl⟩
  · exact ⟨some ⟨g, 0, none⟩, cap, rfl, h2, h3, h4', h0, hc, fun h => by cases h⟩
theorem SSt.keeps_le (s : SSt) (k : Int) : s.keeps k ≤ s.bs.length - s.safe := by unfold SSt.keeps; omega
theorem overlay_len (l m : List UInt8) : (overlay l m).length = l.length := by unfold overlay; rw [List.length_append, List.length_take, List.length_drop]; omega
theorem overlay_cells (bs t : List UInt8) (S K : Nat) (h : S + K ≤ bs.length) : (bs.take (S + K)).take S ++ (t.take K ++ (bs.take (S + K)).drop (S + (t.take K).length)) = bs.take S ++ overlay ((bs.drop S).take K) t := by
  have hl : ((bs.drop S).take K).length = K := by rw [List.length_take, List.length_drop]; omega
  unfold overlay
  rw [hl, List.take_take, Nat.min_eq_left (by omega)]
  congr 2
  rw [← List.drop_drop, List.drop_take, Nat.add_sub_cancel_left, List.length_take]
  by_cases hk : K ≤ t.length
  · rw [Nat.min_eq_left hk, List.drop_of_length_le (by rw [hl]; exact Nat.le_refl _), List.drop_of_length_le (by rw [hl]; exact hk)]
  · rw [Nat.min_eq_right (by omega)]
end Go.Proofs.Ytnpmapmdeldnmaa
