/-
  Numbers that came in: their cells.
-/
import Derived.Test.YtkjhaofodlpnmaaWSrc1
open Go Go.RowKit
set_option linter.unusedVariables false
namespace Go.Proofs.Ytkjhaofodlpnmaa
/-- Numbers that came in. -/
theorem nums_of {w : World} {a : Option Addr} {len cap : Nat} {zs : List Int} (h : IsRow .u64 w a len cap zs) :
    ∃ l : List Nat, l.length = len ∧ len ≤ cap ∧ CellsAt w a (numc l) ∧ (∀ n ∈ l, n < 18446744073709551616) ∧ (a = none → len = 0 ∧ cap = 0) := by
  have h0 : a = none → len = 0 ∧ cap = 0 := by
    intro ha
    rcases h with ⟨_, h1, h2, _⟩ | ⟨x, h1, _⟩
    · exact ⟨h1, h2⟩
    · rw [ha] at h1; cases h1
  obtain ⟨h1, h2, h3, h4⟩ := h.cells
  refine ⟨(zs.take len).map Int.toNat, by rw [List.length_map]; exact h3, h1, fun j v hj => ?_, fun n hn => ?_, h0⟩
  · have hl : j < (zs.take len).length := by have := (List.getElem?_eq_some_iff.1 hj).1; simpa [numc] using this
    obtain ⟨b, off, h5, h6, h7⟩ := h4 j hl
    have b1 := bounds_u64 h7
    have e : (numc ((zs.take len).map Int.toNat))[j]? = some (.int .u64 (((zs.take len)[j].toNat : Nat) : Int)) := by
      unfold numc; rw [List.map_map, List.getElem?_map, List.getElem?_eq_getElem hl]; rfl
    rw [e] at hj
    cases hj
    exact ⟨b, off, h5, by rw [h6, Int.toNat_of_nonneg b1.1]⟩
  · obtain ⟨z, hz, rfl⟩ := List.mem_map.1 hn
    obtain ⟨i, hi, rfl⟩ := List.mem_iff_getElem.1 hz
    obtain ⟨_, _, _, _, h7⟩ := h4 i hi
    have b1 := bounds_u64 h7
    omega
end Go.Proofs.Ytkjhaofodlpnmaa
