/-
  Slices of integers that came in: what a walk is told of one. No program is named here.
-/
import Derived.Test.YtigjaopafhjhaaaBase
import Derived.WalkKit
import Derived.OpenShut
import Derived.ProofKit
open Go Go.RowKit
set_option linter.unusedVariables false
namespace Go.Proofs.Ytigjaopafhjhaaa
/-- What the walk is told of a slice of integers that came in: it is nil; or it leads to a row of cap cells, the numbers zs. -/
def IsRow (k : IntKind) (w : World) (a : Option Addr) (len cap : Nat) (zs : List Int) : Prop :=
  (a = none ∧ len = 0 ∧ cap = 0 ∧ zs = []) ∨
  ∃ x, a = some x ∧ len ≤ cap ∧ cap ≤ maxLen ∧ zs.length = cap ∧ (∀ i, i < zs.length → w.cell? (x.add i) = some (.int k (zs.getD i 0))) ∧ ∀ n ∈ zs, (Lit.int k n).wf = true
/-- Numbers in memory, behind one another, from a on. -/
def Cells (k : IntKind) (w : World) (a : Option Addr) (zs : List Int) : Prop :=
  ∀ i (h : i < zs.length), ∃ b off, a = some ⟨b, off, none⟩ ∧ w.cell? ⟨b, off + i, none⟩ = some (.int k zs[i]) ∧ (Lit.int k zs[i]).wf = true
theorem IsRow.cells {k : IntKind} {w : World} {a : Option Addr} {len cap : Nat} {zs : List Int} (h : IsRow k w a len cap zs) :
    len ≤ cap ∧ cap ≤ maxLen ∧ (zs.take len).length = len ∧ Cells k w a (zs.take len) := by
  rcases h with ⟨rfl, rfl, rfl, rfl⟩ | ⟨x, rfl, hlc, hcm, hzl, hcell, hwf⟩
  · exact ⟨Nat.le_refl _, Nat.zero_le _, rfl, fun i h => by simp at h⟩
  · refine ⟨hlc, hcm, by simp; omega, fun i h => ?_⟩
    simp at h
    obtain ⟨b, off, rfl, hc⟩ := ints_at hcell (by omega)
    refine ⟨b, off, rfl, ?_, ?_⟩
    · rw [hc i (by omega), List.getElem_take, List.getD_eq_getElem?_getD, List.getElem?_eq_getElem (by omega)]; rfl
    · rw [List.getElem_take]; exact hwf _ (List.getElem_mem _)
theorem Cells.take {k : IntKind} {w : World} {a : Option Addr} {zs : List Int} (h : Cells k w a zs) (m : Nat) : Cells k w a (zs.take m) := fun i hi => by
  simp at hi
  obtain ⟨b, off, h1, h2, h3⟩ := h i (by omega)
  exact ⟨b, off, h1, by rw [List.getElem_take]; exact h2, by rw [List.getElem_take]; exact h3⟩
theorem Cells.below {k : IntKind} {w w' : World} {a : Option Addr} {zs : List Int} (h : Cells k w a zs) (hb : Below w.heap.size w w') : Cells k w' a zs := fun i hi => by
  obtain ⟨b, off, h1, h2, h3⟩ := h i hi
  exact ⟨b, off, h1, by rw [hb.cell (p := ⟨b, off + i, none⟩) (World.block_lt_of_cell? w _ h2)]; exact h2, h3⟩
end Go.Proofs.Ytigjaopafhjhaaa
