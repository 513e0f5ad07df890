/-
  Lists of decisions that came in: from the reading of an argument. No program is named here.
-/
import Derived.Test.YtkjhaofodlpnmaaRecs
import Derived.Deep.SlicePairs
import Derived.Lib.SmallJoins
open Go Go.RowKit Go.Deep
set_option linter.unusedVariables false
namespace Go.Proofs.Ytkjhaofodlpnmaa
/-- What a walk is told of a slice of decisions that came in. -/
def IsRecs (w : World) (a : Option Addr) (len cap : Nat) (l : List Rec) : Prop :=
  len = l.length ∧ len ≤ cap ∧ cap ≤ maxLen ∧ RecsAt w a l ∧ ∀ r ∈ l, r.2 < 18446744073709551616
theorem isRecs_of {H : Type} {enc : TypeId × Value → H} {P : Program} {w : World} {base : Nat} {spare : Nat → Bool} {held : Bool} {t e : TypeId} {f0 f1 : Field} {fuel : Nat} {a : Option Addr} {len cap : Nat} {x : DataW H × List MemPlace}
    (ht : P.underlying t = some (.slice e)) (he : P.underlying e = some (.struct #[f0, f1])) (ce : P.cellsOf e = 2) (o0 : f0.offset = 0) (o1 : f1.offset = 1) (c0 : P.cellsOf f0.type = 1) (c1 : P.cellsOf f1.type = 1)
    (t0 : P.underlying f0.type = some (.int .i64)) (t1 : P.underlying f1.type = some (.int .u64))
    (h : DataW.trod enc P w base spare held fuel t [.slice a len cap] = some x) : ∃ l, IsRecs w a len cap l := by
  rcases open_slice_pairs ht he ce o0 o1 c0 c1 h with ⟨hcs, _⟩ | ⟨b, l', c', m, n, V0, V1, D0, D1, P0, P1, hcs, _, hl, hm, hmm, _, hi⟩
  · simp at hcs
    obtain ⟨rfl, rfl, rfl⟩ := hcs
    exact ⟨[], rfl, Nat.le_refl _, Nat.zero_le _, RecsAt.nil _ _, fun r hr => by simp at hr⟩
  · simp at hcs
    obtain ⟨rfl, rfl, rfl⟩ := hcs
    have hlm : len ≤ m := by rw [hmm]; split <;> omega
    have hv : ∀ i, i < len → ∃ r : Rec, w.cell? (b.add (i * 2)) = some (.int .i64 r.1) ∧ w.cell? (b.add (i * 2 + 1)) = some (.int .u64 (r.2 : Int)) ∧ r.2 < 18446744073709551616 := fun i hil => by
      obtain ⟨g0, g1, g2, g3⟩ := hi i (by omega)
      obtain ⟨z0, e0, _, w0⟩ := DataW.trod_int t0 g2
      obtain ⟨z1, e1, _, w1⟩ := DataW.trod_int t1 g3
      have b1 := bounds_u64 w1
      refine ⟨(z0, z1.toNat), ?_, ?_, ?_⟩
      · rw [g0]; simpa using e0
      · rw [g1]; simp only; rw [Int.toNat_of_nonneg b1.1]; simpa using e1
      · simp only; omega
    have : ∃ l : List Rec, l.length = len ∧ ∀ i (h : i < l.length), w.cell? (b.add (i * 2)) = some (.int .i64 l[i].1) ∧ w.cell? (b.add (i * 2 + 1)) = some (.int .u64 (l[i].2 : Int)) ∧ l[i].2 < 18446744073709551616 := by
      have hv' : ∀ i : Fin len, ∃ r : Rec, w.cell? (b.add (i.val * 2)) = some (.int .i64 r.1) ∧ w.cell? (b.add (i.val * 2 + 1)) = some (.int .u64 (r.2 : Int)) ∧ r.2 < 18446744073709551616 := fun i => hv i.val i.isLt
      refine ⟨List.ofFn fun i : Fin len => Classical.choose (hv' i), by simp, fun i h => ?_⟩
      simp at h
      simp only [List.getElem_ofFn]
      exact Classical.choose_spec (hv' ⟨i, h⟩)
    obtain ⟨l, hll, hat⟩ := this
    refine ⟨l, hll.symm, hl, hm, fun i h => ?_, fun r hr => ?_⟩
    · obtain ⟨g0, g1, _⟩ := hat i h
      obtain ⟨bb, off, spot⟩ := b
      obtain rfl : spot = none := by have := (hat 0 (by omega)).1; simpa [Addr.add] using World.cell?_spot this
      rw [Go.WideShapes.add_plain] at g0 g1
      exact ⟨bb, off, rfl, g0, by rw [Nat.add_assoc]; exact g1⟩
    · obtain ⟨i, h, rfl⟩ := List.mem_iff_getElem.1 hr
      exact (hat i h).2.2
end Go.Proofs.Ytkjhaofodlpnmaa
