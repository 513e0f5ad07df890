/-
  Slices of texts, and of truths, that came in: from the reading of an argument. No program is named here.
-/
import Derived.Test.YthfleeimhnenpaaBase
import Derived.SliceStrings
import Derived.Deep.Grids
import Derived.WideShapes
open Go Go.RowKit Go.Deep Go.WideShapes Go.ChangeShapes
set_option linter.unusedVariables false
namespace Go.Proofs.Ythfleeimhnenpaa
/-- What a walk is told of a slice of texts that came in. -/
def IsStrs (w : World) (a : Option Addr) (len cap : Nat) (l : List ByteArray) : Prop :=
  len = l.length ∧ len ≤ cap ∧ cap ≤ maxLen ∧ StrsAt w a l ∧ ∀ s ∈ l, s.size ≤ maxLen
theorem isStrs_of {H : Type} {enc : TypeId × Value → H} {P : Program} {w : World} {base : Nat} {spare : Nat → Bool} {held : Bool} {t e : TypeId} {fuel : Nat} {a : Option Addr} {len cap : Nat} {x : DataW H × List MemPlace}
    (ht : P.underlying t = some (.slice e)) (he : P.underlying e = some .string) (ce : P.cellsOf e = 1) (h : DataW.trod enc P w base spare held fuel t [.slice a len cap] = some x) : ∃ l, IsStrs w a len cap l := by
  rcases open_strings ht he ce h with ⟨hcs, _⟩ | ⟨b, l', c', ss, hcs, _, hl, hm, hss, _, hi, hz⟩
  · simp at hcs
    obtain ⟨rfl, rfl, rfl⟩ := hcs
    exact ⟨[], rfl, Nat.le_refl _, Nat.zero_le _, fun i h => by simp at h, fun r hr => by simp at hr⟩
  · simp at hcs
    obtain ⟨rfl, rfl, rfl⟩ := hcs
    have hlm : len ≤ ss.length := by rw [hss]; split <;> omega
    refine ⟨ss.take len, by rw [List.length_take]; omega, hl, hm, fun i h => ?_, fun s hs => hz s (List.mem_of_mem_take hs)⟩
    have hil : i < len := by rw [List.length_take] at h; omega
    have h1 := hi i (by omega)
    obtain ⟨bb, off, spot⟩ := b
    obtain rfl : spot = none := by simpa [Addr.add] using World.cell?_spot (hi 0 (by omega))
    rw [Go.WideShapes.add_plain] at h1
    exact ⟨bb, off, rfl, by rw [h1, List.getElem_take, List.getD_eq_getElem?_getD, List.getElem?_eq_getElem (by omega)]; rfl⟩
/-- Truths in memory, behind one another, from a on. -/
def BoolsAt (w : World) (a : Option Addr) (l : List Bool) : Prop :=
  ∀ i (h : i < l.length), ∃ b off, a = some ⟨b, off, none⟩ ∧ w.cell? ⟨b, off + i, none⟩ = some (.bool l[i])
theorem BoolsAt.below {w w' : World} {a : Option Addr} {l : List Bool} (h : BoolsAt w a l) (hb : Below w.heap.size w w') : BoolsAt w' a l := fun i hi => by
  obtain ⟨b, off, h1, h2⟩ := h i hi
  exact ⟨b, off, h1, cell_below h2 hb⟩
def IsBools (w : World) (a : Option Addr) (len cap : Nat) (l : List Bool) : Prop :=
  len = l.length ∧ len ≤ cap ∧ cap ≤ maxLen ∧ BoolsAt w a l
theorem isBools_of {H : Type} {enc : TypeId × Value → H} {P : Program} {w : World} {base : Nat} {held : Bool} {t e : TypeId} {fuel : Nat} {a : Option Addr} {len cap : Nat} {x : DataW H × List MemPlace}
    (ht : P.underlying t = some (.slice e)) (he : P.underlying e = some .bool) (ce : P.cellsOf e = 1) (h : DataW.trod enc P w base (fun _ => true) held fuel t [.slice a len cap] = some x) : ∃ l, IsBools w a len cap l := by
  rcases open_bools ht he ce h with ⟨hcs, _⟩ | ⟨b, l', c', B, hcs, _, hl, hm, _, hi⟩
  · simp at hcs
    obtain ⟨rfl, rfl, rfl⟩ := hcs
    exact ⟨[], rfl, Nat.le_refl _, Nat.zero_le _, fun i h => by simp at h⟩
  · simp at hcs
    obtain ⟨rfl, rfl, rfl⟩ := hcs
    refine ⟨(List.range len).map B, by simp, hl, hm, fun i h => ?_⟩
    have hil : i < len := by simpa using h
    have h1 := hi i (by omega)
    obtain ⟨bb, off, spot⟩ := b
    obtain rfl : spot = none := by simpa [Addr.add] using World.cell?_spot (hi 0 (by omega))
    rw [Go.WideShapes.add_plain] at h1
    exact ⟨bb, off, rfl, by rw [h1]; simp⟩
end Go.Proofs.Ythfleeimhnenpaa
