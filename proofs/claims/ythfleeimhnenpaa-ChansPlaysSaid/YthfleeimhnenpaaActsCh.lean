/-
  Slices of structs {int, int64, {int, int, int}} that came in. No program is named here.
-/
import Derived.Test.YthfleeimhnenpaaIRow2
import Derived.Deep.SlicePairs
import Derived.WideKeyArr2
import Derived.Lib.SmallJoins
open Go Go.RowKit Go.Deep Go.WideShapes Go.ChangeShapes
set_option linter.unusedVariables false
namespace Go.Proofs.Ythfleeimhnenpaa
abbrev Ac5 := Int × Int × Int × Int × Int
def ActsChAt (w : World) (a : Option Addr) (l : List Ac5) : Prop :=
  ∀ i (h : i < l.length), ∃ b off, a = some ⟨b, off, none⟩ ∧ w.cell? ⟨b, off + i * 5, none⟩ = some (.int .i64 l[i].1) ∧ w.cell? ⟨b, off + i * 5 + 1, none⟩ = some (.int .i64 l[i].2.1) ∧ w.cell? ⟨b, off + i * 5 + 2, none⟩ = some (.int .i64 l[i].2.2.1) ∧ w.cell? ⟨b, off + i * 5 + 3, none⟩ = some (.int .i64 l[i].2.2.2.1) ∧ w.cell? ⟨b, off + i * 5 + 4, none⟩ = some (.int .i64 l[i].2.2.2.2)
theorem ActsChAt.below {w w' : World} {a : Option Addr} {l : List Ac5} (h : ActsChAt w a l) (hb : Below w.heap.size w w') : ActsChAt w' a l := fun i hi => by
  obtain ⟨b, off, h1, h2, h3, h4, h5, h6⟩ := h i hi
  exact ⟨b, off, h1, cell_below h2 hb, cell_below h3 hb, cell_below h4 hb, cell_below h5 hb, cell_below h6 hb⟩
def IsActsCh (w : World) (a : Option Addr) (len cap : Nat) (l : List Ac5) : Prop := len = l.length ∧ len ≤ cap ∧ cap ≤ maxLen ∧ ActsChAt w a l
theorem list_of5 {α : Type} {n : Nat} {p : Nat → α → Prop} (h : ∀ i, i < n → ∃ x, p i x) : ∃ l : List α, l.length = n ∧ ∀ i (h : i < l.length), p i l[i] := by
  have hv : ∀ i : Fin n, ∃ x, p i.val x := fun i => h i.val i.isLt
  refine ⟨List.ofFn fun i : Fin n => Classical.choose (hv i), by simp, fun i h => ?_⟩
  simp at h
  simp only [List.getElem_ofFn]
  exact Classical.choose_spec (hv ⟨i, h⟩)
theorem isActsCh_of {H : Type} {enc : TypeId × Value → H} {P : Program} {w : World} {base : Nat} {spare : Nat → Bool} {held : Bool} {t e : TypeId} {f0 f1 f2 g0 g1 g2 : Field} {fuel : Nat} {a : Option Addr} {len cap : Nat} {x : DataW H × List MemPlace}
    (ht : P.underlying t = some (.slice e)) (he : P.underlying e = some (.struct #[f0, f1, f2])) (hn : P.underlying f2.type = some (.struct #[g0, g1, g2])) (ce : P.cellsOf e = 5) (o0 : f0.offset = 0) (o1 : f1.offset = 1) (o2 : f2.offset = 2) (p0 : g0.offset = 0) (p1 : g1.offset = 1) (p2 : g2.offset = 2)
    (c0 : P.cellsOf f0.type = 1) (c1 : P.cellsOf f1.type = 1) (c2 : P.cellsOf f2.type = 3) (d0 : P.cellsOf g0.type = 1) (d1 : P.cellsOf g1.type = 1) (d2 : P.cellsOf g2.type = 1)
    (t0 : P.underlying f0.type = some (.int .i64)) (t1 : P.underlying f1.type = some (.int .i64)) (u0 : P.underlying g0.type = some (.int .i64)) (u1 : P.underlying g1.type = some (.int .i64)) (u2 : P.underlying g2.type = some (.int .i64))
    (h : DataW.trod enc P w base spare held fuel t [.slice a len cap] = some x) : ∃ l, IsActsCh w a len cap l := by
  rcases open_slice ht h with ⟨hcs, _⟩ | ⟨b, l', c', m, n, D, Pl, hcs, _, hl, hm, hmm, _, hi⟩
  · simp at hcs
    obtain ⟨rfl, rfl, rfl⟩ := hcs
    exact ⟨[], rfl, Nat.le_refl _, Nat.zero_le _, fun i hi => by simp at hi⟩
  · simp at hcs
    obtain ⟨rfl, rfl, rfl⟩ := hcs
    have hlm : len ≤ m := by rw [hmm]; split <;> omega
    obtain ⟨l, hll, hat⟩ := list_of5 (p := fun i (r : Ac5) => w.cell? (b.add (i * 5)) = some (.int .i64 r.1) ∧ w.cell? (b.add (i * 5 + 1)) = some (.int .i64 r.2.1) ∧ w.cell? (b.add (i * 5 + 2)) = some (.int .i64 r.2.2.1) ∧ w.cell? (b.add (i * 5 + 3)) = some (.int .i64 r.2.2.2.1) ∧ w.cell? (b.add (i * 5 + 4)) = some (.int .i64 r.2.2.2.2)) (n := len) (fun i hil => by
      obtain ⟨cs', h1, h2⟩ := hi i (by omega)
      rw [ce] at h1
      obtain ⟨_, hlen, hcell⟩ := World.cells?_some h1
      obtain ⟨xs, k, hk, hxy, _, hxl, hf⟩ := DataW.trod_struct he h2
      match xs, hxl, cs', hlen with
      | [y0, y1, y2], _, [v0, v1, v2, v3, v4], _ =>
        have q0 := hf 0 f0 rfl
        have q1 := hf 1 f1 rfl
        have q2 := hf 2 f2 rfl
        simp [o0, o1, o2, c0, c1, c2] at q0 q1 q2
        obtain ⟨zs, k', hk', hzy, _, hzl, hz⟩ := DataW.trod_struct hn q2
        match zs, hzl with
        | [z0, z1, z2], _ =>
          have q3 := hz 0 g0 rfl
          have q4 := hz 1 g1 rfl
          have q5 := hz 2 g2 rfl
          simp [p0, p1, p2, d0, d1, d2] at q3 q4 q5
          have e0 := hcell 0 (by omega)
          have e1 := hcell 1 (by omega)
          have e2 := hcell 2 (by omega)
          have e3 := hcell 3 (by omega)
          have e4 := hcell 4 (by omega)
          rw [Addr.add_add] at e0 e1 e2 e3 e4
          obtain ⟨i0, r0, _, w0⟩ := DataW.trod_int t0 q0
          obtain ⟨i1, r1, _, w1⟩ := DataW.trod_int t1 q1
          obtain ⟨i2, r2, _, w2⟩ := DataW.trod_int u0 q3
          obtain ⟨i3, r3, _, w3⟩ := DataW.trod_int u1 q4
          obtain ⟨i4, r4, _, w4⟩ := DataW.trod_int u2 q5
          simp at r0 r1 r2 r3 r4
          subst r0 r1 r2 r3 r4
          exact ⟨(i0, i1, i2, i3, i4), by simpa using e0, by simpa using e1, by simpa using e2, by simpa using e3, by simpa using e4⟩)
    refine ⟨l, hll.symm, hl, hm, fun i h => ?_⟩
    obtain ⟨g0, g1, g2, g3, g4⟩ := hat i h
    obtain ⟨bb, off, spot⟩ := b
    obtain rfl : spot = none := by have := (hat 0 (by omega)).1; simpa [Addr.add] using World.cell?_spot this
    rw [Go.WideShapes.add_plain] at g0 g1 g2 g3 g4
    exact ⟨bb, off, rfl, g0, by rw [Nat.add_assoc]; exact g1, by rw [Nat.add_assoc]; exact g2, by rw [Nat.add_assoc]; exact g3, by rw [Nat.add_assoc]; exact g4⟩
end Go.Proofs.Ythfleeimhnenpaa
