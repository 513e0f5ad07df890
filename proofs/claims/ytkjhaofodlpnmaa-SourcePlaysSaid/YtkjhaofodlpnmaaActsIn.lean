/-
  Slices of structs of two or three numbers, and arrays of four, that came in: from the reading of an argument. No program is named here.
-/
import Derived.Test.YtkjhaofodlpnmaaIRow
import Derived.Deep.SlicePairs
import Derived.WideKeyArr2
import Derived.Lib.SmallJoins
open Go Go.RowKit Go.Deep Go.WideShapes Go.ChangeShapes
set_option linter.unusedVariables false
namespace Go.Proofs.Ytkjhaofodlpnmaa
abbrev Ac2 := Int × Int
abbrev Ac3 := Int × Int × Int
/-- Structs of two numbers in memory, behind one another, from a on. -/
def Acts2At (w : World) (a : Option Addr) (l : List Ac2) : Prop :=
  ∀ i (h : i < l.length), ∃ b off, a = some ⟨b, off, none⟩ ∧ w.cell? ⟨b, off + i * 2, none⟩ = some (.int .i64 l[i].1) ∧ w.cell? ⟨b, off + i * 2 + 1, none⟩ = some (.int .i64 l[i].2)
theorem Acts2At.below {w w' : World} {a : Option Addr} {l : List Ac2} (h : Acts2At w a l) (hb : Below w.heap.size w w') : Acts2At w' a l := fun i hi => by
  obtain ⟨b, off, h1, h2, h3⟩ := h i hi
  exact ⟨b, off, h1, cell_below h2 hb, cell_below h3 hb⟩
def Acts3At (w : World) (a : Option Addr) (l : List Ac3) : Prop :=
  ∀ i (h : i < l.length), ∃ b off, a = some ⟨b, off, none⟩ ∧ w.cell? ⟨b, off + i * 3, none⟩ = some (.int .i64 l[i].1) ∧ w.cell? ⟨b, off + i * 3 + 1, none⟩ = some (.int .i64 l[i].2.1) ∧ w.cell? ⟨b, off + i * 3 + 2, none⟩ = some (.int .i64 l[i].2.2)
theorem Acts3At.below {w w' : World} {a : Option Addr} {l : List Ac3} (h : Acts3At w a l) (hb : Below w.heap.size w w') : Acts3At w' a l := fun i hi => by
  obtain ⟨b, off, h1, h2, h3, h4⟩ := h i hi
  exact ⟨b, off, h1, cell_below h2 hb, cell_below h3 hb, cell_below h4 hb⟩
def i64ok (z : Int) : Prop := -9223372036854775808 ≤ z ∧ z ≤ 9223372036854775807
def IsActs2 (w : World) (a : Option Addr) (len cap : Nat) (l : List Ac2) : Prop := len = l.length ∧ len ≤ cap ∧ cap ≤ maxLen ∧ Acts2At w a l ∧ ∀ r ∈ l, i64ok r.1 ∧ i64ok r.2
def IsActs3 (w : World) (a : Option Addr) (len cap : Nat) (l : List Ac3) : Prop := len = l.length ∧ len ≤ cap ∧ cap ≤ maxLen ∧ Acts3At w a l ∧ ∀ r ∈ l, i64ok r.1 ∧ i64ok r.2.1 ∧ i64ok r.2.2
theorem list_of {α : Type} {n : Nat} {p : Nat → α → Prop} (h : ∀ i, i < n → ∃ x, p i x) : ∃ l : List α, l.length = n ∧ ∀ i (h : i < l.length), p i l[i] := by
  have hv : ∀ i : Fin n, ∃ x, p i.val x := fun i => h i.val i.isLt
  refine ⟨List.ofFn fun i : Fin n => Classical.choose (hv i), by simp, fun i h => ?_⟩
  simp at h
  simp only [List.getElem_ofFn]
  exact Classical.choose_spec (hv ⟨i, h⟩)
theorem isActs2_of {H : Type} {enc : TypeId × Value → H} {P : Program} {w : World} {base : Nat} {spare : Nat → Bool} {held : Bool} {t e : TypeId} {f0 f1 : Field} {fuel : Nat} {a : Option Addr} {len cap : Nat} {x : DataW H × List MemPlace}
    (ht : P.underlying t = some (.slice e)) (he : P.underlying e = some (.struct #[f0, f1])) (ce : P.cellsOf e = 2) (o0 : f0.offset = 0) (o1 : f1.offset = 1) (c0 : P.cellsOf f0.type = 1) (c1 : P.cellsOf f1.type = 1)
    (t0 : P.underlying f0.type = some (.int .i64)) (t1 : P.underlying f1.type = some (.int .i64))
    (h : DataW.trod enc P w base spare held fuel t [.slice a len cap] = some x) : ∃ l, IsActs2 w a len cap l := by
  rcases open_slice_pairs ht he ce o0 o1 c0 c1 h with ⟨hcs, _⟩ | ⟨b, l', c', m, n, V0, V1, D0, D1, P0, P1, hcs, _, hl, hm, hmm, _, hi⟩
  · simp at hcs
    obtain ⟨rfl, rfl, rfl⟩ := hcs
    exact ⟨[], rfl, Nat.le_refl _, Nat.zero_le _, fun i hi => by simp at hi, fun r hr => by simp at hr⟩
  · simp at hcs
    obtain ⟨rfl, rfl, rfl⟩ := hcs
    have hlm : len ≤ m := by rw [hmm]; split <;> omega
    obtain ⟨l, hll, hat⟩ := list_of (p := fun i (r : Ac2) => w.cell? (b.add (i * 2)) = some (.int .i64 r.1) ∧ w.cell? (b.add (i * 2 + 1)) = some (.int .i64 r.2) ∧ i64ok r.1 ∧ i64ok r.2) (n := len) (fun i hil => by
      obtain ⟨g0, g1, g2, g3⟩ := hi i (by omega)
      obtain ⟨z0, e0, _, w0⟩ := DataW.trod_int t0 g2
      obtain ⟨z1, e1, _, w1⟩ := DataW.trod_int t1 g3
      refine ⟨(z0, z1), ?_, ?_, bounds_i64 w0, bounds_i64 w1⟩
      · rw [g0]; simpa using e0
      · rw [g1]; simpa using e1)
    refine ⟨l, hll.symm, hl, hm, fun i h => ?_, fun r hr => ?_⟩
    · obtain ⟨g0, g1, _⟩ := hat i h
      obtain ⟨bb, off, spot⟩ := b
      obtain rfl : spot = none := by have := (hat 0 (by omega)).1; simpa [Addr.add] using World.cell?_spot this
      rw [Go.WideShapes.add_plain] at g0 g1
      exact ⟨bb, off, rfl, g0, by rw [Nat.add_assoc]; exact g1⟩
    · obtain ⟨i, h, rfl⟩ := List.mem_iff_getElem.1 hr
      exact (hat i h).2.2
theorem isActs3_of {H : Type} {enc : TypeId × Value → H} {P : Program} {w : World} {base : Nat} {spare : Nat → Bool} {held : Bool} {t e : TypeId} {f0 f1 f2 : Field} {fuel : Nat} {a : Option Addr} {len cap : Nat} {x : DataW H × List MemPlace}
    (ht : P.underlying t = some (.slice e)) (he : P.underlying e = some (.struct #[f0, f1, f2])) (ce : P.cellsOf e = 3) (o0 : f0.offset = 0) (o1 : f1.offset = 1) (o2 : f2.offset = 2) (c0 : P.cellsOf f0.type = 1) (c1 : P.cellsOf f1.type = 1) (c2 : P.cellsOf f2.type = 1)
    (t0 : P.underlying f0.type = some (.int .i64)) (t1 : P.underlying f1.type = some (.int .i64)) (t2 : P.underlying f2.type = some (.int .i64))
    (h : DataW.trod enc P w base spare held fuel t [.slice a len cap] = some x) : ∃ l, IsActs3 w a len cap l := by
  rcases open_slice ht h with ⟨hcs, _⟩ | ⟨b, l', c', m, n, D, Pl, hcs, _, hl, hm, hmm, _, hi⟩
  · simp at hcs
    obtain ⟨rfl, rfl, rfl⟩ := hcs
    exact ⟨[], rfl, Nat.le_refl _, Nat.zero_le _, fun i hi => by simp at hi, fun r hr => by simp at hr⟩
  · simp at hcs
    obtain ⟨rfl, rfl, rfl⟩ := hcs
    have hlm : len ≤ m := by rw [hmm]; split <;> omega
    obtain ⟨l, hll, hat⟩ := list_of (p := fun i (r : Ac3) => w.cell? (b.add (i * 3)) = some (.int .i64 r.1) ∧ w.cell? (b.add (i * 3 + 1)) = some (.int .i64 r.2.1) ∧ w.cell? (b.add (i * 3 + 2)) = some (.int .i64 r.2.2) ∧ i64ok r.1 ∧ i64ok r.2.1 ∧ i64ok r.2.2) (n := len) (fun i hil => by
      obtain ⟨cs', h1, h2⟩ := hi i (by omega)
      rw [ce] at h1
      obtain ⟨_, hlen, hcell⟩ := World.cells?_some h1
      obtain ⟨xs, k, hk, hxy, _, hxl, hf⟩ := DataW.trod_struct he h2
      match xs, hxl, cs', hlen with
      | [y0, y1, y2], _, [v0, v1, v2], _ =>
        have g0 := hf 0 f0 rfl
        have g1 := hf 1 f1 rfl
        have g2 := hf 2 f2 rfl
        simp [o0, o1, o2, c0, c1, c2] at g0 g1 g2
        have e0 := hcell 0 (by omega)
        have e1 := hcell 1 (by omega)
        have e2 := hcell 2 (by omega)
        rw [Addr.add_add] at e0 e1 e2
        obtain ⟨z0, q0, _, w0⟩ := DataW.trod_int t0 g0
        obtain ⟨z1, q1, _, w1⟩ := DataW.trod_int t1 g1
        obtain ⟨z2, q2, _, w2⟩ := DataW.trod_int t2 g2
        simp at q0 q1 q2
        subst q0 q1 q2
        exact ⟨(z0, z1, z2), by simpa using e0, by simpa using e1, by simpa using e2, bounds_i64 w0, bounds_i64 w1, bounds_i64 w2⟩)
    refine ⟨l, hll.symm, hl, hm, fun i h => ?_, fun r hr => ?_⟩
    · obtain ⟨g0, g1, g2, _⟩ := hat i h
      obtain ⟨bb, off, spot⟩ := b
      obtain rfl : spot = none := by have := (hat 0 (by omega)).1; simpa [Addr.add] using World.cell?_spot this
      rw [Go.WideShapes.add_plain] at g0 g1 g2
      exact ⟨bb, off, rfl, g0, by rw [Nat.add_assoc]; exact g1, by rw [Nat.add_assoc]; exact g2⟩
    · obtain ⟨i, h, rfl⟩ := List.mem_iff_getElem.1 hr
      exact (hat i h).2.2.2
/-- An array of four numbers by value. -/
theorem open_arr4 {H : Type} {enc : TypeId × Value → H} {P : Program} {W : World} {base b0 : Nat} {sp : Nat → Bool} {held : Bool} {r : Reach} {k e : TypeId} {v : Value} {d : DataW H} {ps : List MemPlace}
    (hu : P.underlying k = some (.array 4 e)) (he : P.underlying e = some (.int .i64)) (one : P.cellsOf e = 1) (size : P.cellsOf k = 4) (hv : Value.okWide P W r b0 k v) (hd : DataW.Trod enc P W base sp held k v d ps) :
    ∃ x0 x1 x2 x3 : Int, v = .agg #[.int .i64 x0, .int .i64 x1, .int .i64 x2, .int .i64 x3] ∧ i64ok x0 ∧ i64ok x1 ∧ i64ok x2 ∧ i64ok x3 := by
  obtain ⟨xs, rfl, hn⟩ : ∃ xs : Array Value, v = .agg xs ∧ xs.size = 4 := by
    simp only [Value.okWide, hu] at hv
    obtain ⟨cs, h1, h2, _⟩ := hv
    exact ⟨cs, h1, by rw [h2, size]⟩
  obtain ⟨fuel, hf⟩ := hd
  cases fuel with
  | zero => simp [DataW.trod] at hf
  | succ m =>
    rw [DataW.trod_step] at hf
    unfold DataW.trodStep at hf
    simp only [hu, Value.cells] at hf
    rw [if_pos (by rw [size]; simpa using hn)] at hf
    simp only [Option.map_eq_some_iff] at hf
    obtain ⟨ys, hy, e1⟩ := hf
    obtain ⟨xs⟩ := xs
    match xs, hn with
    | [c0, c1, c2, c3], _ =>
      rw [one] at hy
      simp [-Prod.exists, List.range_succ, bind, Option.bind_eq_some_iff] at hy
      obtain ⟨y0, h0, _, ⟨y1, h1, _, ⟨y2, h2, _, ⟨y3, h3, _⟩, _⟩, _⟩, _⟩ := hy
      obtain ⟨z0, q0, _, w0⟩ := DataW.trod_int he h0
      obtain ⟨z1, q1, _, w1⟩ := DataW.trod_int he h1
      obtain ⟨z2, q2, _, w2⟩ := DataW.trod_int he h2
      obtain ⟨z3, q3, _, w3⟩ := DataW.trod_int he h3
      simp at q0 q1 q2 q3
      subst q0 q1 q2 q3
      exact ⟨z0, z1, z2, z3, rfl, bounds_i64 w0, bounds_i64 w1, bounds_i64 w2, bounds_i64 w3⟩
end Go.Proofs.Ytkjhaofodlpnmaa
