/-
  Slices of structs of four numbers of whatever kinds, arrays of three and of eight numbers, that came in. No program is named here.
-/
import Derived.Test.YtjanangcfgmdeaaDoorActsIn
import Derived.Deep.SlicePairs
import Derived.WideKeyArr2
import Derived.Lib.SmallJoins
import Derived.Laws.BitsAllLaws
open Go Go.RowKit Go.Deep Go.WideShapes Go.ChangeShapes
set_option linter.unusedVariables false
namespace Go.Proofs.YtjanangcfgmdeaaDoor
abbrev Ac4 := Int × Int × Int × Int
def ActsK4At (k0 k1 k2 k3 : IntKind) (w : World) (a : Option Addr) (l : List Ac4) : Prop :=
  ∀ i (h : i < l.length), ∃ b off, a = some ⟨b, off, none⟩ ∧ w.cell? ⟨b, off + i * 4, none⟩ = some (.int k0 l[i].1) ∧ w.cell? ⟨b, off + i * 4 + 1, none⟩ = some (.int k1 l[i].2.1) ∧ w.cell? ⟨b, off + i * 4 + 2, none⟩ = some (.int k2 l[i].2.2.1) ∧ w.cell? ⟨b, off + i * 4 + 3, none⟩ = some (.int k3 l[i].2.2.2)
theorem ActsK4At.below {k0 k1 k2 k3 : IntKind} {w w' : World} {a : Option Addr} {l : List Ac4} (h : ActsK4At k0 k1 k2 k3 w a l) (hb : Below w.heap.size w w') : ActsK4At k0 k1 k2 k3 w' a l := fun i hi => by
  obtain ⟨b, off, h1, h2, h3, h4, h5⟩ := h i hi
  exact ⟨b, off, h1, cell_below h2 hb, cell_below h3 hb, cell_below h4 hb, cell_below h5 hb⟩
def IsActsK4 (k0 k1 k2 k3 : IntKind) (w : World) (a : Option Addr) (len cap : Nat) (l : List Ac4) : Prop := len = l.length ∧ len ≤ cap ∧ cap ≤ maxLen ∧ ActsK4At k0 k1 k2 k3 w a l ∧ ∀ r ∈ l, (Lit.int k0 r.1).wf = true ∧ (Lit.int k1 r.2.1).wf = true ∧ (Lit.int k2 r.2.2.1).wf = true ∧ (Lit.int k3 r.2.2.2).wf = true
theorem list_of4 {α : Type} {n : Nat} {p : Nat → α → Prop} (h : ∀ i, i < n → ∃ x, p i x) : ∃ l : List α, l.length = n ∧ ∀ i (h : i < l.length), p i l[i] := by
  have hv : ∀ i : Fin n, ∃ x, p i.val x := fun i => h i.val i.isLt
  refine ⟨List.ofFn fun i : Fin n => Classical.choose (hv i), by simp, fun i h => ?_⟩
  simp at h
  simp only [List.getElem_ofFn]
  exact Classical.choose_spec (hv ⟨i, h⟩)
theorem isActsK4_of {H : Type} {enc : TypeId × Value → H} {k0 k1 k2 k3 : IntKind} {P : Program} {w : World} {base : Nat} {spare : Nat → Bool} {held : Bool} {t e : TypeId} {f0 f1 f2 f3 : Field} {fuel : Nat} {a : Option Addr} {len cap : Nat} {x : DataW H × List MemPlace}
    (ht : P.underlying t = some (.slice e)) (he : P.underlying e = some (.struct #[f0, f1, f2, f3])) (ce : P.cellsOf e = 4) (o0 : f0.offset = 0) (o1 : f1.offset = 1) (o2 : f2.offset = 2) (o3 : f3.offset = 3) (c0 : P.cellsOf f0.type = 1) (c1 : P.cellsOf f1.type = 1) (c2 : P.cellsOf f2.type = 1) (c3 : P.cellsOf f3.type = 1)
    (t0 : P.underlying f0.type = some (.int k0)) (t1 : P.underlying f1.type = some (.int k1)) (t2 : P.underlying f2.type = some (.int k2)) (t3 : P.underlying f3.type = some (.int k3))
    (h : DataW.trod enc P w base spare held fuel t [.slice a len cap] = some x) : ∃ l, IsActsK4 k0 k1 k2 k3 w a len cap l := by
  rcases open_slice ht h with ⟨hcs, _⟩ | ⟨b, l', c', m, n, D, Pl, hcs, _, hl, hm, hmm, _, hi⟩
  · simp at hcs
    obtain ⟨rfl, rfl, rfl⟩ := hcs
    exact ⟨[], rfl, Nat.le_refl _, Nat.zero_le _, fun i hi => by simp at hi, fun r hr => by simp at hr⟩
  · simp at hcs
    obtain ⟨rfl, rfl, rfl⟩ := hcs
    have hlm : len ≤ m := by rw [hmm]; split <;> omega
    obtain ⟨l, hll, hat⟩ := list_of4 (p := fun i (r : Ac4) => w.cell? (b.add (i * 4)) = some (.int k0 r.1) ∧ w.cell? (b.add (i * 4 + 1)) = some (.int k1 r.2.1) ∧ w.cell? (b.add (i * 4 + 2)) = some (.int k2 r.2.2.1) ∧ w.cell? (b.add (i * 4 + 3)) = some (.int k3 r.2.2.2) ∧ (Lit.int k0 r.1).wf = true ∧ (Lit.int k1 r.2.1).wf = true ∧ (Lit.int k2 r.2.2.1).wf = true ∧ (Lit.int k3 r.2.2.2).wf = true) (n := len) (fun i hil => by
      obtain ⟨cs', h1, h2⟩ := hi i (by omega)
      rw [ce] at h1
      obtain ⟨_, hlen, hcell⟩ := World.cells?_some h1
      obtain ⟨xs, k, hk, hxy, _, hxl, hf⟩ := DataW.trod_struct he h2
      match xs, hxl, cs', hlen with
      | [y0, y1, y2, y3], _, [v0, v1, v2, v3], _ =>
        have g0 := hf 0 f0 rfl
        have g1 := hf 1 f1 rfl
        have g2 := hf 2 f2 rfl
        have g3 := hf 3 f3 rfl
        simp [o0, o1, o2, o3, c0, c1, c2, c3] at g0 g1 g2 g3
        have e0 := hcell 0 (by omega)
        have e1 := hcell 1 (by omega)
        have e2 := hcell 2 (by omega)
        have e3 := hcell 3 (by omega)
        rw [Addr.add_add] at e0 e1 e2 e3
        obtain ⟨z0, q0, _, w0⟩ := DataW.trod_int t0 g0
        obtain ⟨z1, q1, _, w1⟩ := DataW.trod_int t1 g1
        obtain ⟨z2, q2, _, w2⟩ := DataW.trod_int t2 g2
        obtain ⟨z3, q3, _, w3⟩ := DataW.trod_int t3 g3
        simp at q0 q1 q2 q3
        subst q0 q1 q2 q3
        exact ⟨(z0, z1, z2, z3), by simpa using e0, by simpa using e1, by simpa using e2, by simpa using e3, w0, w1, w2, w3⟩)
    refine ⟨l, hll.symm, hl, hm, fun i h => ?_, fun r hr => ?_⟩
    · obtain ⟨g0, g1, g2, g3, _⟩ := hat i h
      obtain ⟨bb, off, spot⟩ := b
      obtain rfl : spot = none := by have := (hat 0 (by omega)).1; simpa [Addr.add] using World.cell?_spot this
      rw [Go.WideShapes.add_plain] at g0 g1 g2 g3
      exact ⟨bb, off, rfl, g0, by rw [Nat.add_assoc]; exact g1, by rw [Nat.add_assoc]; exact g2, by rw [Nat.add_assoc]; exact g3⟩
    · obtain ⟨i, h, rfl⟩ := List.mem_iff_getElem.1 hr
      exact (hat i h).2.2.2.2
/-- An array of 3 numbers by value. -/
theorem open_arr3 {H : Type} {enc : TypeId × Value → H} {P : Program} {W : World} {base b0 : Nat} {sp : Nat → Bool} {held : Bool} {r : Reach} {k e : TypeId} {v : Value} {d : DataW H} {ps : List MemPlace}
    (hu : P.underlying k = some (.array 3 e)) (he : P.underlying e = some (.int .i64)) (one : P.cellsOf e = 1) (size : P.cellsOf k = 3) (hv : Value.okWide P W r b0 k v) (hd : DataW.Trod enc P W base sp held k v d ps) :
    ∃ x0 x1 x2 : Int, v = .agg #[.int .i64 x0, .int .i64 x1, .int .i64 x2] ∧ i64ok x0 ∧ i64ok x1 ∧ i64ok x2 := by
  obtain ⟨xs, rfl, hn⟩ : ∃ xs : Array Value, v = .agg xs ∧ xs.size = 3 := by
    simp only [Value.okWide, hu] at hv
    obtain ⟨cs, h1, h2, _⟩ := hv
    exact ⟨cs, h1, by rw [h2, size]⟩
  obtain ⟨fuel, hf⟩ := hd
  cases fuel with
  | zero => simp [DataW.trod] at hf
  | succ m =>
    rw [DataW.trod_step] at hf
    unfold DataW.trodStep at hf
    simp only [hu, Value.cells] at hf
    rw [if_pos (by rw [size]; simpa using hn)] at hf
    simp only [Option.map_eq_some_iff] at hf
    obtain ⟨ys, hy, e1⟩ := hf
    obtain ⟨xs⟩ := xs
    match xs, hn with
    | [c0, c1, c2], _ =>
      rw [one] at hy
      simp [-Prod.exists, List.range_succ, bind, Option.bind_eq_some_iff] at hy
      obtain ⟨y0, h0, _, ⟨y1, h1, _, ⟨y2, h2, _⟩, _⟩, _⟩ := hy
      obtain ⟨z0, q0, _, w0⟩ := DataW.trod_int he h0
      obtain ⟨z1, q1, _, w1⟩ := DataW.trod_int he h1
      obtain ⟨z2, q2, _, w2⟩ := DataW.trod_int he h2
      simp at q0 q1 q2
      subst q0 q1 q2
      exact ⟨z0, z1, z2, rfl, bounds_i64 w0, bounds_i64 w1, bounds_i64 w2⟩
/-- An array of 8 numbers by value. -/
theorem open_arr8 {H : Type} {enc : TypeId × Value → H} {P : Program} {W : World} {base b0 : Nat} {sp : Nat → Bool} {held : Bool} {r : Reach} {k e : TypeId} {v : Value} {d : DataW H} {ps : List MemPlace}
    (hu : P.underlying k = some (.array 8 e)) (he : P.underlying e = some (.int .i64)) (one : P.cellsOf e = 1) (size : P.cellsOf k = 8) (hv : Value.okWide P W r b0 k v) (hd : DataW.Trod enc P W base sp held k v d ps) :
    ∃ x0 x1 x2 x3 x4 x5 x6 x7 : Int, v = .agg #[.int .i64 x0, .int .i64 x1, .int .i64 x2, .int .i64 x3, .int .i64 x4, .int .i64 x5, .int .i64 x6, .int .i64 x7] ∧ i64ok x0 ∧ i64ok x1 ∧ i64ok x2 ∧ i64ok x3 ∧ i64ok x4 ∧ i64ok x5 ∧ i64ok x6 ∧ i64ok x7 := by
  obtain ⟨xs, rfl, hn⟩ : ∃ xs : Array Value, v = .agg xs ∧ xs.size = 8 := by
    simp only [Value.okWide, hu] at hv
    obtain ⟨cs, h1, h2, _⟩ := hv
    exact ⟨cs, h1, by rw [h2, size]⟩
  obtain ⟨fuel, hf⟩ := hd
  cases fuel with
  | zero => simp [DataW.trod] at hf
  | succ m =>
    rw [DataW.trod_step] at hf
    unfold DataW.trodStep at hf
    simp only [hu, Value.cells] at hf
    rw [if_pos (by rw [size]; simpa using hn)] at hf
    simp only [Option.map_eq_some_iff] at hf
    obtain ⟨ys, hy, e1⟩ := hf
    obtain ⟨xs⟩ := xs
    match xs, hn with
    | [c0, c1, c2, c3, c4, c5, c6, c7], _ =>
      rw [one] at hy
      simp [-Prod.exists, List.range_succ, bind, Option.bind_eq_some_iff] at hy
      obtain ⟨y0, h0, _, ⟨y1, h1, _, ⟨y2, h2, _, ⟨y3, h3, _, ⟨y4, h4, _, ⟨y5, h5, _, ⟨y6, h6, _, ⟨y7, h7, _⟩, _⟩, _⟩, _⟩, _⟩, _⟩, _⟩, _⟩ := hy
      obtain ⟨z0, q0, _, w0⟩ := DataW.trod_int he h0
      obtain ⟨z1, q1, _, w1⟩ := DataW.trod_int he h1
      obtain ⟨z2, q2, _, w2⟩ := DataW.trod_int he h2
      obtain ⟨z3, q3, _, w3⟩ := DataW.trod_int he h3
      obtain ⟨z4, q4, _, w4⟩ := DataW.trod_int he h4
      obtain ⟨z5, q5, _, w5⟩ := DataW.trod_int he h5
      obtain ⟨z6, q6, _, w6⟩ := DataW.trod_int he h6
      obtain ⟨z7, q7, _, w7⟩ := DataW.trod_int he h7
      simp at q0 q1 q2 q3 q4 q5 q6 q7
      subst q0 q1 q2 q3 q4 q5 q6 q7
      exact ⟨z0, z1, z2, z3, z4, z5, z6, z7, rfl, bounds_i64 w0, bounds_i64 w1, bounds_i64 w2, bounds_i64 w3, bounds_i64 w4, bounds_i64 w5, bounds_i64 w6, bounds_i64 w7⟩
end Go.Proofs.YtjanangcfgmdeaaDoor
