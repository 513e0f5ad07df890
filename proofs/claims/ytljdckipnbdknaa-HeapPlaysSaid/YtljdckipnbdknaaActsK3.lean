/-
  Slices of structs of three numbers of whatever kinds, that came in. No program is named here.
-/
import Derived.Test.YtljdckipnbdknaaIRow
import Derived.Deep.SlicePairs
import Derived.WideKeyArr2
import Derived.Lib.SmallJoins
import Derived.Laws.BitsAllLaws
open Go Go.RowKit Go.Deep Go.WideShapes Go.ChangeShapes
set_option linter.unusedVariables false
namespace Go.Proofs.Ytljdckipnbdknaa
abbrev Ac3 := Int × Int × Int
def ActsK3At (k0 k1 k2 : IntKind) (w : World) (a : Option Addr) (l : List Ac3) : Prop :=
  ∀ i (h : i < l.length), ∃ b off, a = some ⟨b, off, none⟩ ∧ w.cell? ⟨b, off + i * 3, none⟩ = some (.int k0 l[i].1) ∧ w.cell? ⟨b, off + i * 3 + 1, none⟩ = some (.int k1 l[i].2.1) ∧ w.cell? ⟨b, off + i * 3 + 2, none⟩ = some (.int k2 l[i].2.2)
theorem ActsK3At.below {k0 k1 k2 : IntKind} {w w' : World} {a : Option Addr} {l : List Ac3} (h : ActsK3At k0 k1 k2 w a l) (hb : Below w.heap.size w w') : ActsK3At k0 k1 k2 w' a l := fun i hi => by
  obtain ⟨b, off, h1, h2, h3, h4⟩ := h i hi
  exact ⟨b, off, h1, cell_below h2 hb, cell_below h3 hb, cell_below h4 hb⟩
def IsActsK3 (k0 k1 k2 : IntKind) (w : World) (a : Option Addr) (len cap : Nat) (l : List Ac3) : Prop := len = l.length ∧ len ≤ cap ∧ cap ≤ maxLen ∧ ActsK3At k0 k1 k2 w a l ∧ ∀ r ∈ l, (Lit.int k0 r.1).wf = true ∧ (Lit.int k1 r.2.1).wf = true ∧ (Lit.int k2 r.2.2).wf = true
theorem list_of {α : Type} {n : Nat} {p : Nat → α → Prop} (h : ∀ i, i < n → ∃ x, p i x) : ∃ l : List α, l.length = n ∧ ∀ i (h : i < l.length), p i l[i] := by
  have hv : ∀ i : Fin n, ∃ x, p i.val x := fun i => h i.val i.isLt
  refine ⟨List.ofFn fun i : Fin n => Classical.choose (hv i), by simp, fun i h => ?_⟩
  simp at h
  simp only [List.getElem_ofFn]
  exact Classical.choose_spec (hv ⟨i, h⟩)
theorem isActsK3_of {H : Type} {enc : TypeId × Value → H} {k0 k1 k2 : IntKind} {P : Program} {w : World} {base : Nat} {spare : Nat → Bool} {held : Bool} {t e : TypeId} {f0 f1 f2 : Field} {fuel : Nat} {a : Option Addr} {len cap : Nat} {x : DataW H × List MemPlace}
    (ht : P.underlying t = some (.slice e)) (he : P.underlying e = some (.struct #[f0, f1, f2])) (ce : P.cellsOf e = 3) (o0 : f0.offset = 0) (o1 : f1.offset = 1) (o2 : f2.offset = 2) (c0 : P.cellsOf f0.type = 1) (c1 : P.cellsOf f1.type = 1) (c2 : P.cellsOf f2.type = 1)
    (t0 : P.underlying f0.type = some (.int k0)) (t1 : P.underlying f1.type = some (.int k1)) (t2 : P.underlying f2.type = some (.int k2))
    (h : DataW.trod enc P w base spare held fuel t [.slice a len cap] = some x) : ∃ l, IsActsK3 k0 k1 k2 w a len cap l := by
  rcases open_slice ht h with ⟨hcs, _⟩ | ⟨b, l', c', m, n, D, Pl, hcs, _, hl, hm, hmm, _, hi⟩
  · simp at hcs
    obtain ⟨rfl, rfl, rfl⟩ := hcs
    exact ⟨[], rfl, Nat.le_refl _, Nat.zero_le _, fun i hi => by simp at hi, fun r hr => by simp at hr⟩
  · simp at hcs
    obtain ⟨rfl, rfl, rfl⟩ := hcs
    have hlm : len ≤ m := by rw [hmm]; split <;> omega
    obtain ⟨l, hll, hat⟩ := list_of (p := fun i (r : Ac3) => w.cell? (b.add (i * 3)) = some (.int k0 r.1) ∧ w.cell? (b.add (i * 3 + 1)) = some (.int k1 r.2.1) ∧ w.cell? (b.add (i * 3 + 2)) = some (.int k2 r.2.2) ∧ (Lit.int k0 r.1).wf = true ∧ (Lit.int k1 r.2.1).wf = true ∧ (Lit.int k2 r.2.2).wf = true) (n := len) (fun i hil => by
      obtain ⟨cs', h1, h2⟩ := hi i (by omega)
      rw [ce] at h1
      obtain ⟨_, hlen, hcell⟩ := World.cells?_some h1
      obtain ⟨xs, k, hk, hxy, _, hxl, hf⟩ := DataW.trod_struct he h2
      match xs, hxl, cs', hlen with
      | [y0, y1, y2], _, [v0, v1, v2], _ =>
        have g0 := hf 0 f0 rfl
        have g1 := hf 1 f1 rfl
        have g2 := hf 2 f2 rfl
        simp [o0, o1, o2, c0, c1, c2] at g0 g1 g2
        have e0 := hcell 0 (by omega)
        have e1 := hcell 1 (by omega)
        have e2 := hcell 2 (by omega)
        rw [Addr.add_add] at e0 e1 e2
        obtain ⟨z0, q0, _, w0⟩ := DataW.trod_int t0 g0
        obtain ⟨z1, q1, _, w1⟩ := DataW.trod_int t1 g1
        obtain ⟨z2, q2, _, w2⟩ := DataW.trod_int t2 g2
        simp at q0 q1 q2
        subst q0 q1 q2
        exact ⟨(z0, z1, z2), by simpa using e0, by simpa using e1, by simpa using e2, w0, w1, w2⟩)
    refine ⟨l, hll.symm, hl, hm, fun i h => ?_, fun r hr => ?_⟩
    · obtain ⟨g0, g1, g2, _⟩ := hat i h
      obtain ⟨bb, off, spot⟩ := b
      obtain rfl : spot = none := by have := (hat 0 (by omega)).1; simpa [Addr.add] using World.cell?_spot this
      rw [Go.WideShapes.add_plain] at g0 g1 g2
      exact ⟨bb, off, rfl, g0, by rw [Nat.add_assoc]; exact g1, by rw [Nat.add_assoc]; exact g2⟩
    · obtain ⟨i, h, rfl⟩ := List.mem_iff_getElem.1 hr
      exact (hat i h).2.2.2
theorem and_255k (x : Int) : bits .and .i64 x 255 = x % 256 := by
  have e : (BitVec.ofInt 64 (255 : Int)).toNat = 255 := by decide
  have e2 : (BitVec.ofInt 64 x).toNat = (x % 18446744073709551616).toNat := by simp [BitVec.toNat_ofInt]
  show IntKind.i64.wrap ((BitVec.ofInt 64 x &&& BitVec.ofInt 64 (255 : Int)).toNat : Int) = _
  rw [BitVec.toNat_and, e, e2, show ∀ n : Nat, n &&& 255 = n % 256 from fun n => Nat.and_two_pow_sub_one_eq_mod n 8, IntKind.wrap_i64]
  omega
theorem small_ofk (x : Int) (m : Nat) (hm : 0 < m) : ∃ n : Nat, (bits BinOp.and IntKind.i64 x 255).tmod (m : Int) = (n : Int) ∧ n < m ∧ n ≤ 255 := by
  rw [and_255k]
  obtain ⟨k, hk⟩ : ∃ k : Nat, x % 256 = (k : Int) := ⟨(x % 256).toNat, by omega⟩
  have h1 := Nat.mod_lt k hm
  have h2 := Nat.mod_le k m
  exact ⟨k % m, by rw [hk, Int.tmod_eq_emod_of_nonneg (by omega)]; rfl, h1, by omega⟩
end Go.Proofs.Ytljdckipnbdknaa
