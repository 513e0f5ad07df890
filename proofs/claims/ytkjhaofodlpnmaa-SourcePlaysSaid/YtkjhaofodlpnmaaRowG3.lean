/-
  append(none, s...), s whatever fits: a slice is cloned. No program is named here.
-/
import Derived.Test.YtkjhaofodlpnmaaRowG2
open Go Go.RowKit
set_option linter.unusedVariables false
namespace Go.Proofs.Ytkjhaofodlpnmaa
theorem append_none {P : Program} {w : World} {s by_ : Nat} (t ty e : TypeId) (i : TypeInfo) (z : Value) (ht : P.underlying t = some (.slice e)) (hi : P.info? e = some i) (hz : i.zero = some z) (hsize : i.size = s) (hby : i.bytes = by_) (hzs : z.cells.size = s) (hs0 : 0 < s)
    {g : Nat} (hg : g < w.heap.size) {b : Option Addr} {c m : Nat} {ds : List Value} (hb : CellsAt w b ds) (hd : ds.length = m * s) (hone : ∀ u ∈ ds, u.oneCell' = true) (hm : m ≤ maxLen) (h47 : m * by_ ≤ 140737488355328) (ha : (w.cell? ⟨g, 0, none⟩) = none) :
    ∃ a' cap' w', (Builtin.append_ #[t, t] ty #[.slice (some ⟨g, 0, none⟩) 0 0, .slice b m c]).run P w = .ok (.slice a' m cap') w' ∧ RowG s w' a' cap' m ds ∧ Chg [g] w w' ∧ ∀ x ∈ blk a', x = g ∨ w.heap.size ≤ x := by
  by_cases hm0 : m = 0
  · subst hm0
    have hdn : ds = [] := List.length_eq_zero_iff.1 (by rw [hd]; simp)
    subst hdn
    refine ⟨some ⟨g, 0, none⟩, 0, w, ?_, RowG.zero hg, Chg.refl _ _, fun x hx => .inl (by simpa [blk] using hx)⟩
    cases b with
    | none => simp [Builtin.append_, run_underlying ht, sizeOf, typeInfo, hi, Builtin.lenOf, Builtin.firstCells, storeCells]
    | some ad => simp [Builtin.append_, run_underlying ht, sizeOf, typeInfo, hi, Builtin.lenOf, Builtin.firstCells, storeCells, loadCells, loadCellsFrom]
  · cases b with
    | none =>
      exfalso
      have : 0 < ds.length := by rw [hd]; exact Nat.mul_pos (by omega) hs0
      obtain ⟨_, _, h1, _⟩ := hb 0 _ (List.getElem?_eq_getElem this)
      cases h1
    | some ad =>
      have hnews : ∀ j u, ds[j]? = some u → w.cell? (ad.add j) = some u := fun j u hj => by
        obtain ⟨b, off, h1, h2⟩ := hb j u hj
        cases h1
        rw [Addr.add_lit, h2]
      obtain ⟨v', w', hr, r1, r2⟩ := run_append_arg_grows (P := P) w t ty e i z s by_ ht hi hz hsize hby hzs hs0 ⟨g, 0, none⟩ 0 0 [] (by simp) (fun j u hj => by simp at hj) ad m c ds hd hnews (by omega) (by unfold maxLen at hm; unfold maxLen; omega) (by simpa using h47)
      simp only [List.nil_append, Nat.zero_add] at r1
      obtain ⟨a', cap', rfl, hrow, hbase⟩ := RowG.of_own r1
      exact ⟨a', cap', w', hr, by simpa using hrow, (grownBy_chg r2).mono (by simp), fun x hx => .inr (hbase x hx)⟩
theorem wpList_append_none {P : Program} {w : World} {ops : Array Oper} {rest : List Oper} {o : Oper} {ac : Act} {Q : Exit → Act → World → Prop} {s by_ : Nat} (hgd : o.guard = none) (sl x : Operand) (t : TypeId)
    (ho : o.op = .call { callee := .builtin .append, args := #[sl, x], argTypes := #[t, t] }) (e : TypeId) (i : TypeInfo) (z : Value) (ht : P.underlying t = some (.slice e)) (hi : P.info? e = some i) (hz : i.zero = some z) (hsize : i.size = s) (hby : i.bytes = by_) (hzs : z.cells.size = s) (hs0 : 0 < s)
    {g : Nat} {b : Option Addr} {c m : Nat} {ds : List Value} (hs : ac.eval sl = .slice (some ⟨g, 0, none⟩) 0 0) (hx : ac.eval x = .slice b m c) (hg : g < w.heap.size) (hb : CellsAt w b ds) (hd : ds.length = m * s) (hone : ∀ u ∈ ds, u.oneCell' = true) (hm : m ≤ maxLen) (h47 : m * by_ ≤ 140737488355328) (ha : (w.cell? ⟨g, 0, none⟩) = none)
    (h : ∀ a' cap' w', RowG s w' a' cap' m ds → Chg [g] w w' → (∀ x ∈ blk a', x = g ∨ w.heap.size ≤ x) → wpList P ops Q rest (ac.put o.dst (.slice a' m cap')) w') : wpList P ops Q (o :: rest) ac w := by
  refine wpList_plain hgd fun K hK => ?_
  obtain ⟨a', cap', w', hr, h2, h3, h4⟩ := append_none (P := P) (w := w) t o.type e i z ht hi hz hsize hby hzs hs0 hg hb (c := c) hd hone hm h47 ha
  unfold Oper.wp execOp
  simp only [ho, resolve, invoke, builtin, Sem.run_bind, Sem.run_pure, Result.andThen_ok, List.map_toArray, List.map_cons, List.map_nil, hs, hx, hr]
  exact hK _ _ (h a' cap' w' h2 h3 h4)
end Go.Proofs.Ytkjhaofodlpnmaa
