/-
  Rows of records as pieces of memory: read, written, appended to. No program is named here.
-/
import Derived.Test.YtdeilfnfpgjnnaaDoorRowG
open Go Go.RowKit
set_option linter.unusedVariables false
namespace Go.Proofs.YtdeilfnfpgjnnaaDoor
theorem CellsAt.int {w : World} {a : Option Addr} {l : List Int} (h : CellsAt w a (intc l)) (i : Nat) (hi : i < l.length) : ∃ b off, a = some ⟨b, off, none⟩ ∧ w.cell? ⟨b, off + i, none⟩ = some (.int .i64 l[i]) := h _ _ (intc_at l i hi)
theorem Own.rowG {w0 w : World} {As : List Asr} (h : Own w0 w As) (i : Nat) {s : Nat} {a : Option Addr} {cap n : Nat} {cs : List Value} (hi : As[i]? = some (RowGA s a cap n cs)) : RowG s w a cap n cs := by
  obtain ⟨F, ⟨_, h1⟩, _⟩ := h.fact i hi; exact h1
/-- A row is another one, of what was one's own. -/
theorem Own.rowTurn {w0 w w' : World} {As : List Asr} {s : Nat} {a a' : Option Addr} {cap cap' n n' : Nat} {cs cs' : List Value} (h : Own w0 w (RowGA s a cap n cs :: As)) (hr : RowG s w' a' cap' n' cs') (c : Chg (blk a) w w') (hf : ∀ x ∈ blk a', x ∈ blk a ∨ w.heap.size ≤ x) :
    Own w0 w' (RowGA s a' cap' n' cs' :: As) := by
  refine Own.turn (As := [RowGA s a cap n cs]) (As' := [RowGA s a' cap' n' cs']) (R := As) h (fun F hF => ?_)
  obtain ⟨rfl, h1⟩ := sep_one.1 hF
  exact ⟨blk a', sep_one.2 ⟨rfl, hr⟩, c, hf⟩
/-- A piece that is some pieces. -/
theorem Own.unfold {w0 w : World} {A : Asr} {R : List Asr} (h : Own w0 w (A :: R)) {P : List Asr → Prop} (hA : ∀ F, A.at_ w F → ∃ As, P As ∧ Sep w As F) : ∃ As, P As ∧ Own w0 w (As ++ R) := by
  obtain ⟨h1, F, ⟨F1, F2, rfl, h2, h3, h4⟩, h5⟩ := h
  obtain ⟨As, hp, hs⟩ := hA F1 h2
  exact ⟨As, hp, h1, F1 ++ F2, hs.app h4 h3, h5⟩
theorem Own.fold {w0 w : World} {A : Asr} {As R : List Asr} (h : Own w0 w (As ++ R)) (hA : ∀ F, Sep w As F → A.at_ w F) : Own w0 w (A :: R) := by
  obtain ⟨h1, F, h2, h5⟩ := h
  obtain ⟨F1, F2, rfl, h3, h4, h6⟩ := h2.split
  exact ⟨h1, F1 ++ F2, ⟨F1, F2, rfl, hA F1 h3, h4, h6⟩, h5⟩
theorem RowG.setCell {s : Nat} {w : World} {b off cap n : Nat} {cs : List Value} (h : RowG s w (some ⟨b, off, none⟩) cap n cs) (j : Nat) (v : Value) (hj : j < cs.length) : RowG s (w.setCell ⟨b, off + j, none⟩ v) (some ⟨b, off, none⟩) cap n (cs.set j v) := by
  obtain ⟨h1, h2, h3, h4⟩ := h
  rcases h4 with ⟨h0, _⟩ | ⟨b', off', hb', hlt, h5, h6⟩
  · cases h0
  · simp only [Option.some.injEq, Addr.mk.injEq, and_true] at hb'
    obtain ⟨rfl, rfl⟩ := hb'
    have hms : n * s ≤ cap * s := Nat.mul_le_mul_right _ h2
    refine ⟨by rw [List.length_set]; exact h1, h2, h3, .inr ⟨b, off, rfl, by rw [World.size_setCell]; exact hlt, fun k hk => ⟨?_, by rw [World.frozen?_setCell]; exact (h5 k hk).2⟩, fun k u hk => ?_⟩⟩
    · by_cases e : k = j
      · subst e; rw [World.cell?_setCell_same' _ _ _ (h5 k hk).1]; rfl
      · rw [World.cell?_setCell_other _ _ _ _ (by simp <;> omega)]; exact (h5 k hk).1
    · by_cases e : k = j
      · subst e
        rw [List.getElem?_set_self hj] at hk
        obtain rfl : v = u := by simpa using hk
        exact World.cell?_setCell_same' _ _ _ (h5 k (by omega)).1
      · rw [List.getElem?_set_ne (by omega)] at hk
        rw [World.cell?_setCell_other _ _ _ _ (by simp <;> omega)]; exact h6 k u hk
theorem Own.rowSet {w0 w : World} {As : List Asr} {s b off cap n : Nat} {cs : List Value} (h : Own w0 w (RowGA s (some ⟨b, off, none⟩) cap n cs :: As)) (j : Nat) (v : Value) (hj : j < cs.length) : Own w0 (w.setCell ⟨b, off + j, none⟩ v) (RowGA s (some ⟨b, off, none⟩) cap n (cs.set j v) :: As) :=
  Own.rowTurn h ((h.rowG 0 rfl).setCell j v hj) ((Chg.refl _ _).setCell _ (.inl (by simp [blk]))) (fun x hx => .inl hx)
theorem RowG.spot {s : Nat} {w : World} {b off cap n : Nat} {cs : List Value} (h : RowG s w (some ⟨b, off, none⟩) cap n cs) (j : Nat) (hj : j < cap * s) : ∃ v, w.cell? ⟨b, off + j, none⟩ = some v ∧ w.frozen? ⟨b, off + j, none⟩ = false := by
  rcases h.2.2.2 with ⟨h0, _⟩ | ⟨b', off', hb', hlt, h5, h6⟩
  · cases h0
  · simp only [Option.some.injEq, Addr.mk.injEq, and_true] at hb'
    obtain ⟨rfl, rfl⟩ := hb'
    obtain ⟨v, hv⟩ := Option.isSome_iff_exists.1 (h5 j hj).1
    exact ⟨v, hv, (h5 j hj).2⟩
/-- Cells of a row of records. -/
theorem flat_len {α : Type} (f : α → List Value) (s : Nat) (hf : ∀ x, (f x).length = s) : ∀ l : List α, (l.flatMap f).length = l.length * s
  | [] => by simp
  | x :: l => by rw [List.flatMap_cons, List.length_append, hf, flat_len f s hf l, List.length_cons, Nat.add_mul]; omega
theorem flat_at {α : Type} (f : α → List Value) (s : Nat) (hf : ∀ x, (f x).length = s) : ∀ (l : List α) (i k : Nat) (hi : i < l.length), k < s → (l.flatMap f)[i * s + k]? = (f l[i])[k]?
  | [], i, k, hi, _ => by simp at hi
  | x :: l, 0, k, _, hk => by rw [List.flatMap_cons, Nat.zero_mul, Nat.zero_add, List.getElem?_append_left (by rw [hf]; exact hk)]; rfl
  | x :: l, i + 1, k, hi, hk => by
    have ih := flat_at f s hf l i k (by simpa using hi) hk
    have e : (i + 1) * s + k = s + (i * s + k) := by rw [Nat.add_mul]; omega
    rw [List.flatMap_cons, e, List.getElem?_append_right (by rw [hf]; omega), hf, Nat.add_sub_cancel_left, ih]
    rfl
/-- A record is another one: its cells are laid one by one. -/
def setL (cs : List Value) (o : Nat) : List Value → List Value
  | [] => cs
  | v :: vs => setL (cs.set o v) (o + 1) vs
theorem setL_at : ∀ (vs : List Value) (cs : List Value) (o j : Nat), (setL cs o vs)[j]? = if o ≤ j ∧ j < o + vs.length ∧ j < cs.length then vs[j - o]? else cs[j]?
  | [], cs, o, j => by
    rw [if_neg (by simp; omega)]; rfl
  | v :: vs, cs, o, j => by
    rw [setL, setL_at vs (cs.set o v) (o + 1) j]
    simp only [List.length_set, List.length_cons]
    by_cases h : o = j
    · subst h
      rw [if_neg (by omega)]
      by_cases hl : o < cs.length
      · rw [if_pos (by omega), List.getElem?_set_self hl]; simp
      · rw [if_neg (by omega), List.getElem?_eq_none (by simp; omega), List.getElem?_eq_none (by omega)]
    · rw [List.getElem?_set_ne h]
      by_cases h2 : o + 1 ≤ j ∧ j < o + 1 + vs.length ∧ j < cs.length
      · rw [if_pos h2, if_pos (by omega), show j - o = (j - (o + 1)) + 1 by omega]; rfl
      · rw [if_neg h2, if_neg (by omega)]
theorem setL_len : ∀ (vs : List Value) (cs : List Value) (o : Nat), (setL cs o vs).length = cs.length
  | [], cs, o => rfl
  | v :: vs, cs, o => by rw [setL, setL_len vs]; simp
theorem flat_set {α : Type} (f : α → List Value) (s : Nat) (hf : ∀ x, (f x).length = s) (l : List α) (i : Nat) (x : α) (hi : i < l.length) : setL (l.flatMap f) (i * s) (f x) = (l.set i x).flatMap f := by
  have hL := flat_len f s hf
  apply List.ext_getElem?
  intro j
  rw [setL_at, hf, hL]
  by_cases hs : s = 0
  · subst hs
    rw [if_neg (by omega), List.getElem?_eq_none (by rw [hL]; omega), List.getElem?_eq_none (by rw [hL]; omega)]
  by_cases hj : j < l.length * s
  · have hd : j / s < l.length := Nat.div_lt_of_lt_mul (by rw [Nat.mul_comm]; exact hj)
    have hm : j % s < s := Nat.mod_lt _ (by omega)
    have e : j = j / s * s + j % s := by rw [Nat.mul_comm]; exact (Nat.div_add_mod j s).symm
    have r1 := flat_at f s hf (l.set i x) (j / s) (j % s) (by simpa using hd) hm
    have r2 := flat_at f s hf l (j / s) (j % s) hd hm
    rw [← e] at r1 r2
    rw [r1]
    by_cases hi2 : j / s = i
    · have e2 : (l.set i x)[j / s]'(by simpa using hd) = x := by simp [hi2]
      rw [e2]
      have e3 : j - i * s = j % s := by rw [← hi2]; omega
      rw [if_pos ⟨by rw [← hi2]; omega, by rw [← hi2]; omega, hj⟩, e3]
    · have e2 : (l.set i x)[j / s]'(by simpa using hd) = l[j / s] := by rw [List.getElem_set_ne (by omega)]
      rw [e2, ← r2, if_neg]
      rintro ⟨h1, h2, h3⟩
      have h4 : i ≤ j / s := by rw [Nat.le_div_iff_mul_le (by omega)]; exact h1
      have h5 : j / s < i + 1 := by rw [Nat.div_lt_iff_lt_mul (by omega), Nat.add_mul]; omega
      omega
  · rw [if_neg (by omega), List.getElem?_eq_none (by rw [hL]; omega), List.getElem?_eq_none (by rw [hL]; simp; omega)]
/-- Cells of a row, read. -/
theorem CellsAt.rec {α : Type} {f : α → List Value} {s : Nat} (hf : ∀ x, (f x).length = s) {w : World} {a : Option Addr} {l : List α} (h : CellsAt w a (l.flatMap f)) (i : Nat) (hi : i < l.length) (hs : 0 < s) :
    ∃ b off, a = some ⟨b, off, none⟩ ∧ ∀ k v, (f l[i])[k]? = some v → w.cell? ⟨b, off + i * s + k, none⟩ = some v := by
  have h0 := flat_at f s hf l i 0 hi hs
  obtain ⟨v0, hv0⟩ : ∃ v, (f l[i])[0]? = some v := by
    have hl0 : 0 < (f l[i]).length := by rw [hf]; exact hs
    exact ⟨_, List.getElem?_eq_getElem hl0⟩
  rw [hv0] at h0
  obtain ⟨b, off, rfl, e1⟩ := h _ _ h0
  refine ⟨b, off, rfl, fun k v hk => ?_⟩
  have hks : k < s := by have := (List.getElem?_eq_some_iff.1 hk).1; rw [hf] at this; exact this
  have h1 := flat_at f s hf l i k hi hks
  rw [hk] at h1
  obtain ⟨b2, o2, e, e2⟩ := h _ _ h1
  cases e
  rw [Nat.add_assoc]; exact e2
theorem chg_setC {w w' : World} (h : Below w.heap.size w w') {b k : Nat} (v : Value) : Chg [b] w (w'.setCell ⟨b, k, none⟩ v) := (Chg.of_below h).setCell v (.inl (by simp))
/-- append at a step of a region. -/
theorem wp_append_rowG {P : Program} {w : World} {o : Oper} {ac : Act} {K : Act → World → Prop} {Q : Exit → Act → World → Prop} {s by_ : Nat} (sl x : Operand) (t : TypeId)
    (ho : o.op = .call { callee := .builtin .append, args := #[sl, x], argTypes := #[t, t] }) (e : TypeId) (i : TypeInfo) (z : Value) (ht : P.underlying t = some (.slice e)) (hi : P.info? e = some i) (hz : i.zero = some z) (hsize : i.size = s) (hby : i.bytes = by_) (hzs : z.cells.size = s) (hs0 : 0 < s) (hb0 : by_ ≤ 1000)
    {a b : Option Addr} {cap c n m : Nat} {cs ds : List Value} (hs : ac.eval sl = .slice a n cap) (hx : ac.eval x = .slice b m c) (ha : RowG s w a cap n cs) (hb : CellsAt w b ds) (hd : ds.length = m * s) (hone : ∀ u ∈ ds, u.oneCell' = true) (h47 : n + m ≤ 1000000000)
    (h : ∀ a' cap' w', RowG s w' a' cap' (n + m) (cs ++ ds) → Chg (blk a) w w' → (∀ x ∈ blk a', x ∈ blk a ∨ w.heap.size ≤ x) → K (ac.put o.dst (.slice a' (n + m) cap')) w') : Oper.wp P o ac w K Q := by
  obtain ⟨a', cap', w', hr, h2, h3, h4⟩ := append_rowG (P := P) (w := w) t o.type e i z ht hi hz hsize hby hzs hs0 hb0 ha (c := c) hb hd hone h47
  unfold Oper.wp execOp
  simp only [ho, resolve, invoke, builtin, Sem.run_bind, Sem.run_pure, Result.andThen_ok, List.map_toArray, List.map_cons, List.map_nil, hs, hx, hr]
  exact h a' cap' w' h2 h3 h4
end Go.Proofs.YtdeilfnfpgjnnaaDoor
