/-
  Rows of integers in memory, wherever in their block they begin. No program is named here.
-/
import Derived.Test.YtdeilfnfpgjnnaaDoorFrame
import Derived.ArgAppend
open Go Go.RowKit
set_option linter.unusedVariables false
namespace Go.Proofs.YtdeilfnfpgjnnaaDoor
def intc (l : List Int) : List Value := l.map fun n => .int .i64 n
theorem intc_len (l : List Int) : (intc l).length = l.length := by unfold intc; rw [List.length_map]
theorem intc_app (l m : List Int) : intc (l ++ m) = intc l ++ intc m := by unfold intc; rw [List.map_append]
theorem intc_at (l : List Int) (i : Nat) (h : i < l.length) : (intc l)[i]? = some (.int .i64 l[i]) := by unfold intc; rw [List.getElem?_map, List.getElem?_eq_getElem h]; rfl
theorem intc_get (l : List Int) (i : Nat) : (intc l)[i]? = l[i]?.map (fun n => Value.int .i64 n) := by unfold intc; rw [List.getElem?_map]
theorem intc_one (l : List Int) : ∀ v ∈ intc l, v.oneCell' = true := fun v hv => by
  unfold intc at hv; simp only [List.mem_map] at hv; obtain ⟨b, _, rfl⟩ := hv; rfl
/-- The block of a slice. -/
def blk (a : Option Addr) : List Nat := (a.map (·.block)).toList
theorem blk_own (a : Option Addr) (n c : Nat) : Value.ownBlock (.slice a n c) = a.map (·.block) := by cases a <;> rfl
theorem blk_some (b o : Nat) : blk (some ⟨b, o, none⟩) = [b] := rfl
theorem blk_none : blk none = [] := rfl
/-- A slice's numbers; its room may be written. -/
def RowAt (w : World) (a : Option Addr) (cap : Nat) (l : List Int) : Prop :=
  l.length ≤ cap ∧ cap ≤ maxLen ∧ ((a = none ∧ cap = 0) ∨ ∃ b off, a = some ⟨b, off, none⟩ ∧ b < w.heap.size ∧
    (∀ j, j < cap → (w.cell? ⟨b, off + j, none⟩).isSome = true ∧ w.frozen? ⟨b, off + j, none⟩ = false) ∧ ∀ j v, (intc l)[j]? = some v → w.cell? ⟨b, off + j, none⟩ = some v)
theorem RowAt.nil (w : World) : RowAt w none 0 [] := ⟨by simp, by simp, .inl ⟨rfl, rfl⟩⟩
theorem RowAt.lt {w : World} {a : Option Addr} {cap : Nat} {l : List Int} (h : RowAt w a cap l) : ∀ x ∈ blk a, x < w.heap.size := by
  rcases h.2.2 with ⟨rfl, _⟩ | ⟨b, off, rfl, hb, _⟩
  · intro x hx; simp [blk] at hx
  · intro x hx; simp [blk] at hx; subst hx; exact hb
theorem RowAt.chg {F : List Nat} {w w' : World} {a : Option Addr} {cap : Nat} {l : List Int} (h : RowAt w a cap l) (c : Chg F w w') (hd : ∀ x ∈ blk a, x ∉ F) : RowAt w' a cap l := by
  refine ⟨h.1, h.2.1, ?_⟩
  rcases h.2.2 with h0 | ⟨b, off, rfl, hb, h1, h2⟩
  · exact .inl h0
  · have hk := c.block b hb (hd b (by simp [blk]))
    refine .inr ⟨b, off, rfl, Nat.lt_of_lt_of_le hb c.size, fun j hj => ?_, fun j v hj => ?_⟩
    · rw [cell_of_heap hk, World.frozen?_of_block (a := ⟨b, off + j, none⟩) hk]; exact h1 j hj
    · rw [cell_of_heap hk]; exact h2 j v hj
theorem RowAt.below {w w' : World} {a : Option Addr} {cap : Nat} {l : List Int} (h : RowAt w a cap l) (hb : Below w.heap.size w w') : RowAt w' a cap l :=
  h.chg (Chg.of_below (F := []) hb) (fun _ _ => by simp)
/-- Its numbers alone. -/
def IntsAt (w : World) (a : Option Addr) (l : List Int) : Prop := ∀ i (h : i < l.length), ∃ b off, a = some ⟨b, off, none⟩ ∧ w.cell? ⟨b, off + i, none⟩ = some (.int .i64 l[i])
theorem IntsAt.below {w w' : World} {a : Option Addr} {l : List Int} (h : IntsAt w a l) (hb : Below w.heap.size w w') : IntsAt w' a l := fun i hi => by
  obtain ⟨b, off, h1, h2⟩ := h i hi
  exact ⟨b, off, h1, cell_below h2 hb⟩
theorem IntsAt.nil (w : World) (a : Option Addr) : IntsAt w a [] := fun i hi => by simp at hi
theorem RowAt.ints {w : World} {a : Option Addr} {cap : Nat} {l : List Int} (h : RowAt w a cap l) : IntsAt w a l := fun i hi => by
  rcases h.2.2 with ⟨rfl, h0⟩ | ⟨b, off, rfl, hb, h1, h2⟩
  · have := h.1; omega
  · exact ⟨b, off, rfl, h2 i _ (intc_at l i hi)⟩
theorem RowAt.take {w : World} {a : Option Addr} {cap : Nat} {l : List Int} (h : RowAt w a cap l) (m : Nat) : RowAt w a cap (l.take m) := by
  refine ⟨by have := h.1; rw [List.length_take]; omega, h.2.1, ?_⟩
  rcases h.2.2 with h0 | ⟨b, off, rfl, hb, h1, h2⟩
  · exact .inl h0
  · refine .inr ⟨b, off, rfl, hb, h1, fun j v hj => h2 j v ?_⟩
    rw [intc_get, List.getElem?_take] at hj
    split at hj
    · rw [intc_get]; exact hj
    · simp at hj
/-- s[m:]. -/
theorem slice_from {P : Program} {t : TypeId} (ht : P.underlying t = some (.slice (P.elem t))) (hs : ∀ w, (sizeOf (P.elem t)).run P w = .ok 1 w) {w0 : World} {a : Option Addr} {cap : Nat} {l : List Int} (h : RowAt w0 a cap l) (m : Nat) (hm : m ≤ l.length) :
    ∃ a', (∀ w, (Instr.slice t (.slice a l.length cap) (some (.int .i64 (m : Int))) none none).run P w = .ok (.slice a' (l.length - m) (cap - m)) w) ∧ RowAt w0 a' (cap - m) (l.drop m) ∧ blk a' = blk a := by
  have hl := h.1
  rcases h.2.2 with ⟨rfl, rfl⟩ | ⟨b, off, rfl, hb, h1, h2⟩
  · have : l = [] := List.length_eq_zero_iff.1 (by omega)
    subst this
    obtain rfl : m = 0 := by simpa using hm
    refine ⟨none, fun w => ?_, by simpa using RowAt.nil w0, rfl⟩
    rw [run_slice_l (P := P) (t := t) (ht := ht) (kl := .i64) (l := ((0 : Nat) : Int)) (h0 := by omega) (h1 := by simp), hs]
    simp [Result.andThen, sliced]
  · by_cases hc : cap = m
    · refine ⟨some ⟨b, off, none⟩, fun w => ?_, ⟨by rw [List.length_drop]; omega, by have := h.2.1; omega, .inr ⟨b, off, rfl, hb, fun j hj => by omega, fun j v hj => ?_⟩⟩, rfl⟩
      · rw [run_slice_l (P := P) (t := t) (ht := ht) (kl := .i64) (l := (m : Int)) (h0 := by omega) (h1 := by omega), hs]
        simp [Result.andThen, sliced, hc]
      · have : l.drop m = [] := List.drop_of_length_le (by omega)
        rw [this] at hj; simp [intc] at hj
    · refine ⟨some ⟨b, off + m, none⟩, fun w => ?_, ⟨by rw [List.length_drop]; omega, by have := h.2.1; omega, .inr ⟨b, off + m, rfl, hb, fun j hj => ?_, fun j v hj => ?_⟩⟩, rfl⟩
      · rw [run_slice_l (P := P) (t := t) (ht := ht) (kl := .i64) (l := (m : Int)) (h0 := by omega) (h1 := by omega), hs]
        by_cases hm0 : m = 0
        · subst hm0; simp [Result.andThen, sliced, hc, Addr.add]
        · simp [Result.andThen, sliced, hc, Addr.add, hm0]
      · have := h1 (m + j) (by omega)
        rwa [← Nat.add_assoc] at this
      · have := h2 (m + j) v (by rw [intc_get] at hj ⊢; rw [List.getElem?_drop] at hj; exact hj)
        rwa [← Nat.add_assoc] at this
theorem RowAt.of_own {w : World} {base n : Nat} {e : TypeId} {v : Value} {l : List Int} (h : w.ownsRow base e 1 v n (intc l)) : ∃ a cap, v = .slice a l.length cap ∧ RowAt w a cap l ∧ n = l.length ∧ ∀ x ∈ blk a, base ≤ x := by
  have hx : l.length = n := by have := h.1; rw [intc_len] at this; omega
  subst hx
  rcases h.2 with ⟨rfl, h0⟩ | ⟨g, cap, cur, rfl, hb, hg, h1, h2, h3, h4⟩
  · exact ⟨none, 0, by rw [h0], ⟨by omega, by simp, .inl ⟨rfl, rfl⟩⟩, rfl, fun x hx => by simp [blk] at hx⟩
  · have hlt : g < w.heap.size := (Array.getElem?_eq_some_iff.1 hg).1
    refine ⟨_, cap, rfl, ⟨h1, h2, .inr ⟨g, 0, rfl, hlt, fun j hj => ⟨?_, ?_⟩, fun j v hj => ?_⟩⟩, rfl, fun x hx => by simp [blk] at hx; subst hx; exact hb⟩
    · rw [Nat.zero_add, cell_of_row w g j cur e (0, 0) hg, Array.getElem?_eq_getElem (by omega)]; rfl
    · rw [Nat.zero_add]; exact frozen_of_row w g j cur e hg
    · rw [Nat.zero_add, cell_of_row w g j cur e (0, 0) hg]
      rw [← h4, List.getElem?_take] at hj
      split at hj
      · simpa using hj
      · cases hj
/-- A row of numbers in a new block. -/
theorem RowAt.new (w : World) (l : List Int) (t : TypeId) (hl : l.length ≤ maxLen) {b : Nat} (hb : b = w.heap.size) : RowAt (w.alloc (.cells (intc l).toArray t)) (some ⟨b, 0, none⟩) l.length l := by
  subst hb
  have hB := Blk.new w (intc l).toArray t
  refine ⟨Nat.le_refl _, hl, .inr ⟨_, 0, rfl, by simp, fun j hj => ?_, fun j v hj => ?_⟩⟩
  · rw [Nat.zero_add]
    obtain ⟨h1, h2⟩ := hB j _ (intc_at l j hj)
    exact ⟨by rw [h1]; rfl, h2⟩
  · rw [Nat.zero_add]; exact (hB j v hj).1
/-- append(s, t...), whatever both are. -/
theorem append_row {P : Program} {w : World} (t ty e : TypeId) (i : TypeInfo) (z : Value) (ht : P.underlying t = some (.slice e)) (hi : P.info? e = some i) (hz : i.zero = some z) (hsize : i.size = 1) (hby : i.bytes = 8) (hzs : z.cells.size = 1)
    {a b : Option Addr} {cap c : Nat} {l m : List Int} (ha : RowAt w a cap l) (hb : IntsAt w b m) (h47 : l.length + m.length ≤ 1000000000) :
    ∃ a' cap' w', (Builtin.append_ #[t, t] ty #[.slice a l.length cap, .slice b m.length c]).run P w = .ok (.slice a' (l.length + m.length) cap') w' ∧ RowAt w' a' cap' (l ++ m) ∧ Chg (blk a) w w' ∧ ∀ x ∈ blk a', x ∈ blk a ∨ w.heap.size ≤ x := by
  cases b with
  | none =>
    have : m = [] := by
      rcases Nat.eq_zero_or_pos m.length with h | h
      · exact List.length_eq_zero_iff.1 h
      · obtain ⟨_, _, h1, _⟩ := hb 0 h; cases h1
    subst this
    have hl := ha.1
    refine ⟨a, cap, w, ?_, by simpa using ha, Chg.refl _ _, fun x hx => .inl hx⟩
    cases a <;> simp [Builtin.append_, run_underlying ht, sizeOf, typeInfo, hi, Builtin.lenOf, Builtin.firstCells, storeCells, hl]
  | some ad =>
    have hnews : ∀ j u, (intc m)[j]? = some u → w.cell? (ad.add j) = some u := fun j u hj => by
      have hlt : j < m.length := by rw [← intc_len m]; exact (List.getElem?_eq_some_iff.1 hj).1
      obtain ⟨b, off, h1, h2⟩ := hb j hlt
      cases h1
      rw [intc_at m j hlt] at hj
      rw [Addr.add_lit, h2]; exact hj
    rcases ha.2.2 with ⟨rfl, h0⟩ | ⟨b, off, rfl, hbl, h1, h2⟩
    · have hl0 : l = [] := List.length_eq_zero_iff.1 (by have := ha.1; omega)
      subst hl0
      subst h0
      obtain ⟨v', w', hr, r1, r2, _⟩ := run_append_own (P := P) w w.heap.size t ty e i z 1 8 ht hi hz hsize hby hzs (by omega) (.slice none 0 0) 0 [] (World.ownsRow_nil _ _ _ _) ad m.length c (intc m) (by rw [intc_len]; omega) hnews (intc_one m) (by simp at h47; unfold maxLen; omega) (by simp at h47; omega) (Nat.le_refl _)
      simp only [List.nil_append] at r1
      obtain ⟨a', cap', rfl, hrow, hn, hbase⟩ := RowAt.of_own r1
      refine ⟨a', cap', w', ?_, by simpa using hrow, grownBy_chg r2 |>.mono (by simp [Value.ownBlock, blk]), fun x hx => .inr (hbase x hx)⟩
      simpa using hr
    · by_cases hroom : l.length + m.length ≤ cap
      · have hr := run_append_room_cells (P := P) w t ty e i ht hi b off l.length cap ad m.length c (intc m) (by rw [intc_len, hsize]; omega) hnews (intc_one m) hroom
          (fun j hj => by rw [intc_len] at hj; rw [hsize, Nat.mul_one]; have := (h1 (l.length + j) (by omega)).1; rwa [← Nat.add_assoc] at this)
          (fun j hj => by rw [intc_len] at hj; rw [hsize, Nat.mul_one]; have := (h1 (l.length + j) (by omega)).2; rwa [← Nat.add_assoc] at this)
        rw [hsize, Nat.mul_one] at hr
        have hin := World.cell?_setCells_in b (intc m) (off + l.length) w (fun j hj => by rw [intc_len] at hj; have := (h1 (l.length + j) (by omega)).1; rwa [← Nat.add_assoc] at this)
        refine ⟨_, cap, _, hr, ⟨by rw [List.length_append]; exact hroom, ha.2.1, .inr ⟨b, off, rfl, Nat.lt_of_lt_of_le hbl ((Chg.refl [b] w).setCells (intc m) (off + l.length) (.inl (by simp))).size, fun j hj => ⟨?_, ?_⟩, fun j v hj => ?_⟩⟩, (Chg.refl _ _).setCells _ _ (.inl (by simp [blk])), fun x hx => .inl hx⟩
        · by_cases hj2 : l.length ≤ j ∧ j < l.length + m.length
          · have := hin (j - l.length) (by rw [intc_len]; omega)
            rw [show off + l.length + (j - l.length) = off + j by omega] at this
            rw [this]; rfl
          · rw [World.cell?_setCells_out b (intc m) _ w _ (fun _ _ => by rw [intc_len]; simp only; omega)]
            exact (h1 j hj).1
        · rw [World.frozen?_setCells]; exact (h1 j hj).2
        · rw [intc_app] at hj
          by_cases hj2 : j < l.length
          · rw [List.getElem?_append_left (by rw [intc_len]; exact hj2)] at hj
            rw [World.cell?_setCells_out b (intc m) _ w _ (fun _ _ => by rw [intc_len]; simp only; omega)]
            exact h2 j v hj
          · rw [List.getElem?_append_right (by rw [intc_len]; omega), intc_len] at hj
            have hlt : j - l.length < (intc m).length := (List.getElem?_eq_some_iff.1 hj).1
            have := hin (j - l.length) hlt
            rw [show off + l.length + (j - l.length) = off + j by omega] at this
            rw [this]
            rw [List.getElem?_eq_getElem hlt] at hj
            exact hj
      · obtain ⟨v', w', hr, r1, r2⟩ := run_append_arg_grows (P := P) w t ty e i z 1 8 ht hi hz hsize hby hzs (by omega) ⟨b, off, none⟩ l.length cap (intc l) (by rw [intc_len]; omega) (fun j u hj => by rw [Addr.add_lit]; exact h2 j u hj) ad m.length c (intc m) (by rw [intc_len]; omega) hnews (by omega) (by unfold maxLen; omega) (by omega)
        rw [← intc_app] at r1
        obtain ⟨a', cap', rfl, hrow, hn, hbase⟩ := RowAt.of_own r1
        rw [List.length_append] at hr
        exact ⟨a', cap', w', hr, hrow, (grownBy_chg r2).mono (by simp), fun x hx => .inr (hbase x hx)⟩
theorem wpList_append_row {P : Program} {w : World} {ops : Array Oper} {rest : List Oper} {o : Oper} {ac : Act} {Q : Exit → Act → World → Prop} (hgd : o.guard = none) (sl x : Operand) (t : TypeId)
    (ho : o.op = .call { callee := .builtin .append, args := #[sl, x], argTypes := #[t, t] }) (e : TypeId) (i : TypeInfo) (z : Value) (ht : P.underlying t = some (.slice e)) (hi : P.info? e = some i) (hz : i.zero = some z) (hsize : i.size = 1) (hby : i.bytes = 8) (hzs : z.cells.size = 1)
    {a b : Option Addr} {cap c n k : Nat} {l m : List Int} (hs : ac.eval sl = .slice a n cap) (hx : ac.eval x = .slice b k c) (hn : n = l.length) (hk : k = m.length) (ha : RowAt w a cap l) (hb : IntsAt w b m) (h47 : l.length + m.length ≤ 1000000000)
    (h : ∀ a' cap' w', RowAt w' a' cap' (l ++ m) → Chg (blk a) w w' → (∀ x ∈ blk a', x ∈ blk a ∨ w.heap.size ≤ x) → wpList P ops Q rest (ac.put o.dst (.slice a' (n + k) cap')) w') : wpList P ops Q (o :: rest) ac w := by
  subst hn hk
  refine wpList_plain hgd fun K hK => ?_
  obtain ⟨a', cap', w', hr, h2, h3, h4⟩ := append_row (P := P) (w := w) t o.type e i z ht hi hz hsize hby hzs ha (c := c) hb h47
  unfold Oper.wp execOp
  simp only [ho, resolve, invoke, builtin, Sem.run_bind, Sem.run_pure, Result.andThen_ok, List.map_toArray, List.map_cons, List.map_nil, hs, hx, hr]
  exact hK _ _ (h a' cap' w' h2 h3 h4)
/-- make([]int, n). -/
theorem made_ints (n : Nat) : (madeCells #[Value.int .i64 0] (n * 1)).toList = intc (List.replicate n 0) := by
  rw [Nat.mul_one, toList_madeCells_one]; simp [intc]
end Go.Proofs.YtdeilfnfpgjnnaaDoor
