/-
  Rows in memory of elements of s cells, wherever in their block they begin. No program is named here.
-/
import Derived.Test.YtdeilfnfpgjnnaaDoorPool
import Derived.ArgAppend
open Go Go.RowKit
set_option linter.unusedVariables false
namespace Go.Proofs.YtdeilfnfpgjnnaaDoor
/-- A slice's cells; its room may be written. -/
def RowG (s : Nat) (w : World) (a : Option Addr) (cap n : Nat) (cs : List Value) : Prop :=
  cs.length = n * s ∧ n ≤ cap ∧ cap ≤ maxLen ∧ ((a = none ∧ cap = 0) ∨ ∃ b off, a = some ⟨b, off, none⟩ ∧ b < w.heap.size ∧
    (∀ j, j < cap * s → (w.cell? ⟨b, off + j, none⟩).isSome = true ∧ w.frozen? ⟨b, off + j, none⟩ = false) ∧ ∀ j v, cs[j]? = some v → w.cell? ⟨b, off + j, none⟩ = some v)
/-- Its cells alone. -/
def CellsAt (w : World) (a : Option Addr) (cs : List Value) : Prop := ∀ j v, cs[j]? = some v → ∃ b off, a = some ⟨b, off, none⟩ ∧ w.cell? ⟨b, off + j, none⟩ = some v
theorem CellsAt.below {w w' : World} {a : Option Addr} {cs : List Value} (h : CellsAt w a cs) (hb : Below w.heap.size w w') : CellsAt w' a cs := fun j v hj => by
  obtain ⟨b, off, h1, h2⟩ := h j v hj
  exact ⟨b, off, h1, cell_below h2 hb⟩
theorem CellsAt.nil (w : World) (a : Option Addr) : CellsAt w a [] := fun j v h => by simp at h
theorem RowG.nil (s : Nat) (w : World) : RowG s w none 0 0 [] := ⟨by simp, by simp, by simp, .inl ⟨rfl, rfl⟩⟩
theorem RowG.cells {s : Nat} {w : World} {a : Option Addr} {cap n : Nat} {cs : List Value} (h : RowG s w a cap n cs) : CellsAt w a cs := fun j v hj => by
  obtain ⟨h1, h2, h3, h4⟩ := h
  rcases h4 with ⟨rfl, h0⟩ | ⟨b, off, rfl, hb, h5, h6⟩
  · have hl := (List.getElem?_eq_some_iff.1 hj).1
    have : n = 0 := by omega
    subst this; simp at h1; subst h1; simp at hl
  · exact ⟨b, off, rfl, h6 j v hj⟩
theorem RowG.lt {s : Nat} {w : World} {a : Option Addr} {cap n : Nat} {cs : List Value} (h : RowG s w a cap n cs) : ∀ x ∈ blk a, x < w.heap.size := by
  rcases h.2.2.2 with ⟨rfl, _⟩ | ⟨b, off, rfl, hb, _⟩
  · intro x hx; simp [blk] at hx
  · intro x hx; simp [blk] at hx; subst hx; exact hb
theorem RowG.none0 {s : Nat} {w : World} {a : Option Addr} {cap n : Nat} {cs : List Value} (h : RowG s w a cap n cs) (e : a = none) : cap = 0 := by
  rcases h.2.2.2 with ⟨_, h⟩ | ⟨_, _, h, _⟩
  · exact h
  · rw [e] at h; cases h
theorem RowG.chg {s : Nat} {F : List Nat} {w w' : World} {a : Option Addr} {cap n : Nat} {cs : List Value} (h : RowG s w a cap n cs) (c : Chg F w w') (hd : ∀ x ∈ blk a, x ∉ F) : RowG s w' a cap n cs := by
  refine ⟨h.1, h.2.1, h.2.2.1, ?_⟩
  rcases h.2.2.2 with h0 | ⟨b, off, rfl, hb, h1, h2⟩
  · exact .inl h0
  · have hk := c.block b hb (hd b (by simp [blk]))
    refine .inr ⟨b, off, rfl, Nat.lt_of_lt_of_le hb c.size, fun j hj => ?_, fun j v hj => ?_⟩
    · rw [cell_of_heap hk, World.frozen?_of_block (a := ⟨b, off + j, none⟩) hk]; exact h1 j hj
    · rw [cell_of_heap hk]; exact h2 j v hj
theorem RowG.below {s : Nat} {w w' : World} {a : Option Addr} {cap n : Nat} {cs : List Value} (h : RowG s w a cap n cs) (hb : Below w.heap.size w w') : RowG s w' a cap n cs :=
  h.chg (Chg.of_below (F := []) hb) (fun _ _ => by simp)
theorem RowG.zero {s : Nat} {w : World} {b : Nat} (hb : b < w.heap.size) : RowG s w (some ⟨b, 0, none⟩) 0 0 [] := ⟨by simp, by simp, by simp, .inr ⟨b, 0, rfl, hb, fun j hj => by simp at hj, fun j v hj => by simp at hj⟩⟩
/-- Cells in a new block. -/
theorem RowG.new (s n : Nat) (w : World) (cs : List Value) (t : TypeId) (hn : cs.length = n * s) (hl : n ≤ maxLen) {b : Nat} (hb : b = w.heap.size) : RowG s (w.alloc (.cells cs.toArray t)) (some ⟨b, 0, none⟩) n n cs := by
  subst hb
  have hB := Blk.new w cs.toArray t
  refine ⟨hn, Nat.le_refl _, hl, .inr ⟨_, 0, rfl, by simp, fun j hj => ?_, fun j v hj => ?_⟩⟩
  · rw [Nat.zero_add]
    obtain ⟨h1, h2⟩ := hB j _ (List.getElem?_eq_getElem (show j < cs.length by omega))
    exact ⟨by rw [h1]; rfl, h2⟩
  · rw [Nat.zero_add]; exact (hB j v hj).1
theorem CellsAt.new (w : World) (cs : List Value) (t : TypeId) {b : Nat} (hb : b = w.heap.size) : CellsAt (w.alloc (.cells cs.toArray t)) (some ⟨b, 0, none⟩) cs := fun j v hj => by
  subst hb
  exact ⟨_, 0, rfl, by rw [Nat.zero_add]; exact (Blk.new w cs.toArray t j v hj).1⟩
theorem CellsAt.chg {F : List Nat} {w w' : World} {a : Option Addr} {cs : List Value} (h : CellsAt w a cs) (c : Chg F w w') (hd : ∀ x ∈ blk a, x ∉ F) : CellsAt w' a cs := fun j v hj => by
  obtain ⟨b, off, rfl, h2⟩ := h j v hj
  exact ⟨b, off, rfl, cell_chg h2 c (hd b (by simp [blk]))⟩
/-- s[m:]. -/
theorem slice_fromG {P : Program} {t : TypeId} {s : Nat} (ht : P.underlying t = some (.slice (P.elem t))) (hs : ∀ w, (sizeOf (P.elem t)).run P w = .ok s w) {w0 : World} {a : Option Addr} {cap n : Nat} {cs : List Value} (h : RowG s w0 a cap n cs) (m : Nat) (hm : m ≤ n) :
    ∃ a', (∀ w, (Instr.slice t (.slice a n cap) (some (.int .i64 (m : Int))) none none).run P w = .ok (.slice a' (n - m) (cap - m)) w) ∧ RowG s w0 a' (cap - m) (n - m) (cs.drop (m * s)) ∧ blk a' = blk a := by
  have hl := h.2.1
  have h1l := h.1
  have hdl : (cs.drop (m * s)).length = (n - m) * s := by rw [List.length_drop, h1l, Nat.sub_mul]
  rcases h.2.2.2 with ⟨rfl, rfl⟩ | ⟨b, off, rfl, hb, h1, h2⟩
  · obtain rfl : n = 0 := by omega
    obtain rfl : m = 0 := by omega
    refine ⟨none, fun w => ?_, ⟨hdl, by omega, by simp, .inl ⟨rfl, rfl⟩⟩, rfl⟩
    rw [run_slice_l (P := P) (t := t) (ht := ht) (kl := .i64) (l := ((0 : Nat) : Int)) (h0 := by omega) (h1 := by simp), hs]
    simp [Result.andThen, sliced]
  · by_cases hc : cap = m
    · refine ⟨some ⟨b, off, none⟩, fun w => ?_, ⟨hdl, by omega, by have := h.2.2.1; omega, .inr ⟨b, off, rfl, hb, fun j hj => ?_, fun j v hj => ?_⟩⟩, rfl⟩
      · rw [run_slice_l (P := P) (t := t) (ht := ht) (kl := .i64) (l := (m : Int)) (h0 := by omega) (h1 := by omega), hs]
        simp [Result.andThen, sliced, hc]
      · rw [hc] at hj; simp at hj
      · have : cs.drop (m * s) = [] := List.length_eq_zero_iff.1 (by rw [hdl, show n - m = 0 by omega]; simp)
        rw [this] at hj; simp at hj
    · refine ⟨some ⟨b, off + m * s, none⟩, fun w => ?_, ⟨hdl, by omega, by have := h.2.2.1; omega, .inr ⟨b, off + m * s, rfl, hb, fun j hj => ?_, fun j v hj => ?_⟩⟩, rfl⟩
      · rw [run_slice_l (P := P) (t := t) (ht := ht) (kl := .i64) (l := (m : Int)) (h0 := by omega) (h1 := by omega), hs]
        by_cases hm0 : m = 0
        · subst hm0; simp [Result.andThen, sliced, hc, Addr.add]
        · simp [Result.andThen, sliced, hc, Addr.add, hm0]
          try (intro hz; omega)
      · have hlt : m * s + j < cap * s := by
          have : cap * s = m * s + (cap - m) * s := by rw [← Nat.add_mul]; congr 1; omega
          omega
        have := h1 (m * s + j) hlt
        rwa [← Nat.add_assoc] at this
      · have := h2 (m * s + j) v (by rw [List.getElem?_drop] at hj; exact hj)
        rwa [← Nat.add_assoc] at this
/-- s[:m]. -/
theorem RowG.take {s : Nat} {w : World} {a : Option Addr} {cap n : Nat} {cs : List Value} (h : RowG s w a cap n cs) (m : Nat) (hm : m ≤ n) : RowG s w a cap m (cs.take (m * s)) := by
  obtain ⟨h1, h2, h3, h4⟩ := h
  have hms : m * s ≤ n * s := Nat.mul_le_mul_right _ hm
  refine ⟨by rw [List.length_take]; omega, by omega, h3, ?_⟩
  rcases h4 with h0 | ⟨b, off, rfl, hb, h5, h6⟩
  · exact .inl h0
  · refine .inr ⟨b, off, rfl, hb, h5, fun j v hj => h6 j v ?_⟩
    rw [List.getElem?_take] at hj
    split at hj
    · exact hj
    · simp at hj
theorem RowG.of_own {s : Nat} {w : World} {base n : Nat} {e : TypeId} {v : Value} {cs : List Value} (h : w.ownsRow base e s v n cs) : ∃ a cap, v = .slice a n cap ∧ RowG s w a cap n cs ∧ ∀ x ∈ blk a, base ≤ x := by
  have hx := h.1
  rcases h.2 with ⟨rfl, h0⟩ | ⟨g, cap, cur, rfl, hb, hg, h1, h2, h3, h4⟩
  · exact ⟨none, 0, by rw [h0], ⟨hx, by omega, by simp, .inl ⟨rfl, rfl⟩⟩, fun x hx => by simp [blk] at hx⟩
  · have hlt : g < w.heap.size := (Array.getElem?_eq_some_iff.1 hg).1
    refine ⟨_, cap, rfl, ⟨hx, h1, h2, .inr ⟨g, 0, rfl, hlt, fun j hj => ⟨?_, ?_⟩, fun j v hj => ?_⟩⟩, fun x hx => by simp [blk] at hx; subst hx; exact hb⟩
    · rw [Nat.zero_add, cell_of_row w g j cur e (0, 0) hg, Array.getElem?_eq_getElem (by omega)]; rfl
    · rw [Nat.zero_add]; exact frozen_of_row w g j cur e hg
    · rw [Nat.zero_add, cell_of_row w g j cur e (0, 0) hg]
      rw [← h4, List.getElem?_take] at hj
      split at hj
      · simpa using hj
      · cases hj
/-- append(s, t...), whatever both are. -/
theorem append_rowG {P : Program} {w : World} {s by_ : Nat} (t ty e : TypeId) (i : TypeInfo) (z : Value) (ht : P.underlying t = some (.slice e)) (hi : P.info? e = some i) (hz : i.zero = some z) (hsize : i.size = s) (hby : i.bytes = by_) (hzs : z.cells.size = s) (hs0 : 0 < s) (hb0 : by_ ≤ 1000)
    {a b : Option Addr} {cap c n m : Nat} {cs ds : List Value} (ha : RowG s w a cap n cs) (hb : CellsAt w b ds) (hd : ds.length = m * s) (hone : ∀ u ∈ ds, u.oneCell' = true) (h47 : n + m ≤ 1000000000) :
    ∃ a' cap' w', (Builtin.append_ #[t, t] ty #[.slice a n cap, .slice b m c]).run P w = .ok (.slice a' (n + m) cap') w' ∧ RowG s w' a' cap' (n + m) (cs ++ ds) ∧ Chg (blk a) w w' ∧ ∀ x ∈ blk a', x ∈ blk a ∨ w.heap.size ≤ x := by
  have hbyt : (n + m) * by_ ≤ 140737488355328 := Nat.le_trans (Nat.mul_le_mul h47 hb0) (by omega)
  cases b with
  | none =>
    have hdn : ds = [] := by
      cases ds with
      | nil => rfl
      | cons x t => obtain ⟨_, _, h1, _⟩ := hb 0 x rfl; cases h1
    subst hdn
    have : m = 0 := by
      have h0 : m * s = 0 := by rw [← hd]; rfl
      rcases Nat.mul_eq_zero.1 h0 with h | h
      · exact h
      · omega
    subst this
    have hl := ha.2.1
    refine ⟨a, cap, w, ?_, by simpa using ha, Chg.refl _ _, fun x hx => .inl hx⟩
    cases a <;> simp [Builtin.append_, run_underlying ht, sizeOf, typeInfo, hi, Builtin.lenOf, Builtin.firstCells, storeCells, hl]
  | some ad =>
    by_cases hm0 : m = 0
    · subst hm0
      have hdn : ds = [] := List.length_eq_zero_iff.1 (by rw [hd]; simp)
      subst hdn
      have hl := ha.2.1
      refine ⟨a, cap, w, ?_, by simpa using ha, Chg.refl _ _, fun x hx => .inl hx⟩
      cases a <;> simp [Builtin.append_, run_underlying ht, sizeOf, typeInfo, hi, Builtin.lenOf, Builtin.firstCells, storeCells, loadCells, loadCellsFrom, hl]
    have hnews : ∀ j u, ds[j]? = some u → w.cell? (ad.add j) = some u := fun j u hj => by
      obtain ⟨b, off, h1, h2⟩ := hb j u hj
      cases h1
      rw [Addr.add_lit, h2]
    rcases ha.2.2.2 with ⟨rfl, h0⟩ | ⟨b, off, rfl, hbl, h1, h2⟩
    · obtain rfl : n = 0 := by have := ha.2.1; omega
      have hl0 : cs = [] := List.length_eq_zero_iff.1 (by have := ha.1; omega)
      subst hl0
      subst h0
      obtain ⟨v', w', hr, r1, r2, _⟩ := run_append_own (P := P) w w.heap.size t ty e i z s by_ ht hi hz hsize hby hzs hs0 (.slice none 0 0) 0 [] (World.ownsRow_nil _ _ _ _) ad m c ds hd hnews hone (by unfold maxLen; omega) hbyt (Nat.le_refl _)
      simp only [List.nil_append] at r1
      obtain ⟨a', cap', rfl, hrow, hbase⟩ := RowG.of_own r1
      exact ⟨a', cap', w', hr, by simpa using hrow, grownBy_chg r2 |>.mono (by simp [Value.ownBlock, blk]), fun x hx => .inr (hbase x hx)⟩
    · by_cases hroom : n + m ≤ cap
      · have hcap : (n + m) * s ≤ cap * s := Nat.mul_le_mul_right _ hroom
        rw [Nat.add_mul] at hcap
        have hr := run_append_room_cells (P := P) w t ty e i ht hi b off n cap ad m c ds (by rw [hd, hsize]) hnews hone hroom
          (fun j hj => by rw [hsize]; have := (h1 (n * s + j) (by omega)).1; rwa [← Nat.add_assoc] at this)
          (fun j hj => by rw [hsize]; have := (h1 (n * s + j) (by omega)).2; rwa [← Nat.add_assoc] at this)
        rw [hsize] at hr
        have hin := World.cell?_setCells_in b ds (off + n * s) w (fun j hj => by have := (h1 (n * s + j) (by omega)).1; rwa [← Nat.add_assoc] at this)
        have hcl := ha.1
        refine ⟨_, cap, _, hr, ⟨by rw [List.length_append, hd, hcl, Nat.add_mul], hroom, ha.2.2.1, .inr ⟨b, off, rfl, Nat.lt_of_lt_of_le hbl ((Chg.refl [b] w).setCells ds (off + n * s) (.inl (by simp))).size, fun j hj => ⟨?_, ?_⟩, fun j v hj => ?_⟩⟩, (Chg.refl _ _).setCells _ _ (.inl (by simp [blk])), fun x hx => .inl hx⟩
        · by_cases hj2 : n * s ≤ j ∧ j < n * s + m * s
          · have := hin (j - n * s) (by omega)
            rw [show off + n * s + (j - n * s) = off + j by omega] at this
            rw [this]; rfl
          · rw [World.cell?_setCells_out b ds _ w _ (fun _ _ => by simp only; omega)]
            exact (h1 j hj).1
        · rw [World.frozen?_setCells]; exact (h1 j hj).2
        · by_cases hj2 : j < n * s
          · rw [List.getElem?_append_left (by omega)] at hj
            rw [World.cell?_setCells_out b ds _ w _ (fun _ _ => by simp only; omega)]
            exact h2 j v hj
          · rw [List.getElem?_append_right (by omega), hcl] at hj
            have hlt : j - n * s < ds.length := (List.getElem?_eq_some_iff.1 hj).1
            have := hin (j - n * s) hlt
            rw [show off + n * s + (j - n * s) = off + j by omega] at this
            rw [this]
            rw [List.getElem?_eq_getElem hlt] at hj
            exact hj
      · obtain ⟨v', w', hr, r1, r2⟩ := run_append_arg_grows (P := P) w t ty e i z s by_ ht hi hz hsize hby hzs hs0 ⟨b, off, none⟩ n cap cs ha.1 (fun j u hj => by rw [Addr.add_lit]; exact h2 j u hj) ad m c ds hd hnews (by omega) (by unfold maxLen; omega) hbyt
        obtain ⟨a', cap', rfl, hrow, hbase⟩ := RowG.of_own r1
        exact ⟨a', cap', w', hr, hrow, (grownBy_chg r2).mono (by simp), fun x hx => .inr (hbase x hx)⟩
theorem wpList_append_rowG {P : Program} {w : World} {ops : Array Oper} {rest : List Oper} {o : Oper} {ac : Act} {Q : Exit → Act → World → Prop} {s by_ : Nat} (hgd : o.guard = none) (sl x : Operand) (t : TypeId)
    (ho : o.op = .call { callee := .builtin .append, args := #[sl, x], argTypes := #[t, t] }) (e : TypeId) (i : TypeInfo) (z : Value) (ht : P.underlying t = some (.slice e)) (hi : P.info? e = some i) (hz : i.zero = some z) (hsize : i.size = s) (hby : i.bytes = by_) (hzs : z.cells.size = s) (hs0 : 0 < s) (hb0 : by_ ≤ 1000)
    {a b : Option Addr} {cap c n m : Nat} {cs ds : List Value} (hs : ac.eval sl = .slice a n cap) (hx : ac.eval x = .slice b m c) (ha : RowG s w a cap n cs) (hb : CellsAt w b ds) (hd : ds.length = m * s) (hone : ∀ u ∈ ds, u.oneCell' = true) (h47 : n + m ≤ 1000000000)
    (h : ∀ a' cap' w', RowG s w' a' cap' (n + m) (cs ++ ds) → Chg (blk a) w w' → (∀ x ∈ blk a', x ∈ blk a ∨ w.heap.size ≤ x) → wpList P ops Q rest (ac.put o.dst (.slice a' (n + m) cap')) w') : wpList P ops Q (o :: rest) ac w := by
  refine wpList_plain hgd fun K hK => ?_
  obtain ⟨a', cap', w', hr, h2, h3, h4⟩ := append_rowG (P := P) (w := w) t o.type e i z ht hi hz hsize hby hzs hs0 hb0 ha (c := c) hb hd hone h47
  unfold Oper.wp execOp
  simp only [ho, resolve, invoke, builtin, Sem.run_bind, Sem.run_pure, Result.andThen_ok, List.map_toArray, List.map_cons, List.map_nil, hs, hx, hr]
  exact hK _ _ (h a' cap' w' h2 h3 h4)
theorem step_append_rowG {P : Program} {w : World} {ops : Array Oper} {o : Oper} {ac : Act} {K : Act → World → Prop} {Q : Exit → Act → World → Prop} {E : Prop} {s by_ : Nat} (hgd : o.guard = none) (sl x : Operand) (t : TypeId)
    (ho : o.op = .call { callee := .builtin .append, args := #[sl, x], argTypes := #[t, t] }) (e : TypeId) (i : TypeInfo) (z : Value) (ht : P.underlying t = some (.slice e)) (hi : P.info? e = some i) (hz : i.zero = some z) (hsize : i.size = s) (hby : i.bytes = by_) (hzs : z.cells.size = s) (hs0 : 0 < s) (hb0 : by_ ≤ 1000)
    {a b : Option Addr} {cap c n m : Nat} {cs ds : List Value} (hs : ac.eval sl = .slice a n cap) (hx : ac.eval x = .slice b m c) (ha : RowG s w a cap n cs) (hb : CellsAt w b ds) (hd : ds.length = m * s) (hone : ∀ u ∈ ds, u.oneCell' = true) (h47 : n + m ≤ 1000000000)
    (h : ∀ a' cap' w', RowG s w' a' cap' (n + m) (cs ++ ds) → Chg (blk a) w w' → (∀ x ∈ blk a', x ∈ blk a ∨ w.heap.size ≤ x) → K (ac.put o.dst (.slice a' (n + m) cap')) w') : if Region.wanted o (yielded ops ac.tmps) = true then Oper.wp P o ac w K Q else E := by
  have hw : Region.wanted o (yielded ops ac.tmps) = true := by simp [Region.wanted, hgd]
  rw [if_pos hw]
  obtain ⟨a', cap', w', hr, h2, h3, h4⟩ := append_rowG (P := P) (w := w) t o.type e i z ht hi hz hsize hby hzs hs0 hb0 ha (c := c) hb hd hone h47
  unfold Oper.wp execOp
  simp only [ho, resolve, invoke, builtin, Sem.run_bind, Sem.run_pure, Result.andThen_ok, List.map_toArray, List.map_cons, List.map_nil, hs, hx, hr]
  exact h a' cap' w' h2 h3 h4
/-- A number's row is one of its cells. -/
theorem RowG.of_row {w : World} {a : Option Addr} {cap : Nat} {l : List Int} (h : RowAt w a cap l) : RowG 1 w a cap l.length (intc l) := ⟨by rw [intc_len]; simp, h.1, h.2.1, by simpa using h.2.2⟩
theorem RowG.to_row {w : World} {a : Option Addr} {cap n : Nat} {l : List Int} (h : RowG 1 w a cap n (intc l)) : RowAt w a cap l ∧ n = l.length := by
  have h1 := h.1
  rw [intc_len, Nat.mul_one] at h1
  exact ⟨⟨by rw [h1]; exact h.2.1, h.2.2.1, by simpa using h.2.2.2⟩, h1.symm⟩
def RowGA (s : Nat) (a : Option Addr) (cap n : Nat) (cs : List Value) : Asr where
  at_ w F := F = blk a ∧ RowG s w a cap n cs
  lt := by rintro w F ⟨rfl, h1⟩ x hx; exact h1.lt x hx
  chg := by rintro w w' F G ⟨rfl, h1⟩ c hd; exact ⟨rfl, h1.chg c hd⟩
/-- Cells that are read alone, and may be shared. -/
def PoolG (rs : List (Option Addr × List Value)) : Asr where
  at_ w F := (∀ x ∈ F, x < w.heap.size) ∧ ∀ r ∈ rs, (∀ x ∈ blk r.1, x ∈ F) ∧ CellsAt w r.1 r.2
  lt := fun h => h.1
  chg := by
    rintro w w' F G ⟨h1, h2⟩ c hd
    exact ⟨fun x hx => Nat.lt_of_lt_of_le (h1 x hx) c.size, fun r hr => ⟨(h2 r hr).1, (h2 r hr).2.chg c (fun x hx => hd x ((h2 r hr).1 x hx))⟩⟩
theorem Own.poolGAdd {w0 w w' : World} {As : List Asr} {rs : List (Option Addr × List Value)} (h : Own w0 w (PoolG rs :: As)) (hb : Below w.heap.size w w') {a' : Option Addr} {cs : List Value}
    (ha : CellsAt w' a' cs) (hl : ∀ x ∈ blk a', x < w'.heap.size) (hx : ∀ x ∈ blk a', (∃ r ∈ rs, x ∈ blk r.1) ∨ w.heap.size ≤ x) : Own w0 w' (PoolG ((a', cs) :: rs) :: As) := by
  obtain ⟨h1, F, ⟨F1, F2, rfl, ⟨h2, h2'⟩, h3, h4⟩, h5⟩ := h
  have hs := h1.size
  have hs2 := hb.size
  refine ⟨below_on h1 hb, (F1 ++ (blk a').filter (fun x => decide (w.heap.size ≤ x))) ++ F2, ⟨_, F2, rfl, ⟨fun x hx => ?_, fun q hq => ?_⟩, fun x hx hc => ?_, h4.chg (Chg.of_below (F := []) hb) (fun _ _ => by simp)⟩, fun x hx => ?_⟩
  · rcases List.mem_append.1 hx with h | h
    · have := h2 x h; omega
    · exact hl x (List.mem_filter.1 h).1
  · rcases List.mem_cons.1 hq with rfl | hq
    · refine ⟨fun x hx' => ?_, ha⟩
      rcases hx x hx' with ⟨r, hr, h⟩ | h
      · exact List.mem_append.2 (.inl ((h2' r hr).1 x h))
      · exact List.mem_append.2 (.inr (List.mem_filter.2 ⟨hx', by simpa using h⟩))
    · exact ⟨fun x hx => List.mem_append.2 (.inl ((h2' q hq).1 x hx)), (h2' q hq).2.below hb⟩
  · rcases List.mem_append.1 hx with h | h
    · exact h3 x h hc
    · have h6 : decide (w.heap.size ≤ x) = true := (List.mem_filter.1 h).2
      have h7 := h4.lt x hc
      have h8 := of_decide_eq_true h6
      omega
  · rcases List.mem_append.1 hx with h | h
    · rcases List.mem_append.1 h with h | h
      · exact h5 x (by simp [h])
      · have h6 : decide (w.heap.size ≤ x) = true := (List.mem_filter.1 h).2
        have h8 := of_decide_eq_true h6
        omega
    · exact h5 x (by simp [h])
theorem Own.poolGGet {w0 w : World} {As : List Asr} {rs : List (Option Addr × List Value)} (h : Own w0 w As) (i : Nat) (hi : As[i]? = some (PoolG rs)) {r : Option Addr × List Value} (hr : r ∈ rs) : CellsAt w r.1 r.2 ∧ ∀ x ∈ blk r.1, x < w.heap.size := by
  obtain ⟨F, ⟨h1, h2⟩, _⟩ := h.fact i hi
  exact ⟨(h2 r hr).2, fun x hx => h1 x ((h2 r hr).1 x hx)⟩
end Go.Proofs.YtdeilfnfpgjnnaaDoor
