/-
  Channels: Drop.
-/
import Derived.Test.YtphjgfjfeehjhaaWCh6
open Go Go.RowKit
set_option linter.unusedVariables false
namespace Go.Proofs.Ytphjgfjfeehjhaa
def dropW (g : Int) (l : List Wt) : List Wt := l.filter fun x => !(x.1 == g)
theorem dropW_snoc (g : Int) (l : List Wt) (x : Wt) : dropW g (l ++ [x]) = if x.1 = g then dropW g l else dropW g l ++ [x] := by
  unfold dropW
  rw [List.filter_append]
  by_cases h : x.1 = g <;> simp [h]
theorem dropW_len (g : Int) (l : List Wt) : (dropW g l).length ≤ l.length := List.length_filter_le _ _
theorem dropW_none (g : Int) (l : List Wt) (h : ∀ j (hj : j < l.length), l[j].1 ≠ g) : dropW g l = l := by
  unfold dropW
  rw [List.filter_eq_self]
  intro x hx
  obtain ⟨j, hj, rfl⟩ := List.getElem_of_mem hx
  simpa using h j hj
theorem take_snoc_w (l : List Wt) (k : Nat) (h : k < l.length) : l.take (k + 1) = l.take k ++ [l[k]] := by rw [List.take_add_one, List.getElem?_eq_getElem h]; rfl
theorem wtc_set (l : List Wt) : ∀ (i : Nat) (x : Wt), i < l.length → (((wtc l).set (i * 3) (.int .i64 x.1)).set (i * 3 + 1) (.int .i64 x.2.1)).set (i * 3 + 2) (.int .i64 x.2.2) = wtc (l.set i x) := by
  induction l with
  | nil => intro i y h; simp at h
  | cons x l ih =>
    intro i y h
    cases i with
    | zero => rfl
    | succ i =>
      have := ih i y (by simpa using h)
      rw [wtc_cons, List.set_cons_succ, wtc_cons, show (i + 1) * 3 = i * 3 + 1 + 1 + 1 by omega]
      simp only [List.set_cons_succ]
      rw [this]
theorem RowG.setCell {s : Nat} {w : World} {b off cap n : Nat} {cs : List Value} (h : RowG s w (some ⟨b, off, none⟩) cap n cs) (j : Nat) (v : Value) (hj : j < cs.length) : RowG s (w.setCell ⟨b, off + j, none⟩ v) (some ⟨b, off, none⟩) cap n (cs.set j v) := by
  obtain ⟨h1, h2, h3, h4⟩ := h
  rcases h4 with ⟨h0, _⟩ | ⟨b', off', hb', hlt, h5, h6⟩
  · cases h0
  · simp only [Option.some.injEq, Addr.mk.injEq, and_true] at hb'
    obtain ⟨rfl, rfl⟩ := hb'
    have hms : n * s ≤ cap * s := Nat.mul_le_mul_right _ h2
    refine ⟨by rw [List.length_set]; exact h1, h2, h3, .inr ⟨b, off, rfl, by rw [World.size_setCell]; exact hlt, fun k hk => ⟨?_, by rw [World.frozen?_setCell]; exact (h5 k hk).2⟩, fun k u hk => ?_⟩⟩
    · by_cases e : k = j
      · subst e; rw [World.cell?_setCell_same' _ _ _ (h5 k hk).1]; rfl
      · rw [World.cell?_setCell_other _ _ _ _ (by simp <;> omega)]; exact (h5 k hk).1
    · by_cases e : k = j
      · subst e
        rw [List.getElem?_set_self hj] at hk
        obtain rfl : v = u := by simpa using hk
        exact World.cell?_setCell_same' _ _ _ (h5 k (by omega)).1
      · rw [List.getElem?_set_ne (by omega)] at hk
        rw [World.cell?_setCell_other _ _ _ _ (by simp <;> omega)]; exact h6 k u hk
theorem Own.rowSet {w0 w : World} {As : List Asr} {s b off cap n : Nat} {cs : List Value} (h : Own w0 w (RowGA s (some ⟨b, off, none⟩) cap n cs :: As)) (j : Nat) (v : Value) (hj : j < cs.length) : Own w0 (w.setCell ⟨b, off + j, none⟩ v) (RowGA s (some ⟨b, off, none⟩) cap n (cs.set j v) :: As) :=
  Own.rowTurn h ((h.rowG 0 rfl).setCell j v hj) ((Chg.refl _ _).setCell _ (.inl (by simp [blk]))) (fun x hx => .inl hx)
/-- clear of a slice. -/
theorem run_clearG {P : Program} {w : World} {s : Nat} (t ty e : TypeId) (z : Value) (ht : P.underlying t = some (.slice e)) (hv : ∀ w, (zeroValue e).run P w = .ok z w) (hzs : z.cells.size = s) (h1 : ∀ u ∈ z.cells.toList, u.oneCell' = true)
    {a : Option Addr} {cap n : Nat} {cs : List Value} (h : RowG s w a cap n cs) (c : Nat) : ∃ w', (Builtin.clear_ #[t] ty #[.slice a n c]).run P w = .ok (.tuple #[]) w' ∧ Chg (blk a) w w' := by
  rcases h.2.2.2 with ⟨rfl, h0⟩ | ⟨b, off, rfl, hlt, h5, h6⟩
  · exact ⟨w, by simp [Builtin.clear_, run_underlying ht], Chg.refl _ _⟩
  · rcases Nat.eq_zero_or_pos n with hn | hn
    · subst hn
      exact ⟨w, by simp [Builtin.clear_, run_underlying ht], Chg.refl _ _⟩
    · have hms : n * s ≤ cap * s := Nat.mul_le_mul_right _ h.2.1
      have hlen : (Builtin.zeroCells z.cells n).toList.length = n * s := by rw [Array.length_toList, size_zeroCells, hzs]
      have hone : ∀ u ∈ (Builtin.zeroCells z.cells n).toList, u.oneCell' = true := fun u hu => by
        unfold Builtin.zeroCells at hu
        rw [Array.mem_toList_iff, Array.mem_map] at hu
        obtain ⟨i, hi, rfl⟩ := hu
        have hp : 0 < z.cells.size := by
          rw [Array.mem_range] at hi
          rcases Nat.eq_zero_or_pos z.cells.size with e | e
          · rw [e] at hi; omega
          · exact e
        have hlt2 := Nat.mod_lt i hp
        rw [getElem!_pos z.cells _ hlt2]
        exact h1 _ (Array.mem_toList_iff.2 (Array.getElem_mem hlt2))
      have hst := run_storeCells_cells (P := P) b off (Builtin.zeroCells z.cells n).toList 0 w (fun j hj => by rw [hlen] at hj; simpa using (h5 j (by omega)).1) (fun j hj => by rw [hlen] at hj; simpa using (h5 j (by omega)).2) hone
      simp only [Nat.add_zero] at hst
      obtain ⟨m, rfl⟩ : ∃ m, n = m + 1 := ⟨n - 1, by omega⟩
      generalize hzl : (Builtin.zeroCells z.cells (m + 1)).toList = zl at *
      exact ⟨w.setCells b off zl, by simp [Builtin.clear_, run_underlying ht, hv, hzl, hst], (Chg.refl _ _).setCells _ _ (.inl (by simp [blk]))⟩
theorem wpList_clearG {P : Program} {w : World} {ops : Array Oper} {rest : List Oper} {o : Oper} {ac : Act} {Q : Exit → Act → World → Prop} (hgd : o.guard = none) (x : Operand) (t : TypeId)
    (ho : o.op = .call { callee := .builtin .clear, args := #[x], argTypes := #[t] }) {v : Value} {w' : World} (hx : ac.eval x = v) (hr : (Builtin.clear_ #[t] o.type #[v]).run P w = .ok (.tuple #[]) w')
    (h : wpList P ops Q rest (ac.put o.dst (.tuple #[])) w') : wpList P ops Q (o :: rest) ac w := by
  refine wpList_plain hgd fun K hK => ?_
  unfold Oper.wp execOp
  simp only [ho, resolve, invoke, builtin, Sem.run_bind, Sem.run_pure, Result.andThen_ok, List.map_toArray, List.map_cons, List.map_nil, hx, hr]
  exact hK _ _ h
set_option maxRecDepth 100000 in
set_option maxHeartbeats 1000000 in
theorem pred_any (x : Wt) (q : Nat) (g : Int) (w : World) (hq : w.cell? ⟨q, 0, none⟩ = some (.int .i64 g)) :
    Calls Try.prog 41 #[wv x, .pointer (some ⟨q, 0, none⟩)] w fun r w' => r = .returned (.bool (x.1 == g)) ∧ Below w.heap.size w w' := by
  obtain ⟨x1, x2, x3⟩ := x
  unfold wv
  simp only
  have hql := World.block_lt_of_cell? w _ hq
  go_enter Try.func41, Try.ntmps41
  go_wp2
  go_ret
  exact ⟨rfl, below_alloc1 _ _⟩
/-- Where the first one is. -/
def IdxW (l : List Wt) (g : Int) (w : World) (r : Ending) (w' : World) : Prop := Below w.heap.size w w' ∧ ((∃ i, ∃ h : i < l.length, r = .returned (.int .i64 (i : Int)) ∧ l[i].1 = g ∧ ∀ j (hj : j < i), (l[j]'(by omega)).1 ≠ g) ∨ (r = .returned (.int .i64 (-1)) ∧ ∀ j (hj : j < l.length), l[j].1 ≠ g))
def clo (q : Nat) : Value := .func (.func 41) #[] #[.pointer (some ⟨q, 0, none⟩)]
set_option maxRecDepth 100000 in
set_option maxHeartbeats 1000000 in
theorem index_any (w : World) (a : Option Addr) (n c : Nat) (l : List Wt) (q : Nat) (g : Int) (h : CellsAt w a (wtc l)) (hn : n = l.length) (hl : n ≤ 100000) (hq : w.cell? ⟨q, 0, none⟩ = some (.int .i64 g)) :
    Calls Try.prog 43 #[.slice a n c, clo q] w fun r w' => IdxW l g w r w' := by
  have H := Lib.hid h
  have HN := Lib.hid hn
  have HQ := Lib.hid hq
  clear h hn hq
  unfold clo
  go_enter Try.func43, Try.ntmps43
  go_wp2_with fail
  go_loopw [8] (fun s wr => ∃ i : Nat, i ≤ n ∧ s = .int .i64 i ∧ Hid (Below w.heap.size w wr ∧ ∀ j (hj : j < i) (hj2 : j < l.length), l[j].1 ≠ g)) (fun s _ => n - (intOf s).toNat)
  case atStart => exact ⟨0, by omega, rfl, Lib.hid ⟨Below.refl _ _, fun j hj => by omega⟩⟩
  case round =>
    obtain ⟨i, hi, rfl, hr⟩ := hrel
    by_cases hlt : i < n
    · have hil : i < l.length := by have := HN.out; omega
      obtain ⟨b, off, rfl, e1, e2, e3⟩ := (H.out.below hr.out.1).wt i hil
      have hp := pred_any l[i] q g wr (cell_below HQ.out hr.out.1)
      have HP := Lib.hid hp
      have hli : (i : Int) < (n : Int) := by omega
      have HI : Hid (l[i]'hil = l[i]'hil) := Lib.hid rfl
      clear hp
      obtain ⟨y, hy⟩ : ∃ y, y = l[i]'hil := ⟨_, rfl⟩
      rw [← hy] at e1 e2 e3 HP
      have HY := Lib.hid hy
      clear hy HI
      obtain ⟨y1, y2, y3⟩ := y
      unfold wv at HP
      simp only at e1 e2 e3 HP
      by_cases hyg : y1 = g
      · have hb : (y1 == g) = true := by rw [beq_iff_eq]; exact hyg
        rw [hb] at HP
        have HF : Hid (∀ w', Below wr.heap.size wr w' → IdxW l g w (.returned (.int .i64 (i : Int))) w') := Lib.hid fun w' hb => ⟨below_on hr.out.1 hb, .inl ⟨i, hil, rfl, by rw [← HY.out]; exact hyg, fun j hj => hr.out.2 j hj (by omega)⟩⟩
        clear hb hyg hr
        go_wp2_with fail
        refine HP.out.mono ?_
        rintro r w3 ⟨rfl, b3⟩
        have HZ := Lib.hid (HF.out _ b3)
        clear b3
        go_wp2
        go_ret
        exact HZ.out
      · have hb : (y1 == g) = false := by rw [beq_eq_false_iff_ne]; exact hyg
        rw [hb] at HP
        have HF : Hid (∀ w', Below wr.heap.size wr w' → Below w.heap.size w w' ∧ ∀ j (hj : j < i + 1) (hj2 : j < l.length), l[j].1 ≠ g) := Lib.hid fun w' hb => ⟨below_on hr.out.1 hb, fun j hj hj2 => by
          by_cases e : j = i
          · subst e; rw [← HY.out]; exact hyg
          · exact hr.out.2 j (by omega) hj2⟩
        clear hb hyg hr
        go_wp2_with fail
        refine HP.out.mono ?_
        rintro r w3 ⟨rfl, b3⟩
        have HZ := Lib.hid (HF.out _ b3)
        clear b3
        go_wp2
        exact ⟨⟨i + 1, by omega, by go_num, HZ⟩, by simp [intOf]; omega⟩
    · have hge : ¬ (i : Int) < (n : Int) := by omega
      have HF : Hid (IdxW l g w (.returned (.int .i64 (-1))) wr) := Lib.hid ⟨hr.out.1, .inr ⟨rfl, fun j hj => hr.out.2 j (by have := HN.out; omega) hj⟩⟩
      clear hr
      go_wp2
      go_ret
      exact HF.out
end Go.Proofs.Ytphjgfjfeehjhaa
