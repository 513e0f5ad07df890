/-
  What a call may change: blocks that it is told, and new ones. No program is named here.
-/
import Derived.Test.YtdeilfnfpgjnnaaDoorBase
import Derived.Laws.AppendOwn
import Derived.Lib.AppendStr
open Go Go.RowKit
set_option linter.unusedVariables false
namespace Go.Proofs.YtdeilfnfpgjnnaaDoor
/-- Behind w the world w': all blocks but those of F are as they were; there may be new ones. -/
structure Chg (F : List Nat) (w w' : World) : Prop where
  os : w'.os = w.os
  tape : w'.tape = w.tape
  output : w'.output = w.output
  size : w.heap.size ≤ w'.heap.size
  block : ∀ k, k < w.heap.size → k ∉ F → w'.heap[k]? = w.heap[k]?
theorem Chg.refl (F : List Nat) (w : World) : Chg F w w := ⟨rfl, rfl, rfl, Nat.le_refl _, fun _ _ _ => rfl⟩
theorem Chg.trans {F G : List Nat} {a b c : World} (h : Chg F a b) (k : Chg G b c) (hg : ∀ x ∈ G, x ∈ F ∨ a.heap.size ≤ x) : Chg F a c :=
  ⟨k.os.trans h.os, k.tape.trans h.tape, k.output.trans h.output, Nat.le_trans h.size k.size, fun x hx hn => by
    rw [k.block x (Nat.lt_of_lt_of_le hx h.size) (fun hG => by rcases hg x hG with h1 | h1; exact hn h1; omega)]
    exact h.block x hx hn⟩
theorem Chg.mono {F G : List Nat} {a b : World} (h : Chg F a b) (hs : ∀ x ∈ F, x ∈ G) : Chg G a b := ⟨h.os, h.tape, h.output, h.size, fun k hk hn => h.block k hk (fun hF => hn (hs k hF))⟩
theorem Chg.of_below {F : List Nat} {w w' : World} (h : Below w.heap.size w w') : Chg F w w' := ⟨h.os, h.tape, h.output, h.size, fun k hk _ => h.block k hk⟩
theorem Chg.to_below {F : List Nat} {w w' : World} {B : Nat} (h : Chg F w w') (hF : ∀ x ∈ F, B ≤ x) (hB : B ≤ w.heap.size) : Below B w w' :=
  ⟨h.os, h.tape, h.output, h.size, fun k hk => h.block k (by omega) (fun hx => by have := hF k hx; omega)⟩
/-- .. from another world on. -/
theorem Chg.below {F : List Nat} {w0 w w' : World} (h0 : Below w0.heap.size w0 w) (h : Chg F w w') (hF : ∀ x ∈ F, w0.heap.size ≤ x) : Below w0.heap.size w0 w' := h0.trans (h.to_below hF h0.size)
theorem Chg.to_below0 {w w' : World} (h : Chg [] w w') : Below w.heap.size w w' := h.to_below (fun _ hx => by simp at hx) (Nat.le_refl _)
theorem Chg.setCell {F : List Nat} {w w' : World} (h : Chg F w w') {b k : Nat} (v : Value) (hb : b ∈ F ∨ w.heap.size ≤ b) : Chg F w (w'.setCell ⟨b, k, none⟩ v) :=
  ⟨h.os, h.tape, h.output, by rw [World.size_setCell]; exact h.size, fun x hx hn => by
    rw [Below.heap_setCell _ _ _ _ (fun e => by
      subst e
      rcases hb with hb | hb
      · exact hn hb
      · omega)]
    exact h.block x hx hn⟩
theorem Chg.setCells {F : List Nat} {w w' : World} (h : Chg F w w') {b : Nat} : ∀ (vs : List Value) (o : Nat), (b ∈ F ∨ w.heap.size ≤ b) → Chg F w (w'.setCells b o vs) := fun vs => by
  induction vs generalizing w' with
  | nil => intro o _; exact h
  | cons v vs ih => intro o hb; rw [World.setCells]; exact ih (h.setCell v hb) (o + 1) hb
theorem Chg.drewN {F : List Nat} {w w' : World} (h : Chg F w w') (n : Nat) : Chg F w (w'.drewN n) := ⟨h.os, h.tape, h.output, h.size, h.block⟩
theorem Chg.drew {F : List Nat} {w w' : World} (h : Chg F w w') : Chg F w w'.drew := ⟨h.os, h.tape, h.output, h.size, h.block⟩
theorem Chg.grown {F : List Nat} {w w1 w' : World} {row : Option Nat} (h : Chg F w w1) (hg : w1.grownBy w' row) (hr : ∀ x, row = some x → x ∈ F ∨ w.heap.size ≤ x) : Chg F w w' :=
  ⟨hg.os.trans h.os, hg.tape.trans h.tape, hg.output.trans h.output, Nat.le_trans h.size hg.size, fun x hx hn => by
    rw [hg.block x (Nat.lt_of_lt_of_le hx h.size) (fun e => by rcases hr x e.symm with h1 | h1; exact hn h1; omega)]
    exact h.block x hx hn⟩
theorem cell_of_heap {w w' : World} {b k : Nat} (h : w'.heap[b]? = w.heap[b]?) : w'.cell? ⟨b, k, none⟩ = w.cell? ⟨b, k, none⟩ := World.cell?_of_block (a := ⟨b, k, none⟩) h
theorem Blk.chg {F : List Nat} {w w' : World} {b : Nat} {cs : List Value} (h : Blk w b cs) (c : Chg F w w') (hb : b ∉ F) : Blk w' b cs := fun j v hj => by
  obtain ⟨h1, h2⟩ := h j v hj
  have hlt := World.block_lt_of_cell? w _ h1
  have hk := c.block b hlt hb
  exact ⟨by rw [cell_of_heap hk]; exact h1, by rw [World.frozen?_of_block (a := ⟨b, j, none⟩) hk]; exact h2⟩
theorem cell_chg {F : List Nat} {w w' : World} {b k : Nat} {v : Value} (h : w.cell? ⟨b, k, none⟩ = some v) (c : Chg F w w') (hb : b ∉ F) : w'.cell? ⟨b, k, none⟩ = some v := by
  rw [cell_of_heap (c.block b (World.block_lt_of_cell? w _ h) hb)]; exact h
theorem owns_chg {F : List Nat} {w w' : World} {base n size : Nat} {e : TypeId} {v : Value} {xs : List Value} (h : w.ownsRow base e size v n xs) (c : Chg F w w') (hb : ∀ g, v.ownBlock = some g → g ∉ F) : w'.ownsRow base e size v n xs := by
  refine ⟨h.1, ?_⟩
  rcases h.2 with hn | ⟨g, cap, cur, rfl, hbg, hg, rest⟩
  · exact .inl hn
  · refine .inr ⟨g, cap, cur, rfl, hbg, ?_, rest⟩
    rw [c.block g (Array.getElem?_eq_some_iff.1 hg).1 (hb g rfl)]; exact hg
theorem owns_lt {w : World} {base n size : Nat} {e : TypeId} {v : Value} {xs : List Value} (h : w.ownsRow base e size v n xs) (g : Nat) (hg : v.ownBlock = some g) : g < w.heap.size := (h.lt g hg).2
theorem owns_slice {w : World} {base n size : Nat} {e : TypeId} {v : Value} {xs : List Value} (h : w.ownsRow base e size v n xs) : ∃ a cap, v = .slice a n cap := by
  rcases h.2 with ⟨rfl, hn⟩ | ⟨g, cap, cur, rfl, _⟩
  · exact ⟨none, 0, by rw [hn]⟩
  · exact ⟨_, _, rfl⟩
/-- Bytes as cells. -/
def u8c (l : List UInt8) : List Value := l.map fun b => .int .u8 (b.toNat : Int)
theorem u8c_len (l : List UInt8) : (u8c l).length = l.length := by unfold u8c; rw [List.length_map]
theorem u8c_app (l m : List UInt8) : u8c (l ++ m) = u8c l ++ u8c m := by unfold u8c; rw [List.map_append]
theorem u8c_take (l : List UInt8) (n : Nat) : u8c (l.take n) = (u8c l).take n := by unfold u8c; rw [List.map_take]
theorem u8c_at (l : List UInt8) (i : Nat) (h : i < l.length) : (u8c l)[i]? = some (.int .u8 (l[i].toNat : Int)) := by unfold u8c; rw [List.getElem?_map, List.getElem?_eq_getElem h]; rfl
theorem u8c_one (l : List UInt8) : ∀ v ∈ u8c l, v.oneCell' = true := fun v hv => by
  unfold u8c at hv; simp only [List.mem_map] at hv; obtain ⟨b, _, rfl⟩ := hv; rfl
theorem strCells_eq (s : ByteArray) : Go.Lib.strCells s = u8c s.data.toList := rfl
/-- append(v, s...): the new row, and where it lies. -/
theorem append_str {P : Program} {w : World} (t u ty e : TypeId) (i : TypeInfo) (ht : P.underlying t = some (.slice e)) (hu : P.underlying u = some .string) (hi : P.info? e = some i) (hz : i.zero = some (.int .u8 0))
    (hsize : i.size = 1) (hby : i.bytes = 1) {v : Value} {n : Nat} {l : List UInt8} (hown : w.ownsRow 0 e 1 v n (u8c l)) (s : ByteArray) (h47 : n + s.size ≤ 140737488355328) :
    ∃ v' w', (Builtin.append_ #[t, u] ty #[v, .string s]).run P w = .ok v' w' ∧ w'.ownsRow 0 e 1 v' (n + s.size) (u8c (l ++ s.data.toList)) ∧ w.grownBy w' v.ownBlock ∧ (v'.ownBlock = v.ownBlock ∨ v'.ownBlock = some w.heap.size) := by
  have h63 : n + s.size ≤ maxLen := by unfold maxLen; omega
  obtain ⟨v', w', hr, h2, h3, h4⟩ := Go.Lib.run_append_own_string (P := P) w 0 t u ty e i ht hu hi hz hsize hby v n (u8c l) hown s h63 h47 (Nat.zero_le _)
  refine ⟨v', w', hr, by rw [u8c_app, ← strCells_eq]; exact h2, h3, ?_⟩
  have hxl : (u8c l).length = n := by simpa using hown.1
  rcases hown.2 with ⟨rfl, rfl⟩ | ⟨g, cap, cur, rfl, hbg, hg, hnc, hcm, hcs, htake⟩
  · by_cases hm : s.size = 0
    · have := h4.2 ⟨rfl, hm⟩
      subst this
      exact .inl rfl
    · have hr2 := run_append_nil_string (P := P) w t u ty e i (.int .u8 0) ht hu hi hz s (by omega) (by unfold maxLen at h63; omega) (by rw [hby]; omega)
      rw [hr] at hr2
      simp only [Result.ok.injEq] at hr2
      rw [hr2.1]; exact .inr rfl
  · by_cases hroom : n + s.size ≤ cap
    · have hcs2 : cur.size = cap := by simpa using hcs
      have hr2 := Go.Lib.run_append_room_string (P := P) w t u ty e i ht hu hi hsize g n cap cur hg s hroom (by omega)
      rw [hr] at hr2
      simp only [Result.ok.injEq] at hr2
      rw [hr2.1]; exact .inl rfl
    · have holds : ∀ j u, (u8c l)[j]? = some u → w.cell? ((⟨g, 0, none⟩ : Addr).add j) = some u := hown.cells (g := g) rfl
      have hr2 := Go.Lib.run_append_grow_string (P := P) w t u ty e i (.int .u8 0) ht hu hi hz ⟨g, 0, none⟩ n cap (u8c l) (by rw [hsize]; simpa using hxl) holds s (by omega) (by unfold maxLen at h63; omega) (by rw [hby]; exact growslice_fits (by omega) (by omega))
      rw [hr] at hr2
      simp only [Result.ok.injEq] at hr2
      rw [hr2.1]; exact .inr rfl
theorem wpList_append_str {P : Program} {w : World} {ops : Array Oper} {rest : List Oper} {o : Oper} {a : Act} {Q : Exit → Act → World → Prop} (hgd : o.guard = none) (sl x : Operand) (t u : TypeId)
    (ho : o.op = .call { callee := .builtin .append, args := #[sl, x], argTypes := #[t, u] }) (e : TypeId) (i : TypeInfo) (ht : P.underlying t = some (.slice e)) (hu : P.underlying u = some .string) (hi : P.info? e = some i) (hz : i.zero = some (.int .u8 0))
    (hsize : i.size = 1) (hby : i.bytes = 1) (v : Value) (n : Nat) (l : List UInt8) (hs : a.eval sl = v) (hown : w.ownsRow 0 e 1 v n (u8c l)) (s : ByteArray) (hx : a.eval x = .string s) (h47 : n + s.size ≤ 140737488355328)
    (h : ∀ v' w', w'.ownsRow 0 e 1 v' (n + s.size) (u8c (l ++ s.data.toList)) → w.grownBy w' v.ownBlock → (v'.ownBlock = v.ownBlock ∨ v'.ownBlock = some w.heap.size) → wpList P ops Q rest (a.put o.dst v') w') : wpList P ops Q (o :: rest) a w := by
  refine wpList_plain hgd fun K hK => ?_
  obtain ⟨v', w', hr, h2, h3, h4⟩ := append_str (P := P) (w := w) t u o.type e i ht hu hi hz hsize hby hown s h47
  unfold Oper.wp execOp
  simp only [ho, resolve, invoke, builtin, Sem.run_bind, Sem.run_pure, Result.andThen_ok, List.map_toArray, List.map_cons, List.map_nil, hs, hx, hr]
  exact hK _ _ (h v' w' h2 h3 h4)
theorem grownBy_chg {w w' : World} {row : Option Nat} (h : w.grownBy w' row) : Chg row.toList w w' := ⟨h.os, h.tape, h.output, h.size, fun k hk hn => h.block k hk (fun e => hn (by rw [← e]; simp))⟩
theorem owns_take {w : World} {e : TypeId} {a : Option Addr} {n cap : Nat} {xs : List Value} (h : w.ownsRow 0 e 1 (.slice a n cap) n xs) (m : Nat) (hm : m ≤ n) : w.ownsRow 0 e 1 (.slice a m cap) m (xs.take m) := by
  have hx : xs.length = n := by simpa using h.1
  refine ⟨by rw [List.length_take]; omega, ?_⟩
  rcases h.2 with ⟨hv, hn⟩ | ⟨g, cap', cur, hv, hb, hg, h2, h3, h4, h5⟩
  · simp only [Value.slice.injEq] at hv
    obtain ⟨rfl, _, rfl⟩ := hv
    exact .inl ⟨by rw [show m = 0 by omega], by omega⟩
  · simp only [Value.slice.injEq, true_and] at hv
    obtain ⟨rfl, rfl⟩ := hv
    refine .inr ⟨g, cap, cur, rfl, hb, hg, by omega, h3, h4, ?_⟩
    rw [← h5, List.take_take]; congr 1; omega
theorem copy_none {P : Program} (w : World) (dT sT ty elem : TypeId) (t : ByteArray) (hu : P.underlying dT = some (.slice elem)) (hz : ∀ w, (Go.sizeOf elem).run P w = .ok 1 w) :
    (Builtin.copy_ #[dT, sT] ty #[.slice none 0 0, .string t]).run P w = .ok (goInt (Nat.min t.size 0)) w := by
  simp [Builtin.copy_, run_underlying hu, Builtin.lenOf, Builtin.firstCells, hz]
/-- copy(dst, s), s a text, whichever is longer. -/
theorem copy_str {P : Program} (w : World) (dT sT ty elem : TypeId) (b o dLen dCap : Nat) (t : ByteArray) (hu : P.underlying dT = some (.slice elem)) (hz : ∀ w, (Go.sizeOf elem).run P w = .ok 1 w)
    (hc : ∀ j, j < dLen → (w.cell? ⟨b, o + j, none⟩).isSome = true) (hf : ∀ j, j < dLen → w.frozen? ⟨b, o + j, none⟩ = false) :
    (Builtin.copy_ #[dT, sT] ty #[.slice (some ⟨b, o, none⟩) dLen dCap, .string t]).run P w = .ok (goInt (Nat.min t.size dLen)) (w.setCells b o (u8c (t.data.toList.take dLen))) := by
  have hl : (u8c (t.data.toList.take dLen)).length ≤ dLen := by rw [u8c_len, List.length_take]; omega
  have hst := run_storeCells_cells (P := P) b o (u8c (t.data.toList.take dLen)) 0 w (fun j hj => hc j (by omega)) (fun j hj => hf j (by omega)) (u8c_one _)
  have e : ((t.data.toList.map fun x => Value.int .u8 (x.toNat : Int)).take (Nat.min t.size dLen)) = u8c (t.data.toList.take dLen) := by
    show (u8c t.data.toList).take _ = _
    rw [u8c_take, show Nat.min t.size dLen = min dLen (u8c t.data.toList).length by rw [u8c_len]; show min t.size dLen = min dLen t.data.toList.length; simp [Nat.min_comm]]
    rw [List.take_eq_take_iff]; omega
  simp [Builtin.copy_, run_underlying hu, Builtin.lenOf, Builtin.firstCells, hz]
  rw [e, hst]
  rfl
theorem owns_setCells {e : TypeId} {g n cap : Nat} : ∀ (vs : List Value) (o : Nat) (w : World) (xs : List Value), w.ownsRow 0 e 1 (.slice (some ⟨g, 0, none⟩) n cap) n xs → o + vs.length ≤ n →
    (w.setCells g o vs).ownsRow 0 e 1 (.slice (some ⟨g, 0, none⟩) n cap) n (xs.take o ++ (vs ++ xs.drop (o + vs.length)))
  | [], o, w, xs, h, _ => by simpa [World.setCells] using h
  | v :: vs, o, w, xs, h, hn => by
    have hx : xs.length = n := by simpa using h.1
    have ho : o < xs.length := by simp at hn; omega
    have h1 : (w.setCell ⟨g, o, none⟩ v).ownsRow 0 e 1 (.slice (some ⟨g, 0, none⟩) n cap) n (xs.set o v) := by
      refine ⟨by simpa using h.1, ?_⟩
      rcases h.2 with ⟨hv, _⟩ | ⟨g', cap', cur, hv, hb, hg, h2, h3, h4, h5⟩
      · cases hv
      · simp only [Value.slice.injEq, Option.some.injEq, Addr.mk.injEq, and_true, true_and] at hv
        obtain ⟨rfl, rfl⟩ := hv
        refine .inr ⟨g, cap, cur.set! o v, rfl, hb, heap_setCell_same _ _ _ _ _ _ hg, h2, h3, by simpa using h4, ?_⟩
        rw [← h5, Array.set!_eq_setIfInBounds, Array.toList_setIfInBounds, List.take_set]
    have := owns_setCells vs (o + 1) _ _ h1 (by simp at hn ⊢; omega)
    rw [World.setCells]
    have e : (xs.set o v).take (o + 1) ++ (vs ++ (xs.set o v).drop (o + 1 + vs.length)) = xs.take o ++ (v :: vs ++ xs.drop (o + (v :: vs).length)) := by
      rw [take_set_succ _ _ _ ho, List.drop_set_of_lt (by omega)]
      simp [List.append_assoc, Nat.add_assoc, Nat.add_comm 1]
    rw [e] at this
    exact this
end Go.Proofs.YtdeilfnfpgjnnaaDoor
