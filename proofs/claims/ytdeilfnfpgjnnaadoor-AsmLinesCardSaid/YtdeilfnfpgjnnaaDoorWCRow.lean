/-
  Rows of one's own, of whatever cells, and rows of such rows, as pieces of memory.
-/
import Derived.Test.YtdeilfnfpgjnnaaDoorWCRef5
import Derived.Test.YtdeilfnfpgjnnaaDoorSep
open Go Go.RowKit
set_option linter.unusedVariables false
namespace Go.Proofs.YtdeilfnfpgjnnaaDoor
/-- A row of one's own. -/
def OwnA (e : TypeId) (size : Nat) (v : Value) (n : Nat) (xs : List Value) : Asr where
  at_ w F := F = v.ownBlock.toList ∧ w.ownsRow 0 e size v n xs
  lt := by rintro w F ⟨rfl, h⟩ x hx; exact owns_lt h x (by simpa using hx)
  chg := by rintro w w' F G ⟨rfl, h⟩ c hd; exact ⟨rfl, owns_chg h c (fun g hg => hd g (by rw [hg]; simp))⟩
theorem Own.emptyRow {w0 w : World} {As : List Asr} (h : Own w0 w As) (t : TypeId) (size : Nat) {b : Nat} (hb : b = w.heap.size) : Own w0 (w.alloc (.cells #[] t)) (OwnA t size (.slice (some ⟨b, 0, none⟩) 0 0) 0 [] :: As) := by
  subst hb
  exact h.add (below_alloc1 _ _) (F := [w.heap.size]) ⟨rfl, World.ownsRow_made w #[] 0 (Nat.zero_le _) (by simp) (by simp)⟩ (fun x hx => by simp at hx; omega)
theorem Own.nilRow {w0 w : World} {As : List Asr} (h : Own w0 w As) (t : TypeId) (size : Nat) : Own w0 w (OwnA t size (.slice none 0 0) 0 [] :: As) :=
  h.add (Below.refl _ _) (F := []) ⟨rfl, World.ownsRow_nil _ _ _ _⟩ (fun x hx => by simp at hx)
theorem Own.owned {w0 w : World} {As : List Asr} (h : Own w0 w As) (i : Nat) {t : TypeId} {size : Nat} {v : Value} {n : Nat} {xs : List Value} (hi : As[i]? = some (OwnA t size v n xs)) : w.ownsRow 0 t size v n xs := by
  obtain ⟨F, ⟨_, h1⟩, _⟩ := h.fact i hi; exact h1
/-- One more, by append: what is appended was laid in a block ahead. -/
theorem Own.more {w0 w w2 : World} {R : List Asr} {t : TypeId} {size : Nat} {a : Option Addr} {n c g cap : Nat} {xs ys : List Value} {o : Obj} (h : Own w0 w (OwnA t size (.slice a n c) n xs :: R))
    (hown : w2.ownsRow 0 t size (.slice (some ⟨g, 0, none⟩) (n + 1) cap) (n + 1) (xs ++ ys)) (hgr : (w.alloc o).grownBy w2 (Value.slice a n c).ownBlock)
    (hlies : (Value.slice a n c).ownBlock = some g ∨ g = w.heap.size + 1) : Own w0 w2 (OwnA t size (.slice (some ⟨g, 0, none⟩) (n + 1) cap) (n + 1) (xs ++ ys) :: R) := by
  refine Own.turn (As := [OwnA t size (.slice a n c) n xs]) (As' := [OwnA t size (.slice (some ⟨g, 0, none⟩) (n + 1) cap) (n + 1) (xs ++ ys)]) (R := R) h (fun F hF => ?_)
  obtain ⟨rfl, h1⟩ := sep_one.1 hF
  refine ⟨[g], sep_one.2 ⟨rfl, hown⟩, (Chg.of_below (below_alloc1 _ _)).trans (grownBy_chg hgr) (fun x hx => .inl hx), fun y hy => ?_⟩
  simp at hy
  subst hy
  rcases hlies with h | h
  · left; rw [h]; simp
  · right; omega
def inc (l : List In4) : List Value := l.flatMap fun x => [.int .i64 x.1, .int .i64 x.2.1, .int .i64 x.2.2.1, .int .i64 x.2.2.2]
def cac (l : List Ca3) : List Value := l.flatMap fun x => [.int .i64 x.1, .int .i64 x.2.1, .int .i64 x.2.2]
theorem inc_app (l m : List In4) : inc (l ++ m) = inc l ++ inc m := by unfold inc; rw [List.flatMap_append]
theorem cac_app (l m : List Ca3) : cac (l ++ m) = cac l ++ cac m := by unfold cac; rw [List.flatMap_append]
theorem inc_at : ∀ (l : List In4) (i : Nat) (h : i < l.length), (inc l)[i * 4]? = some (.int .i64 l[i].1) ∧ (inc l)[i * 4 + 1]? = some (.int .i64 l[i].2.1) ∧ (inc l)[i * 4 + 2]? = some (.int .i64 l[i].2.2.1) ∧ (inc l)[i * 4 + 3]? = some (.int .i64 l[i].2.2.2)
  | [], i, h => by simp at h
  | x :: l, 0, h => ⟨rfl, rfl, rfl, rfl⟩
  | x :: l, i + 1, h => by
    have ih := inc_at l i (by simpa using h)
    have e : inc (x :: l) = [.int .i64 x.1, .int .i64 x.2.1, .int .i64 x.2.2.1, .int .i64 x.2.2.2] ++ inc l := rfl
    rw [e]
    simp only [List.getElem_cons_succ]
    refine ⟨?_, ?_, ?_, ?_⟩ <;> (rw [List.getElem?_append_right (by simp; omega)])
    · rw [show (i + 1) * 4 - List.length [Value.int .i64 x.1, .int .i64 x.2.1, .int .i64 x.2.2.1, .int .i64 x.2.2.2] = i * 4 by simp; omega]; exact ih.1
    · rw [show (i + 1) * 4 + 1 - List.length [Value.int .i64 x.1, .int .i64 x.2.1, .int .i64 x.2.2.1, .int .i64 x.2.2.2] = i * 4 + 1 by simp; omega]; exact ih.2.1
    · rw [show (i + 1) * 4 + 2 - List.length [Value.int .i64 x.1, .int .i64 x.2.1, .int .i64 x.2.2.1, .int .i64 x.2.2.2] = i * 4 + 2 by simp; omega]; exact ih.2.2.1
    · rw [show (i + 1) * 4 + 3 - List.length [Value.int .i64 x.1, .int .i64 x.2.1, .int .i64 x.2.2.1, .int .i64 x.2.2.2] = i * 4 + 3 by simp; omega]; exact ih.2.2.2
theorem cac_at : ∀ (l : List Ca3) (i : Nat) (h : i < l.length), (cac l)[i * 3]? = some (.int .i64 l[i].1) ∧ (cac l)[i * 3 + 1]? = some (.int .i64 l[i].2.1) ∧ (cac l)[i * 3 + 2]? = some (.int .i64 l[i].2.2)
  | [], i, h => by simp at h
  | x :: l, 0, h => ⟨rfl, rfl, rfl⟩
  | x :: l, i + 1, h => by
    have ih := cac_at l i (by simpa using h)
    have e : cac (x :: l) = [.int .i64 x.1, .int .i64 x.2.1, .int .i64 x.2.2] ++ cac l := rfl
    rw [e]
    simp only [List.getElem_cons_succ]
    refine ⟨?_, ?_, ?_⟩ <;> (rw [List.getElem?_append_right (by simp; omega)])
    · rw [show (i + 1) * 3 - List.length [Value.int .i64 x.1, .int .i64 x.2.1, .int .i64 x.2.2] = i * 3 by simp; omega]; exact ih.1
    · rw [show (i + 1) * 3 + 1 - List.length [Value.int .i64 x.1, .int .i64 x.2.1, .int .i64 x.2.2] = i * 3 + 1 by simp; omega]; exact ih.2.1
    · rw [show (i + 1) * 3 + 2 - List.length [Value.int .i64 x.1, .int .i64 x.2.1, .int .i64 x.2.2] = i * 3 + 2 by simp; omega]; exact ih.2.2
theorem owned_cell {w : World} {t : TypeId} {size : Nat} {a : Option Addr} {n cap : Nat} {xs : List Value} (h : w.ownsRow 0 t size (.slice a n cap) n xs) (hn : 0 < n) : ∃ g, a = some ⟨g, 0, none⟩ ∧ ∀ j u, xs[j]? = some u → w.cell? ⟨g, j, none⟩ = some u := by
  rcases h.2 with ⟨_, h0⟩ | ⟨g, cap', cur, hv, _⟩
  · omega
  · simp only [Value.slice.injEq] at hv
    obtain ⟨rfl, _, _⟩ := hv
    refine ⟨g, rfl, fun j u hj => ?_⟩
    have := World.ownsRow.cells h (g := g) rfl j u hj
    rwa [Addr.add_lit, Nat.zero_add] at this
theorem InsAt.of_own {w : World} {t : TypeId} {a : Option Addr} {n cap : Nat} {l : List In4} (h : w.ownsRow 0 t 4 (.slice a n cap) n (inc l)) (hn : n = l.length) : InsAt w a l := fun i hi => by
  obtain ⟨g, rfl, hc⟩ := owned_cell h (by omega)
  obtain ⟨h1, h2, h3, h4⟩ := inc_at l i hi
  exact ⟨g, 0, rfl, by simpa using hc _ _ h1, by simpa using hc _ _ h2, by simpa using hc _ _ h3, by simpa using hc _ _ h4⟩
theorem CasAt.of_own {w : World} {t : TypeId} {a : Option Addr} {n cap : Nat} {l : List Ca3} (h : w.ownsRow 0 t 3 (.slice a n cap) n (cac l)) (hn : n = l.length) : CasAt w a l := fun i hi => by
  obtain ⟨g, rfl, hc⟩ := owned_cell h (by omega)
  obtain ⟨h1, h2, h3⟩ := cac_at l i hi
  exact ⟨g, 0, rfl, by simpa using hc _ _ h1, by simpa using hc _ _ h2, by simpa using hc _ _ h3⟩
theorem InsAt.chg {G : List Nat} {w w' : World} {a : Option Addr} {l : List In4} (h : InsAt w a l) (c : Chg G w w') (hd : ∀ x ∈ blk a, x ∉ G) : InsAt w' a l := fun i hi => by
  obtain ⟨b, off, rfl, h2, h3, h4, h5⟩ := h i hi
  have hb : b ∉ G := hd b (by simp [blk])
  exact ⟨b, off, rfl, cell_chg h2 c hb, cell_chg h3 c hb, cell_chg h4 c hb, cell_chg h5 c hb⟩
/-- A row of rows of instructions, all of one's own. -/
def FunA (T : TypeId) (v : Value) (vs : List Value) (l : List (List In4)) : Asr where
  at_ w F := ∃ F2, F = v.ownBlock.toList ++ F2 ∧ (∀ x ∈ v.ownBlock.toList, x ∉ F2) ∧ (∀ x ∈ F2, x < w.heap.size) ∧ w.ownsRow 0 T 1 v l.length vs ∧ ∀ i (h : i < l.length), ∃ a' c', vs[i]? = some (.slice a' l[i].length c') ∧ InsAt w a' l[i] ∧ ∀ x ∈ blk a', x ∈ F2
  lt := by
    rintro w F ⟨F2, rfl, _, h2, h3, _⟩ x hx
    rcases List.mem_append.1 hx with hx | hx
    · exact owns_lt h3 x (by simpa using hx)
    · exact h2 x hx
  chg := by
    rintro w w' F G ⟨F2, rfl, h1, h2, h3, h4⟩ c hd
    refine ⟨F2, rfl, h1, fun x hx => Nat.lt_of_lt_of_le (h2 x hx) c.size, owns_chg h3 c (fun g hg => hd g (by rw [hg]; simp)), fun i hi => ?_⟩
    obtain ⟨a', c', k1, k2, k3⟩ := h4 i hi
    exact ⟨a', c', k1, k2.chg c (fun x hx => hd x (by simp [k3 x hx])), k3⟩
theorem Own.noFun {w0 w : World} {As : List Asr} (h : Own w0 w As) (T : TypeId) : Own w0 w (FunA T (.slice none 0 0) [] [] :: As) :=
  h.add (Below.refl _ _) (F := []) ⟨[], rfl, by simp, by simp, World.ownsRow_nil _ _ _ _, fun i hi => by simp at hi⟩ (fun x hx => by simp at hx)
theorem Own.fun {w0 w : World} {As : List Asr} (h : Own w0 w As) (i : Nat) {T : TypeId} {v : Value} {vs : List Value} {l : List (List In4)} (hi : As[i]? = some (FunA T v vs l)) : w.ownsRow 0 T 1 v l.length vs := by
  obtain ⟨F, ⟨F2, _, _, _, h1, _⟩, _⟩ := h.fact i hi; exact h1
theorem Own.funAt {w0 w : World} {As : List Asr} (h : Own w0 w As) (i : Nat) {T : TypeId} {a : Option Addr} {n c : Nat} {vs : List Value} {l : List (List In4)} (hn : n = l.length) (hi : As[i]? = some (FunA T (.slice a n c) vs l)) : FunAt w a l := by
  obtain ⟨F, ⟨F2, _, _, _, h1, h2⟩, _⟩ := h.fact i hi
  subst hn
  intro j hj
  obtain ⟨g, rfl, hc⟩ := owned_cell h1 (by omega)
  obtain ⟨a', c', k1, k2, _⟩ := h2 j hj
  exact ⟨g, 0, a', c', rfl, by simpa using hc _ _ k1, k2⟩
/-- A row more. -/
theorem Own.addFun {w0 w w2 : World} {R : List Asr} {T E : TypeId} {a a6 : Option Addr} {n c n6 c6 g cap : Nat} {vs : List Value} {l : List (List In4)} {f : List In4} {o : Obj} (h : Own w0 w (FunA T (.slice a n c) vs l :: OwnA E 4 (.slice a6 n6 c6) n6 (inc f) :: R)) (hn : n = l.length) (hn6 : n6 = f.length)
    (hown : w2.ownsRow 0 T 1 (.slice (some ⟨g, 0, none⟩) (n + 1) cap) (n + 1) (vs ++ [.slice a6 n6 c6])) (hgr : (w.alloc o).grownBy w2 (Value.slice a n c).ownBlock)
    (hlies : (Value.slice a n c).ownBlock = some g ∨ g = w.heap.size + 1) : Own w0 w2 (FunA T (.slice (some ⟨g, 0, none⟩) (n + 1) cap) (vs ++ [.slice a6 n6 c6]) (l ++ [f]) :: R) := by
  refine Own.turn (As := [FunA T (.slice a n c) vs l, OwnA E 4 (.slice a6 n6 c6) n6 (inc f)]) (As' := [FunA T (.slice (some ⟨g, 0, none⟩) (n + 1) cap) (vs ++ [.slice a6 n6 c6]) (l ++ [f])]) (R := R) h (fun F hF => ?_)
  obtain ⟨F1, F3, rfl, ⟨F2, rfl, h1, h2, h3, h4⟩, h5, h6⟩ := hF
  obtain ⟨rfl, h7⟩ := sep_one.1 h6
  have hc : Chg (Value.slice a n c).ownBlock.toList w w2 := (Chg.of_below (below_alloc1 _ _)).trans (grownBy_chg hgr) (fun x hx => .inl hx)
  have hvl : vs.length = l.length := by have := h3.1; simpa using this
  have h7lt : ∀ x ∈ (Value.slice a6 n6 c6).ownBlock.toList, x < w.heap.size := fun x hx => owns_lt h7 x (by simpa using hx)
  refine ⟨[g] ++ (F2 ++ (Value.slice a6 n6 c6).ownBlock.toList), sep_one.2 ⟨F2 ++ (Value.slice a6 n6 c6).ownBlock.toList, rfl, ?_, ?_, by rw [List.length_append, ← hn]; exact hown, fun i hi => ?_⟩, hc.mono (fun x hx => by simp only [List.mem_append]; exact .inl (.inl hx)), fun x hx => ?_⟩
  · intro x hx hx2
    have hxg : x = g := by simpa [Value.ownBlock] using hx
    subst hxg
    rcases hlies with e | e
    · rcases List.mem_append.1 hx2 with h | h
      · exact h1 x (by rw [e]; simp) h
      · exact h5 x (by rw [e]; simp) h
    · rcases List.mem_append.1 hx2 with h | h
      · have := h2 x h; omega
      · have := h7lt x h; omega
  · intro x hx
    rcases List.mem_append.1 hx with h | h
    · exact Nat.lt_of_lt_of_le (h2 x h) hc.size
    · exact Nat.lt_of_lt_of_le (h7lt x h) hc.size
  · by_cases hil : i < l.length
    · obtain ⟨a', c', k1, k2, k3⟩ := h4 i hil
      rw [List.getElem_append_left hil]
      exact ⟨a', c', by rw [List.getElem?_append_left (by omega)]; exact k1, k2.chg hc (fun x hx hx2 => h1 x hx2 (k3 x hx)), fun x hx => by simp [k3 x hx]⟩
    · have hie : i = l.length := by rw [List.length_append] at hi; simp at hi; omega
      subst hie
      rw [List.getElem_append_right (Nat.le_refl _)]
      simp only [Nat.sub_self, List.getElem_cons_zero]
      have hbk : ∀ x ∈ blk a6, x ∈ (Value.slice a6 n6 c6).ownBlock.toList := fun x hx => by rw [blk_own]; exact hx
      exact ⟨a6, c6, by rw [List.getElem?_append_right (by omega), hvl, Nat.sub_self, hn6]; rfl, (InsAt.of_own h7 hn6).chg hc (fun x hx hx2 => h5 x (by simp [hx2]) (hbk x hx)), fun x hx => List.mem_append.2 (.inr (hbk x hx))⟩
  · rcases List.mem_append.1 hx with hx | hx
    · have hxg : x = g := by simpa using hx
      subst hxg
      rcases hlies with e | e
      · left; simp [e]
      · right; omega
    · left
      rcases List.mem_append.1 hx with h | h
      · simp [h]
      · exact List.mem_append.2 (.inr h)
end Go.Proofs.YtdeilfnfpgjnnaaDoor
