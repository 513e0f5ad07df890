/-
  A ring in memory; the walks of its calls.
-/
import Derived.Test.YtmldfckeenahlaaRows
import Derived.Test.YtmldfckeenahlaaIRow2
import Derived.Deep.QuietTactic
import Derived.BigQuiet
import Derived.WalkSmall
import Derived.Deep.DeepCutAuto
import Derived.RegionTactic
import Derived.Deep.RegionHeld3
import Derived.Deep.RegionWith
import Derived.Deep.RegionLaw
open Go Go.RowKit
set_option linter.unusedVariables false
namespace Go.Proofs.Ytmldfckeenahlaa
/-- Where the i-th stands. -/
theorem mod_place {N e i : Nat} (he : e < N) (hi : i ≤ N) : (e + i) % N = if e + i < N then e + i else e + i - N := by
  split
  · exact Nat.mod_eq_of_lt ‹_›
  · rw [Nat.mod_eq_sub_mod (by omega), Nat.mod_eq_of_lt (by omega)]
theorem mod_ne {N e i j : Nat} (he : e < N) (hi : i < N) (hj : j < N) (h : i ≠ j) : (e + i) % N ≠ (e + j) % N := by
  rw [mod_place he (by omega), mod_place he (by omega)]; split <;> split <;> omega
/-- A block without what is shared. -/
def Plain (w : World) (p : Nat) : Prop := ∃ ca ta, w.heap[p]? = some (.cells ca ta (0, 0))
theorem Plain.chg {F : List Nat} {w w' : World} {p : Nat} (h : Plain w p) (c : Chg F w w') (hp : p ∉ F) : Plain w' p := by
  obtain ⟨ca, ta, h1⟩ := h
  exact ⟨ca, ta, by rw [c.block p (Array.getElem?_eq_some_iff.1 h1).1 hp]; exact h1⟩
theorem Plain.set {w : World} {p b k : Nat} {v : Value} (h : Plain w p) : Plain (w.setCell ⟨b, k, none⟩ v) p := by
  obtain ⟨ca, ta, h1⟩ := h
  by_cases e : p = b
  · subst e; exact ⟨_, ta, heap_setCell_same w p k ca ta v h1⟩
  · exact ⟨ca, ta, by rw [heap_setCell_other w _ p v e]; exact h1⟩
theorem Plain.new (w : World) (cs : Array Value) (t : TypeId) {p : Nat} (hp : p = w.heap.size) : Plain (w.alloc (.cells cs t)) p := by
  subst hp; exact ⟨cs, t, heap_alloc_new w _⟩
/-- A ring: its three cells in block p from o on, its places in block g. -/
structure RingAt (w : World) (p o g N e : Nat) (l : List Int) : Prop where
  n1 : 1 ≤ N
  n2 : N ≤ 1024
  ll : l.length ≤ N
  el : e < N
  ne : g ≠ p
  c0 : w.cell? ⟨p, o, none⟩ = some (.slice (some ⟨g, 0, none⟩) N N)
  c1 : w.cell? ⟨p, o + 1, none⟩ = some (.int .i64 (e : Int))
  c2 : w.cell? ⟨p, o + 2, none⟩ = some (.int .i64 (l.length : Int))
  f1 : w.frozen? ⟨p, o + 1, none⟩ = false
  f2 : w.frozen? ⟨p, o + 2, none⟩ = false
  pl : Plain w p
  row : ∃ cs : List Value, cs.length = N ∧ Blk w g cs ∧ ∀ i (h : i < l.length), cs[(e + i) % N]? = some (.int .i64 l[i])
theorem RingAt.chg {F : List Nat} {w w' : World} {p o g N e : Nat} {l : List Int} (h : RingAt w p o g N e l) (c : Chg F w w') (hp : p ∉ F) (hg : g ∉ F) : RingAt w' p o g N e l := by
  obtain ⟨cs, h1, h2, h3⟩ := h.row
  have hk := c.block p (World.block_lt_of_cell? w _ h.c0) hp
  refine ⟨h.n1, h.n2, h.ll, h.el, h.ne, cell_chg h.c0 c hp, cell_chg h.c1 c hp, cell_chg h.c2 c hp, ?_, ?_, h.pl.chg c hp, cs, h1, h2.chg c hg, h3⟩
  · rw [World.frozen?_of_block (a := ⟨p, o + 1, none⟩) hk]; exact h.f1
  · rw [World.frozen?_of_block (a := ⟨p, o + 2, none⟩) hk]; exact h.f2
theorem RingAt.below {w w' : World} {p o g N e : Nat} {l : List Int} (h : RingAt w p o g N e l) (hb : Below w.heap.size w w') : RingAt w' p o g N e l :=
  h.chg (Chg.of_below (F := []) hb) (by simp) (by simp)
theorem RingAt.lt {w : World} {p o g N e : Nat} {l : List Int} (h : RingAt w p o g N e l) : p < w.heap.size ∧ g < w.heap.size := by
  obtain ⟨cs, h1, h2, h3⟩ := h.row
  have := h.n1
  exact ⟨World.block_lt_of_cell? w _ h.c0, h2.lt (by omega)⟩
/-- What a ring's call changes. -/
structure RChg (p o g : Nat) (w w' : World) : Prop where
  chg : Chg [p, g] w w'
  far : ∀ k, k < o → w'.cell? ⟨p, k, none⟩ = w.cell? ⟨p, k, none⟩ ∧ w'.frozen? ⟨p, k, none⟩ = w.frozen? ⟨p, k, none⟩
theorem RChg.refl (p o g : Nat) (w : World) : RChg p o g w w := ⟨Chg.refl _ _, fun _ _ => ⟨rfl, rfl⟩⟩
theorem RChg.trans {p o g : Nat} {a b c : World} (h : RChg p o g a b) (k : RChg p o g b c) : RChg p o g a c :=
  ⟨h.chg.trans k.chg (fun x hx => .inl hx), fun i hi => ⟨(k.far i hi).1.trans (h.far i hi).1, (k.far i hi).2.trans (h.far i hi).2⟩⟩
theorem RChg.of_below {p o g : Nat} {w w' : World} (hp : p < w.heap.size) (h : Below w.heap.size w w') : RChg p o g w w' :=
  ⟨Chg.of_below h, fun k hk => ⟨h.cell (p := ⟨p, k, none⟩) hp, h.frozen (p := ⟨p, k, none⟩) hp⟩⟩
theorem RChg.set {p o g : Nat} {w w' : World} (h : RChg p o g w w') (k : Nat) (v : Value) (hk : o ≤ k) : RChg p o g w (w'.setCell ⟨p, k, none⟩ v) :=
  ⟨h.chg.setCell v (.inl (by simp)), fun i hi => by
    rw [World.cell?_setCell_other _ _ _ _ (by simp <;> omega), World.frozen?_setCell]; exact h.far i hi⟩
theorem RChg.setG {p o g : Nat} {w w' : World} (h : RChg p o g w w') (k : Nat) (v : Value) (hg : g ≠ p) : RChg p o g w (w'.setCell ⟨g, k, none⟩ v) :=
  ⟨h.chg.setCell v (.inl (by simp)), fun i hi => by
    rw [World.cell?_setCell_other _ _ _ _ (by simp <;> omega), World.frozen?_setCell]; exact h.far i hi⟩
/-- One more. -/
theorem RingAt.push {w : World} {p o g N e : Nat} {l : List Int} (h : RingAt w p o g N e l) (hl : l.length < N) (v : Int) :
    RingAt ((w.setCell ⟨g, (e + l.length) % N, none⟩ (.int .i64 v)).setCell ⟨p, o + 2, none⟩ (.int .i64 ((l.length : Int) + 1))) p o g N e (l ++ [v]) ∧ RChg p o g w ((w.setCell ⟨g, (e + l.length) % N, none⟩ (.int .i64 v)).setCell ⟨p, o + 2, none⟩ (.int .i64 ((l.length : Int) + 1))) := by
  obtain ⟨cs, h1, h2, h3⟩ := h.row
  have hne := h.ne
  have el := h.el
  refine ⟨⟨h.n1, h.n2, by simp; omega, h.el, hne, ?_, ?_, ?_, ?_, ?_, h.pl.set.set, cs.set ((e + l.length) % N) (.int .i64 v), by simpa using h1, (h2.set _ _).setFar hne, ?_⟩, ((RChg.refl _ _ _ _).setG _ _ hne).set _ _ (by omega)⟩
  · rw [World.cell?_setCell_other _ _ _ _ (by simp), World.cell?_setCell_other _ _ _ _ (by simp <;> omega)]; exact h.c0
  · rw [World.cell?_setCell_other _ _ _ _ (by simp), World.cell?_setCell_other _ _ _ _ (by simp <;> omega)]; exact h.c1
  · rw [World.cell?_setCell_same' _ _ _ (by rw [World.cell?_setCell_other _ _ _ _ (by simp <;> omega), h.c2]; rfl)]; simp
  · rw [World.frozen?_setCell, World.frozen?_setCell]; exact h.f1
  · rw [World.frozen?_setCell, World.frozen?_setCell]; exact h.f2
  · intro i hi
    simp at hi
    have hm : (e + l.length) % N < N := Nat.mod_lt _ (by omega)
    by_cases hil : i = l.length
    · subst hil
      rw [List.getElem?_set_self (by omega)]; simp
    · rw [List.getElem?_set_ne (fun hc => mod_ne el (by omega) (by omega) (by omega) hc), List.getElem_append_left (by omega)]
      exact h3 i (by omega)
/-- One less. -/
theorem RingAt.pop {w : World} {p o g N e : Nat} {x : Int} {l : List Int} (h : RingAt w p o g N e (x :: l)) :
    RingAt ((w.setCell ⟨p, o + 1, none⟩ (.int .i64 (((e + 1) % N : Nat) : Int))).setCell ⟨p, o + 2, none⟩ (.int .i64 (l.length : Int))) p o g N ((e + 1) % N) l ∧ RChg p o g w ((w.setCell ⟨p, o + 1, none⟩ (.int .i64 (((e + 1) % N : Nat) : Int))).setCell ⟨p, o + 2, none⟩ (.int .i64 (l.length : Int))) := by
  obtain ⟨cs, h1, h2, h3⟩ := h.row
  have hne := h.ne
  have el := h.el
  have ll := h.ll
  simp at ll
  refine ⟨⟨h.n1, h.n2, by omega, Nat.mod_lt _ (by omega), hne, ?_, ?_, ?_, ?_, ?_, h.pl.set.set, cs, h1, (h2.setFar hne).setFar hne, ?_⟩, ((RChg.refl _ _ _ _).set _ _ (by omega)).set _ _ (by omega)⟩
  · rw [World.cell?_setCell_other _ _ _ _ (by simp), World.cell?_setCell_other _ _ _ _ (by simp)]; exact h.c0
  · rw [World.cell?_setCell_other _ _ _ _ (by simp), World.cell?_setCell_same' _ _ _ (by rw [h.c1]; rfl)]
  · rw [World.cell?_setCell_same' _ _ _ (by rw [World.cell?_setCell_other _ _ _ _ (by simp), h.c2]; rfl)]
  · rw [World.frozen?_setCell, World.frozen?_setCell]; exact h.f1
  · rw [World.frozen?_setCell, World.frozen?_setCell]; exact h.f2
  · intro i hi
    have := h3 (i + 1) (by simp <;> omega)
    simp only [List.getElem_cons_succ] at this
    rw [← this]
    congr 1
    rw [Nat.mod_add_mod, Nat.add_assoc, Nat.add_comm 1]
theorem RingAt.cell {w : World} {p o g N e : Nat} {l : List Int} (h : RingAt w p o g N e l) (i : Nat) (hi : i < l.length) : w.cell? ⟨g, (e + i) % N, none⟩ = some (.int .i64 l[i]) := by
  obtain ⟨cs, h1, h2, h3⟩ := h.row
  exact (h2 _ _ (h3 i hi)).1
theorem RingAt.spot {w : World} {p o g N e : Nat} {l : List Int} (h : RingAt w p o g N e l) (i : Nat) (hi : i < N) : (w.cell? ⟨g, i, none⟩).isSome = true ∧ w.frozen? ⟨g, i, none⟩ = false := by
  obtain ⟨cs, h1, h2, h3⟩ := h.row
  obtain ⟨k1, k2⟩ := h2.at i (by omega)
  exact ⟨by rw [k1]; rfl, k2⟩
set_option maxRecDepth 100000 in
set_option maxHeartbeats 1000000 in
theorem rlen_any (w : World) (p o g N e : Nat) (l : List Int) (h : RingAt w p o g N e l) :
    Calls Try.prog 39 #[.pointer (some ⟨p, o, none⟩)] w fun r w' => r = .returned (.int .i64 (l.length : Int)) ∧ w' = w := by
  have c2 := h.c2
  clear h
  go_enter Try.func39, Try.ntmps39
  go_wp2
  go_ret
  exact ⟨rfl, rfl⟩
set_option maxRecDepth 100000 in
set_option maxHeartbeats 1000000 in
theorem rroom_any (w : World) (p o g N e : Nat) (l : List Int) (h : RingAt w p o g N e l) :
    Calls Try.prog 44 #[.pointer (some ⟨p, o, none⟩)] w fun r w' => r = .returned (.int .i64 (N : Int)) ∧ w' = w := by
  have c0 := h.c0
  clear h
  go_enter Try.func44, Try.ntmps44
  go_wp2
  go_ret
  exact ⟨rfl, rfl⟩
set_option maxRecDepth 100000 in
set_option maxHeartbeats 1000000 in
theorem place_any (w : World) (p o g N e : Nat) (l : List Int) (h : RingAt w p o g N e l) (k : Nat) (hk : k ≤ 1024) :
    Calls Try.prog 43 #[.pointer (some ⟨p, o, none⟩), .int .i64 (k : Int)] w fun r w' => r = .returned (.int .i64 (((e + k) % N : Nat) : Int)) ∧ ∃ m, w' = w.drewN m := by
  have c0 := h.c0
  have c1 := h.c1
  have n1 := h.n1
  have n2 := h.n2
  have el := h.el
  clear h
  go_enter Try.func43, Try.ntmps43
  go_wp2_with fail
  go_quiet (fail)
  go_wp2
  go_ret
  exact ⟨ret_int (by simp), _, rfl⟩
theorem drewN_ring {w : World} {p o g N e : Nat} {l : List Int} (h : RingAt w p o g N e l) (m : Nat) : RingAt (w.drewN m) p o g N e l := h.below (below_drewN (Below.refl _ _) m)
set_option maxRecDepth 100000 in
set_option maxHeartbeats 1000000 in
theorem push_any (w : World) (p o g N e : Nat) (l : List Int) (v : Int) (h : RingAt w p o g N e l) (hl : l.length < N) :
    Calls Try.prog 37 #[.pointer (some ⟨p, o, none⟩), .int .i64 v] w fun r w' => r = .returned (.bool true) ∧ RingAt w' p o g N e (l ++ [v]) ∧ RChg p o g w w' := by
  have c0 := h.c0
  have c1 := h.c1
  have c2 := h.c2
  have n1 := h.n1
  have n2 := h.n2
  have el := h.el
  have ll := h.ll
  have ne := h.ne
  have ne' : p ≠ g := fun e => ne e.symm
  obtain ⟨hpl, hgl⟩ := h.lt
  have HPL := Lib.hid hpl; clear hpl hgl
  obtain ⟨n, hn⟩ : ∃ n, n = l.length := ⟨_, rfl⟩
  have H := Lib.hid h
  have HL := Lib.hid hl
  have hl' : n < N := by omega
  have hb : ((n : Int) == (N : Int)) = false := by rw [beq_eq_false_iff_ne]; omega
  rw [← hn] at c2
  have hs : ∀ w', Below w.heap.size w w' → RingAt ((w'.setCell ⟨g, (e + n) % N, none⟩ (.int .i64 v)).setCell ⟨p, o + 2, none⟩ (.int .i64 ((n : Int) + 1))) p o g N e (l ++ [v]) ∧ RChg p o g w ((w'.setCell ⟨g, (e + n) % N, none⟩ (.int .i64 v)).setCell ⟨p, o + 2, none⟩ (.int .i64 ((n : Int) + 1))) := fun w' hb => by
    have := (h.below hb).push HL.out v
    rw [← hn] at this
    exact ⟨this.1, (RChg.of_below HPL.out hb).trans this.2⟩
  have HS := Lib.hid hs
  obtain ⟨s1, s2⟩ := h.spot ((e + n) % N) (Nat.mod_lt _ (by omega))
  obtain ⟨v0, s1⟩ := Option.isSome_iff_exists.1 s1
  have f2 := h.f2
  have hm : (((e + n) % N : Nat) : Int) < (N : Int) := by have := Nat.mod_lt (e + n) (show 0 < N by omega); omega
  obtain ⟨k, hk⟩ : ∃ k, k = (e + n) % N := ⟨_, rfl⟩
  rw [← hk] at s1 s2 hm HS
  clear h hs hl
  have HK := Lib.hid hk; clear hk
  have HN := Lib.hid hn; clear hn
  go_enter Try.func37, Try.ntmps37
  go_wp2_with fail
  go_quiet (fail)
  go_wp2_with fail
  go_region_with (go_at_call 43; refine (place_any _ p o g N e l (drewN_ring H.out _) n (by omega)).mono ?_; rintro r w1 ⟨rfl, mq, rfl⟩; rw [← HK.out])
  all_goals
    go_wp2
    go_ret
    exact ⟨rfl, HS.out _ (below_drewN (Below.refl _ _) _)⟩
set_option maxRecDepth 100000 in
set_option maxHeartbeats 1000000 in
theorem push_full (w : World) (p o g N e : Nat) (l : List Int) (v : Int) (h : RingAt w p o g N e l) (hl : ¬ l.length < N) :
    Calls Try.prog 37 #[.pointer (some ⟨p, o, none⟩), .int .i64 v] w fun r w' => r = .returned (.bool false) ∧ RingAt w' p o g N e l ∧ RChg p o g w w' := by
  have c0 := h.c0
  have c2 := h.c2
  have ll := h.ll
  obtain ⟨hpl, hgl⟩ := h.lt
  have HPL := Lib.hid hpl; clear hpl hgl
  obtain ⟨n, hn⟩ : ∃ n, n = l.length := ⟨_, rfl⟩
  have H := Lib.hid h
  have hb : ((n : Int) == (N : Int)) = true := by rw [beq_iff_eq]; omega
  rw [← hn] at c2
  clear h hl ll
  have HN := Lib.hid hn; clear hn
  go_enter Try.func37, Try.ntmps37
  go_wp2_with fail
  go_quiet (fail)
  go_wp2
  go_ret
  exact ⟨rfl, drewN_ring H.out _, RChg.of_below HPL.out (below_drewN (Below.refl _ _) _)⟩
set_option maxRecDepth 100000 in
set_option maxHeartbeats 1000000 in
theorem pop_none (w : World) (p o g N e : Nat) (h : RingAt w p o g N e []) :
    Calls Try.prog 36 #[.pointer (some ⟨p, o, none⟩)] w fun r w' => r = .returned (.tuple #[.int .i64 0, .bool false]) ∧ RingAt w' p o g N e [] ∧ RChg p o g w w' := by
  have c2 : w.cell? ⟨p, o + 2, none⟩ = some (.int .i64 0) := h.c2
  obtain ⟨hpl, hgl⟩ := h.lt
  have HPL := Lib.hid hpl; clear hpl hgl
  have H := Lib.hid h
  clear h
  go_enter Try.func36, Try.ntmps36
  go_wp2
  go_ret2
  exact ⟨rfl, H.out, RChg.refl _ _ _ _⟩
set_option maxRecDepth 100000 in
set_option maxHeartbeats 1000000 in
theorem pop_any (w : World) (p o g N e : Nat) (x : Int) (l : List Int) (h : RingAt w p o g N e (x :: l)) :
    Calls Try.prog 36 #[.pointer (some ⟨p, o, none⟩)] w fun r w' => r = .returned (.tuple #[.int .i64 x, .bool true]) ∧ RingAt w' p o g N ((e + 1) % N) l ∧ RChg p o g w w' := by
  have c0 := h.c0
  have c1 := h.c1
  have c2 := h.c2
  have n1 := h.n1
  have n2 := h.n2
  have el := h.el
  have ll := h.ll
  have f1 := h.f1
  have f2 := h.f2
  obtain ⟨hpl, hgl⟩ := h.lt
  have HPL := Lib.hid hpl; clear hpl hgl
  have H := Lib.hid h
  simp only [List.length_cons] at ll c2
  obtain ⟨n, hn⟩ : ∃ n, n = l.length := ⟨_, rfl⟩
  rw [← hn] at c2 ll
  have hx : w.cell? ⟨g, e, none⟩ = some (.int .i64 x) := by
    have := h.cell 0 (by simp)
    rwa [Nat.add_zero, Nat.mod_eq_of_lt el] at this
  have hb : (((n + 1 : Nat) : Int) == 0) = false := by rw [beq_eq_false_iff_ne]; omega
  have hel : (e : Int) < (N : Int) := by omega
  have hs : ∀ w', Below w.heap.size w w' → RingAt ((w'.setCell ⟨p, o + 1, none⟩ (.int .i64 (((e + 1) % N : Nat) : Int))).setCell ⟨p, o + 2, none⟩ (.int .i64 (n : Int))) p o g N ((e + 1) % N) l ∧ RChg p o g w ((w'.setCell ⟨p, o + 1, none⟩ (.int .i64 (((e + 1) % N : Nat) : Int))).setCell ⟨p, o + 2, none⟩ (.int .i64 (n : Int))) := fun w' hb => by
    have := (h.below hb).pop
    rw [← hn] at this
    exact ⟨this.1, (RChg.of_below HPL.out hb).trans this.2⟩
  have HS := Lib.hid hs; clear hs h
  have HN := Lib.hid hn; clear hn
  obtain ⟨k, hk⟩ : ∃ k, k = (e + 1) % N := ⟨_, rfl⟩
  rw [← hk] at HS ⊢
  have HK := Lib.hid hk; clear hk
  go_enter Try.func36, Try.ntmps36
  go_wp2_with fail
  go_quiet (fail)
  go_wp2_with fail
  refine (place_any _ p o g N e (x :: l) (drewN_ring H.out _) 1 (by omega)).mono ?_
  rintro r w1 ⟨rfl, mq, rfl⟩
  rw [← HK.out]
  go_wp2
  go_ret2
  refine ⟨rfl, ?_⟩
  have := HS.out _ (below_drewN (below_drewN (Below.refl _ _) nq) mq)
  simpa using this
end Go.Proofs.Ytmldfckeenahlaa
