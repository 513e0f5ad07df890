/-
  A queue and the global row in memory; the walks of their calls.
-/
import Derived.Test.YtmldfckeenahlaaWRing2
import Derived.Deep.RegionLaw
open Go Go.RowKit
set_option linter.unusedVariables false
namespace Go.Proofs.Ytmldfckeenahlaa
/-- .. and other blocks, made behind. -/
theorem RChg.more {p o g : Nat} {F : List Nat} {w w2 w3 : World} (h : RChg p o g w w2) (c : Chg F w2 w3) (hp : p ∉ F) (hF : ∀ x ∈ F, w.heap.size ≤ x) (hpl : p < w2.heap.size) : RChg p o g w w3 :=
  ⟨h.chg.trans c (fun x hx => .inr (hF x hx)), fun k hk => by
    have := c.block p hpl hp
    rw [cell_of_heap this, World.frozen?_of_block (a := ⟨p, k, none⟩) this]; exact h.far k hk⟩
/-- The global row at b. -/
def GloAt (w : World) (b : Nat) (gl : List Int) (F : List Nat) : Prop := ∃ a cap, F = b :: blk a ∧ b ∉ blk a ∧ Blk w b [.slice a gl.length cap] ∧ RowAt w a cap gl
theorem GloAt.chg {w w' : World} {b : Nat} {gl : List Int} {F G : List Nat} (h : GloAt w b gl F) (c : Chg G w w') (hd : ∀ x ∈ F, x ∉ G) : GloAt w' b gl F := by
  obtain ⟨a, cap, rfl, h2, h3, h4⟩ := h
  exact ⟨a, cap, rfl, h2, h3.chg c (hd b (by simp)), h4.chg c (fun x hx => hd x (by simp [hx]))⟩
theorem GloAt.below {w w' : World} {b : Nat} {gl : List Int} {F : List Nat} (h : GloAt w b gl F) (hb : Below w.heap.size w w') : GloAt w' b gl F := h.chg (Chg.of_below (F := []) hb) (fun _ _ => by simp)
theorem GloAt.lt {w : World} {b : Nat} {gl : List Int} {F : List Nat} (h : GloAt w b gl F) : ∀ x ∈ F, x < w.heap.size := by
  obtain ⟨a, cap, rfl, h2, h3, h4⟩ := h
  intro x hx
  simp at hx
  rcases hx with rfl | hx
  · exact h3.lt (by simp)
  · exact h4.lt x hx
theorem GloAt.head {w : World} {b : Nat} {gl : List Int} {F : List Nat} (h : GloAt w b gl F) : b ∈ F := by obtain ⟨a, cap, rfl, _⟩ := h; simp
theorem GloAt.new (w : World) (t : TypeId) {b : Nat} (hb : b = w.heap.size) : GloAt (w.alloc (.cells #[.slice none 0 0] t)) b [] [b] := ⟨none, 0, rfl, by simp [blk], Blk.mk _ [_] _ _ hb, RowAt.nil _⟩
set_option maxRecDepth 100000 in
set_option maxHeartbeats 1000000 in
theorem gput_any (w : World) (b : Nat) (gl : List Int) (F : List Nat) (h : GloAt w b gl F) (a : Option Addr) (n c : Nat) (m : List Int) (hn : n = m.length) (hm : IntsAt w a m) (hl : gl.length + m.length ≤ 1000000000) :
    Calls Try.prog 28 #[.pointer (some ⟨b, 0, none⟩), .slice a n c] w fun r w' => r = .returned (.tuple #[]) ∧ Chg F w w' ∧ ∃ F', GloAt w' b (gl ++ m) F' ∧ ∀ x ∈ F', x ∈ F ∨ w.heap.size ≤ x := by
  have hFlt := h.lt
  obtain ⟨a0, cap, rfl, h2, h3, h4⟩ := h
  obtain ⟨g0, f0⟩ := h3 0 _ rfl
  obtain ⟨i0, hi0, hz0, hz1, hz2⟩ := info_parts info_int
  have Hi := Lib.hid hi0; clear hi0
  have Hz0 := Lib.hid hz0; clear hz0
  have Hz1 := Lib.hid hz1; clear hz1
  have Hz2 := Lib.hid hz2; clear hz2
  have HM := Lib.hid hm; clear hm
  have H2 := Lib.hid h2
  have H3 := Lib.hid h3
  have H4 := Lib.hid h4
  have HF := Lib.hid hFlt
  have HN := Lib.hid hn
  clear h2 h3 h4 hFlt hn
  go_enter Try.func28, Try.ntmps28
  go_wp2_with (at_builtin; refine wpList_append_row (l := gl) (m := m) rfl _ _ 35 rfl 3 i0 _ Try.underlying35 Hi.out Hz0.out Hz1.out Hz2.out rfl rfl rfl rfl HN.out H4.out HM.out hl ?_)
  intro a1 c1 w1 k1 ch1 f1
  have hb := H3.out.chg ch1 H2.out
  obtain ⟨g1, f2⟩ := hb 0 _ rfl
  have hb1 : b ∉ blk a1 := fun hx => by
    rcases f1 b hx with h | h
    · exact H2.out h
    · have := HF.out b (by simp); omega
  have cs : Chg [b] w1 (w1.setCell ⟨b, 0, none⟩ (.slice a1 (gl.length + n) c1)) := (Chg.refl _ _).setCell _ (.inl (by simp))
  have hfin : Chg (b :: blk a0) w (w1.setCell ⟨b, 0, none⟩ (.slice a1 (gl.length + n) c1)) ∧ ∃ F', GloAt (w1.setCell ⟨b, 0, none⟩ (.slice a1 (gl.length + n) c1)) b (gl ++ m) F' ∧ ∀ x ∈ F', x ∈ b :: blk a0 ∨ w.heap.size ≤ x := by
    refine ⟨(ch1.mono (fun x hx => by simp [hx])).trans cs (fun x hx => by simp at hx; simp [hx]), b :: blk a1, ⟨a1, c1, rfl, hb1, ?_, k1.chg cs (fun x hx => by simp; intro e; subst e; exact hb1 hx)⟩, fun x hx => ?_⟩
    · rw [List.length_append, ← HN.out]; exact hb.set 0 _
    · simp at hx
      rcases hx with rfl | hx
      · simp
      · rcases f1 x hx with h | h
        · simp [h]
        · exact .inr h
  have HFIN := Lib.hid hfin
  clear hfin cs hb1 hb k1 ch1 f1
  go_wp2
  go_end0
  exact ⟨rfl, HFIN.out⟩
/-- Who goes next, and the ring's numbers. -/
structure LQ where
  nx : Option Int
  l : List Int
/-- A queue at p, its places in g. -/
def LocAt (w : World) (p g N : Nat) (q : LQ) : Prop :=
  (∃ e, RingAt w p 2 g N e q.l) ∧ (w.cell? ⟨p, 0, none⟩ = some (.bool q.nx.isSome) ∧ w.frozen? ⟨p, 0, none⟩ = false) ∧ (w.cell? ⟨p, 1, none⟩ = some (.int .i64 (q.nx.getD 0)) ∧ w.frozen? ⟨p, 1, none⟩ = false)
theorem LocAt.chg {w w' : World} {p g N : Nat} {q : LQ} {G : List Nat} (h : LocAt w p g N q) (c : Chg G w w') (hp : p ∉ G) (hg : g ∉ G) : LocAt w' p g N q := by
  obtain ⟨⟨e, h1⟩, ⟨h2, h3⟩, h4, h5⟩ := h
  have hk := c.block p h1.lt.1 hp
  refine ⟨⟨e, h1.chg c hp hg⟩, ⟨cell_chg h2 c hp, ?_⟩, cell_chg h4 c hp, ?_⟩
  · rw [World.frozen?_of_block (a := ⟨p, 0, none⟩) hk]; exact h3
  · rw [World.frozen?_of_block (a := ⟨p, 1, none⟩) hk]; exact h5
theorem LocAt.below {w w' : World} {p g N : Nat} {q : LQ} (h : LocAt w p g N q) (hb : Below w.heap.size w w') : LocAt w' p g N q := h.chg (Chg.of_below (F := []) hb) (by simp) (by simp)
theorem LocAt.lt {w : World} {p g N : Nat} {q : LQ} (h : LocAt w p g N q) : p < w.heap.size ∧ g < w.heap.size := by obtain ⟨⟨e, h1⟩, _⟩ := h; exact h1.lt
theorem LocAt.ll {w : World} {p g N : Nat} {q : LQ} (h : LocAt w p g N q) : q.l.length ≤ N ∧ 1 ≤ N ∧ N ≤ 1024 ∧ g ≠ p := by obtain ⟨⟨e, h1⟩, _⟩ := h; exact ⟨h1.ll, h1.n1, h1.n2, h1.ne⟩
/-- Its ring is another one. -/
theorem LocAt.ring {w w' : World} {p g N e' : Nat} {q : LQ} {l' : List Int} (h : LocAt w p g N q) (h1 : RingAt w' p 2 g N e' l') (h2 : RChg p 2 g w w') : LocAt w' p g N ⟨q.nx, l'⟩ := by
  obtain ⟨_, ⟨k2, k3⟩, k4, k5⟩ := h
  have f0 := h2.far 0 (by omega)
  have f1 := h2.far 1 (by omega)
  exact ⟨⟨e', h1⟩, ⟨by rw [f0.1]; exact k2, by rw [f0.2]; exact k3⟩, by rw [f1.1]; exact k4, by rw [f1.2]; exact k5⟩
/-- Who goes next is another one. -/
theorem LocAt.setNext {w : World} {p g N : Nat} {q : LQ} (h : LocAt w p g N q) (nx : Option Int) :
    LocAt ((w.setCell ⟨p, 0, none⟩ (.bool nx.isSome)).setCell ⟨p, 1, none⟩ (.int .i64 (nx.getD 0))) p g N ⟨nx, q.l⟩ ∧ Chg [p, g] w ((w.setCell ⟨p, 0, none⟩ (.bool nx.isSome)).setCell ⟨p, 1, none⟩ (.int .i64 (nx.getD 0))) := by
  obtain ⟨⟨e, h1⟩, ⟨k2, k3⟩, k4, k5⟩ := h
  obtain ⟨cs, r1, r2, r3⟩ := h1.row
  have hne := h1.ne
  refine ⟨⟨⟨e, h1.n1, h1.n2, h1.ll, h1.el, hne, ?_, ?_, ?_, ?_, ?_, h1.pl.set.set, cs, r1, (r2.setFar hne).setFar hne, r3⟩, ⟨?_, ?_⟩, ?_, ?_⟩, ((Chg.refl _ _).setCell _ (.inl (by simp))).setCell _ (.inl (by simp))⟩
  · rw [World.cell?_setCell_other _ _ _ _ (by simp), World.cell?_setCell_other _ _ _ _ (by simp)]; exact h1.c0
  · rw [World.cell?_setCell_other _ _ _ _ (by simp), World.cell?_setCell_other _ _ _ _ (by simp)]; exact h1.c1
  · rw [World.cell?_setCell_other _ _ _ _ (by simp), World.cell?_setCell_other _ _ _ _ (by simp)]; exact h1.c2
  · rw [World.frozen?_setCell, World.frozen?_setCell]; exact h1.f1
  · rw [World.frozen?_setCell, World.frozen?_setCell]; exact h1.f2
  · rw [World.cell?_setCell_other _ _ _ _ (by simp), World.cell?_setCell_same' _ _ _ (by rw [k2]; rfl)]
  · rw [World.frozen?_setCell, World.frozen?_setCell]; exact k3
  · rw [World.cell?_setCell_same' _ _ _ (by rw [World.cell?_setCell_other _ _ _ _ (by simp), k4]; rfl)]
  · rw [World.frozen?_setCell, World.frozen?_setCell]; exact k5
/-- Who goes next, as a number. -/
def LQ.num (q : LQ) : Int := q.nx.getD (-1)
set_option maxRecDepth 100000 in
set_option maxHeartbeats 1000000 in
theorem lnext_any (w : World) (p g N : Nat) (q : LQ) (h : LocAt w p g N q) :
    Calls Try.prog 10 #[.pointer (some ⟨p, 0, none⟩)] w fun r w' => r = .returned (.int .i64 q.num) ∧ w' = w := by
  obtain ⟨-, ⟨k2, -⟩, k4, -⟩ := h
  unfold LQ.num
  cases hq : q.nx with
  | none =>
    rw [hq] at k2 k4
    simp only [Option.isSome_none, Option.getD_none] at k2 k4 ⊢
    clear hq
    go_enter Try.func10, Try.ntmps10
    go_wp2
    go_ret
    exact ⟨rfl, rfl⟩
  | some v =>
    rw [hq] at k2 k4
    simp only [Option.isSome_some, Option.getD_some] at k2 k4 ⊢
    clear hq
    go_enter Try.func10, Try.ntmps10
    go_wp2
    go_ret
    exact ⟨rfl, rfl⟩
end Go.Proofs.Ytmldfckeenahlaa
