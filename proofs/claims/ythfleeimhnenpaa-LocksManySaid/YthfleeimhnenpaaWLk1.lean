/-
  Locks in memory; the walks of their calls.
-/
import Derived.Test.YthfleeimhnenpaaIRow2
import Derived.Test.YthfleeimhnenpaaSep
open Go Go.RowKit
set_option linter.unusedVariables false
namespace Go.Proofs.Ythfleeimhnenpaa
/-- A lock at p: who has it, then who waits. -/
def LockAt (w : World) (p : Nat) (L : List Int) (F : List Nat) : Prop :=
  ∃ a cap, F = p :: blk a ∧ p ∉ blk a ∧ Blk w p [.bool (!L.isEmpty), .int .i64 (L.headD 0), .slice a L.tail.length cap] ∧ RowAt w a cap L.tail
theorem LockAt.chg {w w' : World} {p : Nat} {L : List Int} {F G : List Nat} (h : LockAt w p L F) (c : Chg G w w') (hd : ∀ x ∈ F, x ∉ G) : LockAt w' p L F := by
  obtain ⟨a, cap, rfl, h2, h3, h4⟩ := h
  exact ⟨a, cap, rfl, h2, h3.chg c (hd p (by simp)), h4.chg c (fun x hx => hd x (by simp [hx]))⟩
theorem LockAt.lt {w : World} {p : Nat} {L : List Int} {F : List Nat} (h : LockAt w p L F) : ∀ x ∈ F, x < w.heap.size := by
  obtain ⟨a, cap, rfl, h2, h3, h4⟩ := h
  intro x hx
  simp at hx
  rcases hx with rfl | hx
  · exact h3.lt (by simp)
  · exact h4.lt x hx
def LockA (p : Nat) (L : List Int) : Asr where
  at_ w F := LockAt w p L F
  lt := fun h => h.lt
  chg := fun h c d => h.chg c d
set_option maxRecDepth 100000 in
set_option maxHeartbeats 1000000 in
theorem knew_any (w : World) : Calls Try.prog 25 #[] w fun r w' => ∃ p, r = .returned (.pointer (some ⟨p, 0, none⟩)) ∧ LockAt w' p [] [p] ∧ w.heap.size ≤ p ∧ Below w.heap.size w w' := by
  have hf : LockAt (w.alloc (.cells #[.bool false, .int .i64 0, .slice none 0 0] 97)) w.heap.size [] [w.heap.size] ∧ w.heap.size ≤ w.heap.size ∧ Below w.heap.size w (w.alloc (.cells #[.bool false, .int .i64 0, .slice none 0 0] 97)) :=
    ⟨⟨none, 0, rfl, by simp [blk], Blk.mk w [.bool false, .int .i64 0, .slice none 0 0] _ _ rfl, RowAt.nil _⟩, Nat.le_refl _, below_alloc1 _ _⟩
  have HF := Lib.hid hf; clear hf
  go_enter Try.func25, Try.ntmps25
  go_wp2
  go_ret
  exact ⟨_, rfl, HF.out⟩
set_option maxRecDepth 100000 in
set_option maxHeartbeats 1000000 in
theorem kowner_any (w : World) (p : Nat) (L : List Int) (F : List Nat) (h : LockAt w p L F) :
    Calls Try.prog 32 #[.pointer (some ⟨p, 0, none⟩)] w fun r w' => r = .returned (.int .i64 (L.headD (-1))) ∧ w = w' := by
  obtain ⟨a, cap, rfl, h2, h3, h4⟩ := h
  cases L with
  | nil =>
    obtain ⟨g0, -⟩ := h3 0 _ rfl
    simp only [List.isEmpty_nil, Bool.not_true, List.headD_nil] at g0 ⊢
    clear h2 h3 h4
    go_enter Try.func32, Try.ntmps32
    go_wp2
    go_ret
    exact ⟨rfl, rfl⟩
  | cons x t =>
    obtain ⟨g0, -⟩ := h3 0 _ rfl
    obtain ⟨g1, -⟩ := h3 1 _ rfl
    simp only [List.isEmpty_cons, Bool.not_false, List.headD_cons] at g0 g1 ⊢
    clear h2 h3 h4
    go_enter Try.func32, Try.ntmps32
    go_wp2
    go_ret
    exact ⟨rfl, rfl⟩
set_option maxRecDepth 100000 in
set_option maxHeartbeats 1000000 in
theorem ktake_any (w : World) (p : Nat) (L : List Int) (F : List Nat) (g : Int) (h : LockAt w p L F) (hl : L.length ≤ 1000000) :
    Calls Try.prog 28 #[.pointer (some ⟨p, 0, none⟩), .int .i64 g] w fun r w' => r = .returned (.bool L.isEmpty) ∧ ∃ F', LockAt w' p (L ++ [g]) F' ∧ Chg F w w' ∧ ∀ x ∈ F', x ∈ F ∨ w.heap.size ≤ x := by
  have hFlt := h.lt
  obtain ⟨a, cap, rfl, h2, h3, h4⟩ := h
  cases L with
  | nil =>
    obtain ⟨g0, f0⟩ := h3 0 _ rfl
    obtain ⟨g1, f1⟩ := h3 1 _ rfl
    simp only [List.isEmpty_nil, Bool.not_true, List.headD_nil, List.tail_nil, List.length_nil] at g0 g1 h3 h4 ⊢
    have c : Chg [p] w ((w.setCell ⟨p, 0, none⟩ (.bool true)).setCell ⟨p, 1, none⟩ (.int .i64 g)) := ((Chg.refl _ _).setCell _ (.inl (by simp))).setCell _ (.inl (by simp))
    have hf : ∃ F', LockAt ((w.setCell ⟨p, 0, none⟩ (.bool true)).setCell ⟨p, 1, none⟩ (.int .i64 g)) p ([] ++ [g]) F' ∧ Chg (p :: blk a) w ((w.setCell ⟨p, 0, none⟩ (.bool true)).setCell ⟨p, 1, none⟩ (.int .i64 g)) ∧ ∀ x ∈ F', x ∈ p :: blk a ∨ w.heap.size ≤ x :=
      ⟨p :: blk a, ⟨a, cap, rfl, h2, (h3.set 0 _).set 1 _, h4.chg c (fun x hx => by simp; intro e; subst e; exact h2 hx)⟩, c.mono (fun x hx => by simp at hx; simp [hx]), fun x hx => .inl hx⟩
    have HF := Lib.hid hf; clear hf c h2 h3 h4 hFlt
    go_enter Try.func28, Try.ntmps28
    go_wp2
    go_ret
    exact ⟨rfl, HF.out⟩
  | cons x t =>
    obtain ⟨g0, f0⟩ := h3 0 _ rfl
    obtain ⟨g2, f2⟩ := h3 2 _ rfl
    simp only [List.isEmpty_cons, Bool.not_false, List.headD_cons, List.tail_cons, List.length_cons] at g0 g2 h3 h4 hl ⊢
    obtain ⟨i0, hi0, hz0, hz1, hz2⟩ := info_parts info_int
    have Hi := Lib.hid hi0; clear hi0
    have Hz0 := Lib.hid hz0; clear hz0
    have Hz1 := Lib.hid hz1; clear hz1
    have Hz2 := Lib.hid hz2; clear hz2
    have H2 := Lib.hid h2
    have H3 := Lib.hid h3
    have H4 := Lib.hid h4
    have HL := Lib.hid hFlt
    clear h2 h3 h4 hFlt
    go_enter Try.func28, Try.ntmps28
    go_wp2_with (at_builtin; refine wpList_append_row (l := t) (m := [g]) rfl _ _ 59 rfl 3 i0 _ Try.underlying59 Hi.out Hz0.out Hz1.out Hz2.out rfl rfl rfl rfl rfl (H4.out.below (below_alloc1 _ _)) (RowAt.one _ _ _ rfl).ints (by simp only [List.length_singleton]; omega) ?_)
    intro a1 c1 w1 k1 ch1 f1
    have hb := (H3.out.below (below_alloc1 w (.cells #[.int .i64 g] 3))).chg ch1 H2.out
    obtain ⟨g3, f3⟩ := hb 2 _ rfl
    have hp1 : p ∉ blk a1 := fun hx => by
      rcases f1 p hx with h | h
      · exact H2.out h
      · have := HL.out p (by simp); first | omega | (simp at h; omega)
    have cs : Chg [p] w1 (w1.setCell ⟨p, 2, none⟩ (.slice a1 (t.length + 1) c1)) := (Chg.refl _ _).setCell _ (.inl (by simp))
    have hf : ∃ F', LockAt (w1.setCell ⟨p, 2, none⟩ (.slice a1 (t.length + 1) c1)) p (x :: t ++ [g]) F' ∧ Chg (p :: blk a) w (w1.setCell ⟨p, 2, none⟩ (.slice a1 (t.length + 1) c1)) ∧ ∀ x ∈ F', x ∈ p :: blk a ∨ w.heap.size ≤ x := by
      refine ⟨p :: blk a1, ⟨a1, c1, rfl, hp1, ?_, k1.chg cs (fun x hx => by simp; intro e; subst e; exact hp1 hx)⟩, ?_, fun y hy => ?_⟩
      · simp only [List.cons_append, List.isEmpty_cons, Bool.not_false, List.headD_cons, List.tail_cons, List.length_append, List.length_singleton]
        exact hb.set 2 _
      · exact ((Chg.of_below (F := p :: blk a) (below_alloc1 w (.cells #[.int .i64 g] 3))).trans ch1 (fun y hy => .inl (by simp [hy]))).trans cs (fun y hy => .inl (by simp at hy; simp [hy]))
      · simp at hy
        rcases hy with rfl | hy
        · simp
        · rcases f1 y hy with h | h
          · simp [h]
          · exact .inr (by first | omega | (simp at h; omega))
    have HF := Lib.hid hf
    clear hf cs hp1 hb k1 ch1 f1
    go_wp2
    go_ret
    exact ⟨rfl, HF.out⟩
/-- What Give comes to: who has it then, the error's number; the list. -/
def gaveL (L : List Int) (g : Int) : List Int := match L with
  | [] => []
  | x :: t => if x = g then t else x :: t
def gaveR (L : List Int) (g : Int) : Int × Int := match L with
  | [] => (-1, 5)
  | x :: t => if x = g then (t.headD (-1), 0) else (-1, 5)
set_option maxRecDepth 100000 in
set_option maxHeartbeats 1000000 in
theorem kgive_any (w : World) (p : Nat) (L : List Int) (F : List Nat) (g : Int) (h : LockAt w p L F) :
    Calls Try.prog 30 #[.pointer (some ⟨p, 0, none⟩), .int .i64 g] w fun r w' => r = .returned (.tuple #[.int .i64 (gaveR L g).1, .int .i64 (gaveR L g).2]) ∧ ∃ F', LockAt w' p (gaveL L g) F' ∧ Chg F w w' ∧ ∀ x ∈ F', x ∈ F ∨ w.heap.size ≤ x := by
  have h0 := h
  obtain ⟨a, cap, rfl, h2, h3, h4⟩ := h
  cases L with
  | nil =>
    obtain ⟨g0, f0⟩ := h3 0 _ rfl
    simp only [List.isEmpty_nil, Bool.not_true] at g0
    unfold gaveR gaveL
    have H0 := Lib.hid h0
    clear h0 h2 h3 h4
    go_enter Try.func30, Try.ntmps30
    go_wp2
    go_ret2
    exact ⟨rfl, _, H0.out, Chg.refl _ _, fun x hx => .inl hx⟩
  | cons x t =>
    obtain ⟨g0, f0⟩ := h3 0 _ rfl
    obtain ⟨g1, f1⟩ := h3 1 _ rfl
    obtain ⟨g2, f2⟩ := h3 2 _ rfl
    simp only [List.isEmpty_cons, Bool.not_false, List.headD_cons, List.tail_cons] at g0 g1 g2 h3 h4
    unfold gaveR gaveL
    by_cases hx : x = g
    · subst hx
      simp only [if_true]
      cases t with
      | nil =>
        have c : Chg [p] w ((w.setCell ⟨p, 0, none⟩ (.bool false)).setCell ⟨p, 1, none⟩ (.int .i64 0)) := ((Chg.refl _ _).setCell _ (.inl (by simp))).setCell _ (.inl (by simp))
        have hf : ∃ F', LockAt ((w.setCell ⟨p, 0, none⟩ (.bool false)).setCell ⟨p, 1, none⟩ (.int .i64 0)) p [] F' ∧ Chg (p :: blk a) w ((w.setCell ⟨p, 0, none⟩ (.bool false)).setCell ⟨p, 1, none⟩ (.int .i64 0)) ∧ ∀ x ∈ F', x ∈ p :: blk a ∨ w.heap.size ≤ x :=
          ⟨p :: blk a, ⟨a, cap, rfl, h2, (h3.set 0 _).set 1 _, h4.chg c (fun x hx => by simp; intro e; subst e; exact h2 hx)⟩, c.mono (fun x hx => by simp at hx; simp [hx]), fun x hx => .inl hx⟩
        have HF := Lib.hid hf; clear hf c h0 h2 h3 h4
        simp only [List.length_nil] at g2
        go_enter Try.func30, Try.ntmps30
        go_wp2
        go_ret2
        exact ⟨rfl, HF.out⟩
      | cons y t =>
        obtain ⟨b, off, rfl, e1⟩ := h4.ints 0 (by simp)
        simp only [List.getElem_cons_zero, Nat.add_zero] at e1
        obtain ⟨a', hsl, hrow, hbl⟩ := slice_from under_ints size_int h4 1 (by simp)
        have hpb : p ≠ b := fun e => h2 (by simp [blk, e])
        have c : Chg [p] w ((w.setCell ⟨p, 1, none⟩ (.int .i64 y)).setCell ⟨p, 2, none⟩ (.slice a' (t.length + 1 - 1) (cap - 1))) := ((Chg.refl _ _).setCell _ (.inl (by simp))).setCell _ (.inl (by simp))
        have hf : ∀ wf, Chg [] ((w.setCell ⟨p, 1, none⟩ (.int .i64 y)).setCell ⟨p, 2, none⟩ (.slice a' (t.length + 1 - 1) (cap - 1))) wf → ∃ F', LockAt wf p (y :: t) F' ∧ Chg (p :: blk (some ⟨b, off, none⟩)) w wf ∧ ∀ x ∈ F', x ∈ p :: blk (some ⟨b, off, none⟩) ∨ w.heap.size ≤ x := fun wf cf => by
          have c2 := c.trans cf (fun x hx => by simp at hx)
          refine ⟨p :: blk a', ⟨a', cap - 1, rfl, by rw [hbl]; exact h2, ?_, hrow.chg c2 (fun x hx => by rw [hbl] at hx; simp; intro e; subst e; exact h2 hx)⟩, c2.mono (fun x hx => by simp at hx; simp [hx]), fun x hx => .inl (by rw [hbl] at hx; exact hx)⟩
          exact ((h3.set 1 _).set 2 _).chg cf (by simp)
        have HF := Lib.hid hf; clear hf c h0 h2 h3 h4 hrow hbl
        simp only [List.length_cons] at g2 hsl
        have hsl2 : ∀ w, (Instr.slice 59 (.slice (some ⟨b, off, none⟩) (t.length + 1) cap) (some (.int .i64 1)) none none).run Try.prog w = .ok (.slice a' (t.length + 1 - 1) (cap - 1)) w := hsl
        clear hsl
        go_enter Try.func30, Try.ntmps30
        go_wp2_with fail
        go_region
        all_goals
          go_wp2
          go_ret2
          exact ⟨rfl, HF.out _ (Chg.of_below (below_drew1 _))⟩
    · simp only [if_neg hx]
      have hne : (x == g) = false := by simpa using hx
      have hne2 : (x != g) = true := by simp [hx]
      have H0 := Lib.hid h0
      have HX := Lib.hid hx
      clear h0 h2 h3 h4 hx
      go_enter Try.func30, Try.ntmps30
      go_wp2
      go_ret2
      exact ⟨rfl, _, H0.out, Chg.refl _ _, fun x hx => .inl hx⟩
end Go.Proofs.Ythfleeimhnenpaa
