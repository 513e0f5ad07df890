/-
  The walks of the document's queues: Ready, Get.
-/
import Derived.Test.YtmldfckeenahlaaWRef8
open Go Go.RowKit
set_option linter.unusedVariables false
namespace Go.Proofs.Ytmldfckeenahlaa
set_option maxRecDepth 100000 in
set_option maxHeartbeats 1000000 in
theorem x8ready_any (w : World) (a ga : Option Addr) (n c gn gc N : Nat) (q : LQ) (gl : List Int) (v : Int) (hn : n = q.l.length) (hgn : gn = gl.length) (h : RowAt w a c q.l) (hg : RowAt w ga gc gl) (hl : q.l.length ≤ 1024) (hgl : gl.length ≤ 1000000) (hN : N ≤ 1024) (hnn : ∀ v, q.nx = some v → 0 ≤ v) :
    Calls Try.prog 17 #[xv q.num a n c N, .int .i64 v, .slice ga gn gc] w fun r w' => X8 w w' r N v (mTurn N q gl).1.l (mTurn N q gl).2.1 ((mTurn N q gl).2.2 : Int) (blk a ++ blk ga) := by
  have HG := Lib.hid hg
  have H := Lib.hid h
  obtain ⟨s0, hs0⟩ : ∃ s0, s0 = w.heap.size := ⟨_, rfl⟩
  have hO : ∀ nx, Own w ((w.alloc (.cells #[.int .i64 nx, .slice a n c, .int .i64 (N : Int)] 48)).alloc (.cells #[.int .i64 0, .slice none 0 0, .int .i64 0] 48)) [CelA (s0 + 1) [.int .i64 0, .slice none 0 0, .int .i64 0], CelA s0 [.int .i64 nx, .slice a n c, .int .i64 (N : Int)]] := fun nx =>
    ((Own.nil (Below.refl _ _)).alloc _ _ hs0).alloc _ _ (by simp [hs0])
  have HS := Lib.hid hs0
  cases hq : q.nx with
  | none =>
    have e1 : mTurn N q gl = (q, gl, 0) := by unfold mTurn; rw [hq]
    have e2 : q.num = -1 := by unfold LQ.num; rw [hq]; rfl
    rw [e1, e2]
    have HNN := Lib.hid hn
    have HGN := Lib.hid hgn
    unfold xv
    have hO1 := Lib.hid (hO (-1))
    clear hO h hg e1 e2 hq hnn hn hgn
    go_enter Try.func17, Try.ntmps17
    go_upto_region 1 with fail
    rw [← hs0]
    generalize (w.alloc (.cells #[.int .i64 (-1), .slice a n c, .int .i64 (N : Int)] 48)).alloc (.cells #[.int .i64 0, .slice none 0 0, .int .i64 0] 48) = W at *
    obtain ⟨g0, f0⟩ := hO1.out.cel 1 rfl 0 _ rfl
    obtain ⟨g1, f1⟩ := hO1.out.cel 1 rfl 1 _ rfl
    obtain ⟨g2, f2⟩ := hO1.out.cel 1 rfl 2 _ rfl
    obtain ⟨r0, t0⟩ := hO1.out.cel 0 rfl 0 _ rfl
    obtain ⟨r1, t1⟩ := hO1.out.cel 0 rfl 1 _ rfl
    obtain ⟨r2, t2⟩ := hO1.out.cel 0 rfl 2 _ rfl
    have hend : ∀ v0 v1 v2 v3, (fun W => RowAt W a c q.l ∧ RowAt W ga gc gl ∧ (∀ x ∈ blk a ++ blk ga, x ∈ blk a ++ blk ga ∨ w.heap.size ≤ x) ∧ Below w.heap.size w W) ((((W.setCell ⟨s0, 0, none⟩ v0).setCell ⟨s0 + 1, 0, none⟩ v1).setCell ⟨s0 + 1, 1, none⟩ v2).setCell ⟨s0 + 1, 2, none⟩ v3) := fun v0 v1 v2 v3 => by
      have hO3 := (((hO1.out.setAt 1 rfl 0 v0).setAt 0 rfl 0 v1).setAt 0 rfl 1 v2).setAt 0 rfl 2 v3
      exact ⟨H.out.below hO3.bel, HG.out.below hO3.bel, fun x hx => .inl hx, hO3.bel⟩
    have HE := Lib.hid hend
    clear hend hs0
    go_wp2
    exact bodyPost_ret (v := .tuple #[.agg #[.int .i64 v, .slice a n c, .int .i64 (N : Int)], .slice ga gn gc, .int .i64 0]) (by simp [results, Try.results17, go_sem, r0, r1, r2]) rfl (X8.mk rfl HNN.out HGN.out (HE.out _ _ _ _))
  | some o =>
    have ho := hnn o hq
    have e1 : mTurn N q gl = mPut N ⟨none, q.l⟩ o gl := by unfold mTurn; rw [hq]
    have e2 : q.num = o := by unfold LQ.num; rw [hq]; rfl
    rw [e1, e2]
    have hput := fun W hw1 hw2 => x8put_any W v a ga n c gn gc N ⟨none, q.l⟩ gl o hn hgn hw1 hw2 hl hgl hN
    obtain ⟨M, hM⟩ : ∃ M, M = mPut N ⟨none, q.l⟩ o gl := ⟨_, rfl⟩
    rw [← hM] at hput ⊢
    have HP := Lib.hid hput
    have hO1 := Lib.hid (hO o)
    clear hO h hg e1 e2 hq hnn hn hgn hput hM
    unfold xv
    go_enter Try.func17, Try.ntmps17
    go_upto_region 1 with fail
    rw [← hs0]
    clear hs0
    generalize (w.alloc (.cells #[.int .i64 o, .slice a n c, .int .i64 (N : Int)] 48)).alloc (.cells #[.int .i64 0, .slice none 0 0, .int .i64 0] 48) = W at *
    obtain ⟨g0, f0⟩ := hO1.out.cel 1 rfl 0 _ rfl
    obtain ⟨g1, f1⟩ := hO1.out.cel 1 rfl 1 _ rfl
    obtain ⟨g2, f2⟩ := hO1.out.cel 1 rfl 2 _ rfl
    have hO2 := Lib.hid (hO1.out.setAt 1 rfl 0 (.int .i64 v))
    go_wp2_with fail
    have hp := HP.out _ (H.out.below hO2.out.bel) (HG.out.below hO2.out.bel)
    unfold xv at hp
    refine hp.mono ?_
    clear hp
    rintro r w1 ⟨a', c', ga', gc', rfl, k1, k2, k3, k4⟩
    have hO3 := hO2.out.step k4
    have hb := hO2.out.bel
    obtain ⟨r0, t0⟩ := hO3.cel 0 rfl 0 _ rfl
    obtain ⟨r1, t1⟩ := hO3.cel 0 rfl 1 _ rfl
    obtain ⟨r2, t2⟩ := hO3.cel 0 rfl 2 _ rfl
    have hlt : s0 + 1 < W.heap.size := by obtain ⟨F, ⟨_, h1, _⟩, _⟩ := hO1.out.fact 0 rfl; exact h1
    have hfr : ∀ x ∈ blk a' ++ blk ga', x ≠ s0 + 1 ∧ (x ∈ blk a ++ blk ga ∨ w.heap.size ≤ x) := fun x hx => by
      rcases k3 x hx with h | h
      · have := HG.out.lt x h; have := HS.out; exact ⟨by omega, .inl (by simp [h])⟩
      · rw [World.size_setCell] at h; have := HS.out; exact ⟨by omega, .inr (by omega)⟩
    have hend : ∀ v1 v2 v3, (fun W => RowAt W a' c' M.1.l ∧ RowAt W ga' gc' M.2.1 ∧ (∀ x ∈ blk a' ++ blk ga', x ∈ blk a ++ blk ga ∨ w.heap.size ≤ x) ∧ Below w.heap.size w W) (((w1.setCell ⟨s0 + 1, 0, none⟩ v1).setCell ⟨s0 + 1, 1, none⟩ v2).setCell ⟨s0 + 1, 2, none⟩ v3) := fun v1 v2 v3 => by
      have hO4 := ((hO3.setAt 0 rfl 0 v1).setAt 0 rfl 1 v2).setAt 0 rfl 2 v3
      have cs : Chg [s0 + 1] w1 (((w1.setCell ⟨s0 + 1, 0, none⟩ v1).setCell ⟨s0 + 1, 1, none⟩ v2).setCell ⟨s0 + 1, 2, none⟩ v3) := (((Chg.refl _ _).setCell _ (.inl (by simp))).setCell _ (.inl (by simp))).setCell _ (.inl (by simp))
      exact ⟨k1.chg cs (fun x hx => by simp; exact (hfr x (by simp [hx])).1), k2.chg cs (fun x hx => by simp; exact (hfr x (by simp [hx])).1), fun x hx => (hfr x hx).2, hO4.bel⟩
    have HE := Lib.hid hend
    obtain ⟨m, hm⟩ : ∃ m, m = M.1.l.length := ⟨_, rfl⟩
    obtain ⟨gm, hgm⟩ : ∃ m, m = M.2.1.length := ⟨_, rfl⟩
    have HM := Lib.hid hm
    have HGM := Lib.hid hgm
    unfold xv
    rw [← hm, ← hgm]
    clear hend hO3 k1 k2 k3 k4 hb hm hgm hfr hlt
    go_wp2
    exact bodyPost_ret (v := .tuple #[.agg #[.int .i64 v, .slice a' m c', .int .i64 (N : Int)], .slice ga' gm gc', .int .i64 (M.2.2 : Int)]) (by simp [results, Try.results17, go_sem, r0, r1, r2]) rfl (X8.mk rfl HM.out HGM.out (HE.out _ _ _))
/-- What a call on the document's queue answers: the queue, a number. -/
def X8g (w w' : World) (r : Ending) (N : Nat) (nx : Int) (l : List Int) (k : Int) (olds : List Nat) : Prop :=
  ∃ a' c', r = .returned (.tuple #[xv nx a' l.length c' N, .int .i64 k]) ∧ RowAt w' a' c' l ∧ (∀ x ∈ blk a', x ∈ olds ∨ w.heap.size ≤ x) ∧ Below w.heap.size w w'
theorem X8g.mk {w w' : World} {r : Ending} {N n' c' : Nat} {nx k : Int} {l : List Int} {olds : List Nat} {a' : Option Addr} (hr : r = .returned (.tuple #[xv nx a' n' c' N, .int .i64 k])) (hn : n' = l.length)
    (h : RowAt w' a' c' l ∧ (∀ x ∈ blk a', x ∈ olds ∨ w.heap.size ≤ x) ∧ Below w.heap.size w w') : X8g w w' r N nx l k olds := by
  subst hn; exact ⟨a', c', hr, h⟩
set_option maxRecDepth 100000 in
set_option maxHeartbeats 1000000 in
theorem x8get_any (w : World) (a : Option Addr) (n c N : Nat) (q : LQ) (hn : n = q.l.length) (h : RowAt w a c q.l) (hl : q.l.length ≤ 1024) (hnn : ∀ v, q.nx = some v → 0 ≤ v) :
    Calls Try.prog 20 #[xv q.num a n c N] w fun r w' => X8g w w' r N (mGet q).1.num (mGet q).1.l ((mGet q).2.getD (-1)) (blk a) := by
  have H := Lib.hid h
  obtain ⟨s0, hs0⟩ : ∃ s0, s0 = w.heap.size := ⟨_, rfl⟩
  have hO : ∀ nx, Own w ((w.alloc (.cells #[.int .i64 nx, .slice a n c, .int .i64 (N : Int)] 48)).alloc (.cells #[.int .i64 0, .slice none 0 0, .int .i64 0] 48)) [CelA (s0 + 1) [.int .i64 0, .slice none 0 0, .int .i64 0], CelA s0 [.int .i64 nx, .slice a n c, .int .i64 (N : Int)]] := fun nx =>
    ((Own.nil (Below.refl _ _)).alloc _ _ hs0).alloc _ _ (by simp [hs0])
  have HS := Lib.hid hs0
  have HNN := Lib.hid hn
  obtain ⟨nx, l⟩ := q
  cases nx with
  | some o =>
    have ho := hnn o rfl
    have e2 : LQ.num ⟨some o, l⟩ = o := rfl
    have e3 : LQ.num ⟨none, l⟩ = -1 := rfl
    simp only [mGet, e2, e3, Option.getD_some]
    have hO1 := Lib.hid (hO o)
    clear hO h e2 e3 hnn hn
    unfold xv
    go_enter Try.func20, Try.ntmps20
    go_upto_region 1 with fail
    rw [← hs0]
    clear hs0
    generalize (w.alloc (.cells #[.int .i64 o, .slice a n c, .int .i64 (N : Int)] 48)).alloc (.cells #[.int .i64 0, .slice none 0 0, .int .i64 0] 48) = W at *
    obtain ⟨g0, f0⟩ := hO1.out.cel 1 rfl 0 _ rfl
    obtain ⟨g1, f1⟩ := hO1.out.cel 1 rfl 1 _ rfl
    obtain ⟨g2, f2⟩ := hO1.out.cel 1 rfl 2 _ rfl
    obtain ⟨r0, t0⟩ := hO1.out.cel 0 rfl 0 _ rfl
    obtain ⟨r1, t1⟩ := hO1.out.cel 0 rfl 1 _ rfl
    obtain ⟨r2, t2⟩ := hO1.out.cel 0 rfl 2 _ rfl
    have hend : ∀ v0 v1 v2 v3, (fun W => RowAt W a c l ∧ (∀ x ∈ blk a, x ∈ blk a ∨ w.heap.size ≤ x) ∧ Below w.heap.size w W) ((((W.setCell ⟨s0, 0, none⟩ v0).setCell ⟨s0 + 1, 0, none⟩ v1).setCell ⟨s0 + 1, 1, none⟩ v2).setCell ⟨s0 + 1, 2, none⟩ v3) := fun v0 v1 v2 v3 => by
      have hO3 := (((hO1.out.setAt 1 rfl 0 v0).setAt 0 rfl 0 v1).setAt 0 rfl 1 v2).setAt 0 rfl 2 v3
      exact ⟨H.out.below hO3.bel, fun x hx => .inl hx, hO3.bel⟩
    have HE := Lib.hid hend
    clear hend
    go_wp2
    exact bodyPost_ret (v := .tuple #[.agg #[.int .i64 (-1), .slice a n c, .int .i64 (N : Int)], .int .i64 o]) (by simp [results, Try.results20, go_sem, r0, r1, r2]) rfl (X8g.mk rfl HNN.out (HE.out _ _ _ _))
  | none =>
    have e3 : LQ.num ⟨none, l⟩ = -1 := rfl
    rw [e3]
    have hO1 := Lib.hid (hO (-1))
    cases l with
    | nil =>
      have e4 : (mGet ⟨none, []⟩).1.num = -1 := rfl
      rw [e4]
      simp only [mGet, Option.getD_none]
      obtain rfl : n = 0 := hn
      clear hO h e3 e4 hnn HNN
      unfold xv
      go_enter Try.func20, Try.ntmps20
      go_upto_region 1 with fail
      rw [← hs0]
      clear hs0
      generalize (w.alloc (.cells #[.int .i64 (-1), .slice a 0 c, .int .i64 (N : Int)] 48)).alloc (.cells #[.int .i64 0, .slice none 0 0, .int .i64 0] 48) = W at *
      obtain ⟨g0, f0⟩ := hO1.out.cel 1 rfl 0 _ rfl
      obtain ⟨g1, f1⟩ := hO1.out.cel 1 rfl 1 _ rfl
      obtain ⟨g2, f2⟩ := hO1.out.cel 1 rfl 2 _ rfl
      obtain ⟨r0, t0⟩ := hO1.out.cel 0 rfl 0 _ rfl
      obtain ⟨r1, t1⟩ := hO1.out.cel 0 rfl 1 _ rfl
      obtain ⟨r2, t2⟩ := hO1.out.cel 0 rfl 2 _ rfl
      have hend : ∀ v1 v2 v3, (fun W => RowAt W a c [] ∧ (∀ x ∈ blk a, x ∈ blk a ∨ w.heap.size ≤ x) ∧ Below w.heap.size w W) (((W.setCell ⟨s0 + 1, 0, none⟩ v1).setCell ⟨s0 + 1, 1, none⟩ v2).setCell ⟨s0 + 1, 2, none⟩ v3) := fun v1 v2 v3 => by
        have hO3 := ((hO1.out.setAt 0 rfl 0 v1).setAt 0 rfl 1 v2).setAt 0 rfl 2 v3
        exact ⟨H.out.below hO3.bel, fun x hx => .inl hx, hO3.bel⟩
      have HE := Lib.hid hend
      clear hend
      go_wp2
      exact bodyPost_ret (v := .tuple #[.agg #[.int .i64 (-1), .slice a 0 c, .int .i64 (N : Int)], .int .i64 (-1)]) (by simp [results, Try.results20, go_sem, r0, r1, r2]) rfl (X8g.mk rfl rfl (HE.out _ _ _))
    | cons x t =>
      have e4 : (mGet ⟨none, x :: t⟩).1.num = -1 := rfl
      rw [e4]
      simp only [mGet, Option.getD_some]
      obtain ⟨a1, hs1, hr1, hk1⟩ := slice_from under_ints size_int h 1 (by simp)
      obtain ⟨m, hm⟩ : ∃ m, m = t.length := ⟨_, rfl⟩
      obtain rfl : n = m + 1 := by rw [hn, hm]; rfl
      have hs1' : ∀ w, (Instr.slice 35 (.slice a (m + 1) c) (some (.int .i64 1)) none none).run Try.prog w = .ok (.slice a1 m (c - 1)) w := by
        intro w; have := hs1 w; simp only [List.length_cons, ← hm, Nat.add_sub_cancel] at this; exact this
      have HR := Lib.hid (show IntsAt w a1 t from hr1.ints)
      obtain ⟨b9, o9, rfl, g9⟩ := h.ints 0 (by simp)
      have G9 := Lib.hid (show w.cell? ⟨b9, o9, none⟩ = some (.int .i64 x) from g9)
      have HM := Lib.hid hm
      clear hO h e3 e4 hnn hs1 hr1 hk1 g9 HNN hn
      have hml : m ≤ 1024 := by simp at hl; omega
      clear hm hl
      unfold xv
      go_enter Try.func20, Try.ntmps20
      go_upto_region 1 with fail
      rw [← hs0]
      clear hs0
      generalize (w.alloc (.cells #[.int .i64 (-1), .slice (some ⟨b9, o9, none⟩) (m + 1) c, .int .i64 (N : Int)] 48)).alloc (.cells #[.int .i64 0, .slice none 0 0, .int .i64 0] 48) = W at *
      obtain ⟨g0, f0⟩ := hO1.out.cel 1 rfl 0 _ rfl
      obtain ⟨g1, f1⟩ := hO1.out.cel 1 rfl 1 _ rfl
      have g9 := cell_below G9.out hO1.out.bel
      have hb0 : ((m : Int) + 1 == 0) = false := by rw [beq_eq_false_iff_ne]; omega
      go_wp2_with fail
      have hj := fun W hW1 => join_any W none a1 0 m 0 (c - 1) [] t rfl HM.out (IntsAt.nil _ _) hW1 (by have := HM.out; simp; omega)
      refine (hj _ (HR.out.below hO1.out.bel)).mono ?_
      rintro r w1 ⟨a', c', rfl, k1, k2, b1⟩
      have hO2 := hO1.out.newRow b1 k1 k2
      obtain ⟨g0, f0⟩ := hO2.cel 2 rfl 0 _ rfl
      obtain ⟨g1, f1⟩ := hO2.cel 2 rfl 1 _ rfl
      obtain ⟨g2, f2⟩ := hO2.cel 2 rfl 2 _ rfl
      obtain ⟨r0, t0⟩ := hO2.cel 1 rfl 0 _ rfl
      obtain ⟨r1, t1⟩ := hO2.cel 1 rfl 1 _ rfl
      obtain ⟨r2, t2⟩ := hO2.cel 1 rfl 2 _ rfl
      have hend : ∀ v0 v1 v2 v3, (fun W' => RowAt W' a' c' t ∧ (∀ x ∈ blk a', x ∈ blk (some ⟨b9, o9, none⟩) ∨ w.heap.size ≤ x) ∧ Below w.heap.size w W') ((((w1.setCell ⟨s0, 1, none⟩ v0).setCell ⟨s0 + 1, 0, none⟩ v1).setCell ⟨s0 + 1, 1, none⟩ v2).setCell ⟨s0 + 1, 2, none⟩ v3) := fun v0 v1 v2 v3 => by
        have hO3 := (((hO2.setAt 2 rfl 1 v0).setAt 1 rfl 0 v1).setAt 1 rfl 1 v2).setAt 1 rfl 2 v3
        exact ⟨by simpa using hO3.row 0 rfl, fun x hx => by have := k2 x hx; have := hO1.out.bel.size; omega, hO3.bel⟩
      have HE := Lib.hid hend
      clear hend k1 k2 b1 hO2 hj g9
      go_wp2
      exact bodyPost_ret (v := .tuple #[.agg #[.int .i64 (-1), .slice a' m c', .int .i64 (N : Int)], .int .i64 x]) (by simp [results, Try.results20, go_sem, r0, r1, r2]) rfl (X8g.mk rfl HM.out (HE.out _ _ _ _))
end Go.Proofs.Ytmldfckeenahlaa
