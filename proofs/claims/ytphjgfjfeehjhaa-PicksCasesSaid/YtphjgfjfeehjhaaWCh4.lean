/-
  Channels: Recv in one, Close, who waits; awake.
-/
import Derived.Test.YtphjgfjfeehjhaaWCh3
open Go Go.RowKit
set_option linter.unusedVariables false
namespace Go.Proofs.Ytphjgfjfeehjhaa
theorem crecv_any {w0 w : World} {R : List Asr} {p N : Nat} {C : Ch} (h : Own w0 w (ChanA p N C :: R)) (hb : C.buf.length ≤ 100000) (hs : C.S.length ≤ 100000) :
    Calls Try.prog 21 #[.pointer (some ⟨p, 0, none⟩)] w fun r w' => r = .returned (.tuple #[gotC (mRecv C).2.1.1 (mRecv C).2.1.2.1 (mRecv C).2.1.2.2.1 (mRecv C).2.1.2.2.2, .int .i64 (mRecv C).2.2]) ∧ Own w0 w' (ChanA p N (mRecv C).1 :: R) := by
  obtain ⟨buf, S, Rv, cl⟩ := C
  simp only at hb hs
  cases S with
  | cons x t =>
    cases hbv : buf ++ [x.2.2] with
    | nil => simp at hbv
    | cons y b =>
      have e : mRecv ⟨buf, x :: t, Rv, cl⟩ = (⟨b, t, Rv, cl⟩, (y, true, x, true), 0) := by simp only [mRecv, hbv]
      rw [e]
      exact crecv_send h hbv hb (by simp at hs; omega)
  | nil =>
    cases buf with
    | nil => exact crecv_none h
    | cons y b => exact crecv_buf h (by simp at hb; omega)
set_option maxRecDepth 100000 in
set_option maxHeartbeats 1000000 in
theorem cclose_over {w0 w : World} {R : List Asr} {p N : Nat} {buf : List Int} {S Rv : List Wt} (h : Own w0 w (ChanA p N ⟨buf, S, Rv, true⟩ :: R)) :
    Calls Try.prog 23 #[.pointer (some ⟨p, 0, none⟩)] w fun r w' => r = .returned (.tuple #[.slice none 0 0, .slice none 0 0, .int .i64 10]) ∧ w = w' := by
  obtain ⟨ba, bc, sa, sc, ra, rc, h1⟩ := h.chan
  obtain ⟨g4, -⟩ := h1.cel 0 rfl 4 _ rfl
  simp only at g4
  clear h h1
  go_enter Try.func23, Try.ntmps23
  go_wp2
  refine bodyPost_ret (v := .tuple #[.slice none 0 0, .slice none 0 0, .int .i64 10]) (by simp [results, Try.results23, go_sem]) rfl ⟨rfl, rfl⟩
set_option maxRecDepth 100000 in
set_option maxHeartbeats 1000000 in
theorem cclose_any {w0 w : World} {R : List Asr} {p N : Nat} {buf : List Int} {S Rv : List Wt} (h : Own w0 w (ChanA p N ⟨buf, S, Rv, false⟩ :: R)) :
    Calls Try.prog 23 #[.pointer (some ⟨p, 0, none⟩)] w fun r w' => ∃ ra rc sa sc, r = .returned (.tuple #[.slice ra Rv.length rc, .slice sa S.length sc, .int .i64 0]) ∧
      Own w0 w' (ChanA p N ⟨buf, [], [], true⟩ :: RowGA 3 ra rc Rv.length (wtc Rv) :: RowGA 3 sa sc S.length (wtc S) :: R) := by
  obtain ⟨ba, bc, sa, sc, ra, rc, h1⟩ := h.chan
  obtain ⟨g2, f2⟩ := h1.cel 0 rfl 2 _ rfl
  obtain ⟨g3, f3⟩ := h1.cel 0 rfl 3 _ rfl
  obtain ⟨g4, f4⟩ := h1.cel 0 rfl 4 _ rfl
  simp only at g2 g3 g4
  have hf : ∀ wf, Chg [] (((w.setCell ⟨p, 3, none⟩ (.slice none 0 0)).setCell ⟨p, 2, none⟩ (.slice none 0 0)).setCell ⟨p, 4, none⟩ (.bool true)) wf → Own w0 wf (ChanA p N ⟨buf, [], [], true⟩ :: RowGA 3 ra rc Rv.length (wtc Rv) :: RowGA 3 sa sc S.length (wtc S) :: R) := fun wf cf => by
    have h2 := ((h1.setAt 0 rfl 3 (.slice none 0 0)).setAt 0 rfl 2 (.slice none 0 0)).setAt 0 rfl 4 (.bool true)
    have h3 := h2.step cf.to_below0
    have h4 := (h3.add (Below.refl _ _) (A := RowGA 3 none 0 0 (wtc [])) (F := []) ⟨rfl, RowG.nil _ _⟩ (fun x hx => by simp at hx)).add (Below.refl _ _) (A := RowGA 3 none 0 0 (wtc [])) (F := []) ⟨rfl, RowG.nil _ _⟩ (fun x hx => by simp at hx)
    have h5 : Own w0 wf (RowGA 3 none 0 0 (wtc []) :: RowGA 3 none 0 0 (wtc []) :: CelA p (ccells N ⟨buf, [], [], true⟩ ba bc none 0 none 0) :: RowGA 1 ba bc buf.length (intc buf) :: RowGA 3 sa sc S.length (wtc S) :: RowGA 3 ra rc Rv.length (wtc Rv) :: R) := h4
    have h6 := (((((h5.pick 4 rfl).pick 5 rfl).pick 2 rfl).pick 3 rfl).pick 5 rfl).pick 5 rfl
    exact Own.chanBack h6
  have HF := Lib.hid hf
  clear h h1 hf
  go_enter Try.func23, Try.ntmps23
  go_wp2_with fail
  go_quiet (fail)
  go_wp2
  refine bodyPost_ret (v := .tuple #[.slice ra Rv.length rc, .slice sa S.length sc, .int .i64 0]) (by simp [results, Try.results23, go_sem]) rfl ⟨ra, rc, sa, sc, rfl, HF.out _ ?_⟩
  exact Chg.drewN (Chg.refl [] _) nq
set_option maxRecDepth 100000 in
set_option maxHeartbeats 2000000 in
theorem cwaits_any {w0 w : World} {R : List Asr} {p N : Nat} {buf : List Int} {S Rv : List Wt} {cl : Bool} (h : Own w0 w (ChanA p N ⟨buf, S, Rv, cl⟩ :: R)) (x : Wt) (hl : S.length ≤ 100000) :
    Calls Try.prog 25 #[.pointer (some ⟨p, 0, none⟩), wv x] w fun r w' => r = .returned (.tuple #[]) ∧ Own w0 w' (ChanA p N ⟨buf, S ++ [x], Rv, cl⟩ :: R) := by
  obtain ⟨ba, bc, sa, sc, ra, rc, h1⟩ := h.chan
  obtain ⟨n, hn⟩ : ∃ n, n = S.length := ⟨_, rfl⟩
  obtain ⟨x1, x2, x3⟩ := x
  have hA := h1.alloc [.int .i64 x1, .int .i64 x2, .int .i64 x3] 62 (b := w.heap.size) rfl
  have hpl : p < w.heap.size := World.block_lt_of_cell? w _ (h1.cel 0 rfl 0 _ rfl).1
  obtain ⟨p1, q1⟩ := hA.cel 1 rfl 2 _ rfl
  simp only at p1
  rw [← hn] at p1 hl
  have HN := Lib.hid hn
  obtain ⟨z0, -⟩ := hA.cel 0 rfl 0 _ rfl
  obtain ⟨z1, -⟩ := hA.cel 0 rfl 1 _ rfl
  obtain ⟨z2, -⟩ := hA.cel 0 rfl 2 _ rfl
  have hrow := hA.rowG 3 rfl
  simp only at hrow
  rw [← hn] at hrow
  have HR := Lib.hid hrow
  have H5 := Lib.hid hA
  clear hn h h1 hA hrow
  unfold wv
  simp only
  obtain ⟨i0, hi0, hz0, hz1, hz2⟩ := info_parts info_wt
  have Hi := Lib.hid hi0; clear hi0
  have Hz0 := Lib.hid hz0; clear hz0
  have Hz1 := Lib.hid hz1; clear hz1
  have Hz2 := Lib.hid hz2; clear hz2
  go_enter Try.func25, Try.ntmps25
  go_upto_region 1 with fail
  obtain ⟨s0, hs0⟩ : ∃ s0, s0 = w.heap.size := ⟨_, rfl⟩
  rw [← hs0] at z0 z1 z2 H5 ⊢
  have hps : p ≠ s0 := by omega
  clear hs0 hpl
  generalize w.alloc (.cells #[.int .i64 x1, .int .i64 x2, .int .i64 x3] 62) = W at *
  have hpl3 := World.block_lt_of_cell? W _ p1
  have hsl3 := World.block_lt_of_cell? W _ z0
  go_wp2_with fail
  go_region_law (first
    | (refine step_append_rowG (m := 1) (ds := wtc [(x1, x2, x3)]) (by rfl) _ _ 46 (by rfl) 62 i0 _ Try.underlying46 Hi.out Hz0.out Hz1.out Hz2.out rfl (by omega) (by omega) (by rfl) (by rfl) (HR.out.below (by repeat (first | exact Below.refl _ _ | refine Below.drew ?_ | refine Below.alloc ?_ (by simp) _))) (by first | exact CellsAt.new _ (wtc [(x1, x2, x3)]) _ rfl | exact (CellsAt.new _ (wtc [(x1, x2, x3)]) _ rfl).below (below_drew1 _)) rfl (wtc_one _) (by omega) ?_; intro a1 c1 w4 k1 ch1 f1
       have h6 := Own.rowTurnC ch1 k1 (fun x hx => by have := f1 x hx; simpa using this) ((H5.out.step (by repeat (first | exact Below.refl _ _ | refine Below.drew ?_ | refine Below.alloc ?_ (by simp) _))).pick 3 rfl)
       obtain ⟨p1', q1'⟩ := h6.cel 2 rfl 2 _ rfl))
  all_goals
    have hE : Own w0 (w4.setCell ⟨p, 2, none⟩ (.slice a1 (n + 1) c1)) (ChanA p N ⟨buf, S ++ [(x1, x2, x3)], Rv, cl⟩ :: R) := by
      have e : (S ++ [(x1, x2, x3)]).length = n + 1 := by rw [HN.out]; simp
      have e2 : wtc (S ++ [(x1, x2, x3)]) = wtc S ++ wtc [(x1, x2, x3)] := wtc_app _ _
      have h7 : Own w0 (w4.setCell ⟨p, 2, none⟩ (.slice a1 (n + 1) c1)) (RowGA 3 a1 c1 (S ++ [(x1, x2, x3)]).length (wtc (S ++ [(x1, x2, x3)])) :: CelA s0 [.int .i64 x1, .int .i64 x2, .int .i64 x3] :: CelA p (ccells N ⟨buf, S ++ [(x1, x2, x3)], Rv, cl⟩ ba bc a1 c1 ra rc) :: RowGA 1 ba bc buf.length (intc buf) :: RowGA 3 ra rc Rv.length (wtc Rv) :: R) := by
        simp only [ccells]
        rw [e, e2]
        exact h6.setAt 2 rfl 2 (.slice a1 (n + 1) c1)
      have h8 := (h7.pick 1 rfl).drop
      exact Own.chanBack ((((h8.pick 3 rfl).pick 1 rfl).pick 3 rfl).pick 3 rfl)
    have HE := Lib.hid hE
    clear hE h6 k1 ch1 f1 p1 q1 z0 z1 z2 H5
    go_wp2
    go_end0
    exact ⟨rfl, HE.out⟩
set_option maxRecDepth 100000 in
set_option maxHeartbeats 2000000 in
theorem cwaitr_any {w0 w : World} {R : List Asr} {p N : Nat} {buf : List Int} {S Rv : List Wt} {cl : Bool} (h : Own w0 w (ChanA p N ⟨buf, S, Rv, cl⟩ :: R)) (x : Wt) (hl : Rv.length ≤ 100000) :
    Calls Try.prog 26 #[.pointer (some ⟨p, 0, none⟩), wv x] w fun r w' => r = .returned (.tuple #[]) ∧ Own w0 w' (ChanA p N ⟨buf, S, Rv ++ [x], cl⟩ :: R) := by
  obtain ⟨ba, bc, sa, sc, ra, rc, h1⟩ := h.chan
  obtain ⟨n, hn⟩ : ∃ n, n = Rv.length := ⟨_, rfl⟩
  obtain ⟨x1, x2, x3⟩ := x
  have hA := h1.alloc [.int .i64 x1, .int .i64 x2, .int .i64 x3] 62 (b := w.heap.size) rfl
  have hpl : p < w.heap.size := World.block_lt_of_cell? w _ (h1.cel 0 rfl 0 _ rfl).1
  obtain ⟨p1, q1⟩ := hA.cel 1 rfl 3 _ rfl
  simp only at p1
  rw [← hn] at p1 hl
  have HN := Lib.hid hn
  obtain ⟨z0, -⟩ := hA.cel 0 rfl 0 _ rfl
  obtain ⟨z1, -⟩ := hA.cel 0 rfl 1 _ rfl
  obtain ⟨z2, -⟩ := hA.cel 0 rfl 2 _ rfl
  have hrow := hA.rowG 4 rfl
  simp only at hrow
  rw [← hn] at hrow
  have HR := Lib.hid hrow
  have H5 := Lib.hid hA
  clear hn h h1 hA hrow
  unfold wv
  simp only
  obtain ⟨i0, hi0, hz0, hz1, hz2⟩ := info_parts info_wt
  have Hi := Lib.hid hi0; clear hi0
  have Hz0 := Lib.hid hz0; clear hz0
  have Hz1 := Lib.hid hz1; clear hz1
  have Hz2 := Lib.hid hz2; clear hz2
  go_enter Try.func26, Try.ntmps26
  go_upto_region 1 with fail
  obtain ⟨s0, hs0⟩ : ∃ s0, s0 = w.heap.size := ⟨_, rfl⟩
  rw [← hs0] at z0 z1 z2 H5 ⊢
  have hps : p ≠ s0 := by omega
  clear hs0 hpl
  generalize w.alloc (.cells #[.int .i64 x1, .int .i64 x2, .int .i64 x3] 62) = W at *
  have hpl3 := World.block_lt_of_cell? W _ p1
  have hsl3 := World.block_lt_of_cell? W _ z0
  go_wp2_with fail
  go_region_law (first
    | (refine step_append_rowG (m := 1) (ds := wtc [(x1, x2, x3)]) (by rfl) _ _ 46 (by rfl) 62 i0 _ Try.underlying46 Hi.out Hz0.out Hz1.out Hz2.out rfl (by omega) (by omega) (by rfl) (by rfl) (HR.out.below (by repeat (first | exact Below.refl _ _ | refine Below.drew ?_ | refine Below.alloc ?_ (by simp) _))) (by first | exact CellsAt.new _ (wtc [(x1, x2, x3)]) _ rfl | exact (CellsAt.new _ (wtc [(x1, x2, x3)]) _ rfl).below (below_drew1 _)) rfl (wtc_one _) (by omega) ?_; intro a1 c1 w4 k1 ch1 f1
       have h6 := Own.rowTurnC ch1 k1 (fun x hx => by have := f1 x hx; simpa using this) ((H5.out.step (by repeat (first | exact Below.refl _ _ | refine Below.drew ?_ | refine Below.alloc ?_ (by simp) _))).pick 4 rfl)
       obtain ⟨p1', q1'⟩ := h6.cel 2 rfl 3 _ rfl))
  all_goals
    have hE : Own w0 (w4.setCell ⟨p, 3, none⟩ (.slice a1 (n + 1) c1)) (ChanA p N ⟨buf, S, Rv ++ [(x1, x2, x3)], cl⟩ :: R) := by
      have e : (Rv ++ [(x1, x2, x3)]).length = n + 1 := by rw [HN.out]; simp
      have e2 : wtc (Rv ++ [(x1, x2, x3)]) = wtc Rv ++ wtc [(x1, x2, x3)] := wtc_app _ _
      have h7 : Own w0 (w4.setCell ⟨p, 3, none⟩ (.slice a1 (n + 1) c1)) (RowGA 3 a1 c1 (Rv ++ [(x1, x2, x3)]).length (wtc (Rv ++ [(x1, x2, x3)])) :: CelA s0 [.int .i64 x1, .int .i64 x2, .int .i64 x3] :: CelA p (ccells N ⟨buf, S, Rv ++ [(x1, x2, x3)], cl⟩ ba bc sa sc a1 c1) :: RowGA 1 ba bc buf.length (intc buf) :: RowGA 3 sa sc S.length (wtc S) :: R) := by
        simp only [ccells]
        rw [e, e2]
        exact h6.setAt 2 rfl 3 (.slice a1 (n + 1) c1)
      have h8 := (h7.pick 1 rfl).drop
      exact Own.chanBack ((((h8.pick 3 rfl).pick 3 rfl).pick 3 rfl))
    have HE := Lib.hid hE
    clear hE h6 k1 ch1 f1 p1 q1 z0 z1 z2 H5
    go_wp2
    go_end0
    exact ⟨rfl, HE.out⟩
end Go.Proofs.Ytphjgfjfeehjhaa
