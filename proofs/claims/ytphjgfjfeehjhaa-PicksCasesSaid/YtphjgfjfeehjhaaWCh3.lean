/-
  Channels: the walks of Recv, Close.
-/
import Derived.Test.YtphjgfjfeehjhaaWCh2
open Go Go.RowKit
set_option linter.unusedVariables false
namespace Go.Proofs.Ytphjgfjfeehjhaa
/-- What a receive came to. -/
def gotC (v : Int) (some_ : Bool) (x : Wt) (woken : Bool) : Value := .agg #[.int .i64 v, .bool some_, .int .i64 x.1, .int .i64 x.2.1, .int .i64 x.2.2, .bool woken]
theorem Own.rowTurnC {w0 w w' : World} {As : List Asr} {s : Nat} {a a' : Option Addr} {cap cap' n n' : Nat} {cs cs' : List Value} (c : Chg (blk a) w w') (hr : RowG s w' a' cap' n' cs') (hf : ∀ x ∈ blk a', x ∈ blk a ∨ w.heap.size ≤ x) (h : Own w0 w (RowGA s a cap n cs :: As)) :
    Own w0 w' (RowGA s a' cap' n' cs' :: As) := Own.rowTurn h hr c hf
def mRecvB (C : Ch) : List Int := match C.S with
  | x :: t => C.buf ++ [x.2.2]
  | [] => C.buf
def mRecv (C : Ch) : Ch × (Int × Bool × Wt × Bool) × Int := match C.S with
  | x :: t => (match C.buf ++ [x.2.2] with
    | y :: b => (⟨b, t, C.R, C.cl⟩, (y, true, x, true), 0)
    | [] => (⟨[], t, C.R, C.cl⟩, (0, false, x, true), 0))
  | [] => match C.buf with
    | y :: b => (⟨b, [], C.R, C.cl⟩, (y, true, zw, false), 0)
    | [] => (C, (0, false, zw, false), if C.cl then 0 else 5)
theorem two_allocs {w0 w : World} {As : List Asr} (h : Own w0 w As) (l m : List Value) (t u : TypeId) : Own w0 ((w.alloc (.cells l.toArray t)).alloc (.cells m.toArray u)) (CelA (w.heap.size + 1) m :: CelA w.heap.size l :: As) :=
  (h.alloc l t rfl).alloc m u (by simp)
set_option maxRecDepth 100000 in
set_option maxHeartbeats 2000000 in
theorem crecv_none {w0 w : World} {R : List Asr} {p N : Nat} {Rv : List Wt} {cl : Bool} (h : Own w0 w (ChanA p N ⟨[], [], Rv, cl⟩ :: R)) :
    Calls Try.prog 21 #[.pointer (some ⟨p, 0, none⟩)] w fun r w' => r = .returned (.tuple #[gotC 0 false zw false, .int .i64 (if cl then 0 else 5)]) ∧ Own w0 w' (ChanA p N ⟨[], [], Rv, cl⟩ :: R) := by
  obtain ⟨ba, bc, sa, sc, ra, rc, h1⟩ := h.chan
  have hpl := World.block_lt_of_cell? w _ (h1.cel 0 rfl 0 _ rfl).1
  have hA := two_allocs h1 [.int .i64 0, .bool false, .int .i64 0, .int .i64 0, .int .i64 0, .bool false] [.int .i64 0, .bool false, .int .i64 0, .int .i64 0, .int .i64 0, .bool false] 70 70
  have he := eldw_none (k := 2) (a := sa) (c := sc) (hA.pick 2 rfl) rfl
  have HE := Lib.hid he
  clear hA he h h1
  unfold wv at HE
  simp only [zw] at HE
  have hw : ∀ e : Int, .returned (Value.tuple #[gotC 0 false zw false, .int .i64 e]) = Ending.returned (.tuple #[.agg #[.int .i64 0, .bool false, .int .i64 0, .int .i64 0, .int .i64 0, .bool false], .int .i64 e]) := fun e => rfl
  rw [hw]
  clear hw
  go_enter Try.func21, Try.ntmps21
  go_wp2_with fail
  refine HE.out.mono ?_
  rintro r w2 ⟨rfl, h2, b2⟩
  have h3 : Own w0 w2 (CelA p (ccells N ⟨[], [], Rv, cl⟩ ba bc sa sc ra rc) :: CelA (w.heap.size + 1) [.int .i64 0, .bool false, .int .i64 0, .int .i64 0, .int .i64 0, .bool false] :: CelA w.heap.size [.int .i64 0, .bool false, .int .i64 0, .int .i64 0, .int .i64 0, .bool false] :: RowGA 1 ba bc 0 (intc []) :: RowGA 3 sa sc 0 (wtc []) :: RowGA 3 ra rc Rv.length (wtc Rv) :: R) := h2
  have h4 := (((h3.setAt 1 rfl 2 (.int .i64 0)).setAt 1 rfl 3 (.int .i64 0)).setAt 1 rfl 4 (.int .i64 0)).setAt 1 rfl 5 (.bool false)
  obtain ⟨a2, b2'⟩ := h3.cel 1 rfl 2 _ rfl
  obtain ⟨a3, b3⟩ := h3.cel 1 rfl 3 _ rfl
  obtain ⟨a4, b4⟩ := h3.cel 1 rfl 4 _ rfl
  obtain ⟨a5, b5⟩ := h3.cel 1 rfl 5 _ rfl
  have H4 := Lib.hid h4
  clear h2 h3 h4 b2 HE
  go_wp2_with fail
  refine (eldi_none (k := 1) H4.out rfl).mono ?_
  rintro r w3 ⟨rfl, rfl⟩
  generalize hW : (((w2.setCell ⟨w.heap.size + 1, 2, none⟩ (.int .i64 0)).setCell ⟨w.heap.size + 1, 3, none⟩ (.int .i64 0)).setCell ⟨w.heap.size + 1, 4, none⟩ (.int .i64 0)).setCell ⟨w.heap.size + 1, 5, none⟩ (.bool false) = W3 at *
  have h5 := H4.out
  obtain ⟨c0, d0⟩ := h5.cel 1 rfl 0 _ rfl
  obtain ⟨c1, d1⟩ := h5.cel 1 rfl 1 _ rfl
  obtain ⟨c2, d2⟩ := h5.cel 1 rfl 2 _ rfl
  obtain ⟨c3, d3⟩ := h5.cel 1 rfl 3 _ rfl
  obtain ⟨c4, d4⟩ := h5.cel 1 rfl 4 _ rfl
  obtain ⟨c5, d5⟩ := h5.cel 1 rfl 5 _ rfl
  obtain ⟨e0, f0⟩ := h5.cel 2 rfl 0 _ rfl
  obtain ⟨e1, f1⟩ := h5.cel 2 rfl 1 _ rfl
  obtain ⟨e2, f2⟩ := h5.cel 2 rfl 2 _ rfl
  obtain ⟨e3, f3⟩ := h5.cel 2 rfl 3 _ rfl
  obtain ⟨e4, f4⟩ := h5.cel 2 rfl 4 _ rfl
  obtain ⟨e5, f5⟩ := h5.cel 2 rfl 5 _ rfl
  obtain ⟨g4, k4⟩ := h5.cel 0 rfl 4 _ rfl
  have hps : p ≠ w.heap.size + 1 := by omega
  have hps2 : p ≠ w.heap.size := by omega
  have hfin : ∀ v0 v1 u0 u1 u2 u3 u4 u5, Own w0 ((((((((W3.setCell ⟨w.heap.size + 1, 0, none⟩ v0).setCell ⟨w.heap.size + 1, 1, none⟩ v1).setCell ⟨w.heap.size, 0, none⟩ u0).setCell ⟨w.heap.size, 1, none⟩ u1).setCell ⟨w.heap.size, 2, none⟩ u2).setCell ⟨w.heap.size, 3, none⟩ u3).setCell ⟨w.heap.size, 4, none⟩ u4).setCell ⟨w.heap.size, 5, none⟩ u5) (ChanA p N ⟨[], [], Rv, cl⟩ :: R) := fun v0 v1 u0 u1 u2 u3 u4 u5 => by
    have h6 := (((((((h5.setAt 1 rfl 0 v0).setAt 1 rfl 1 v1).setAt 2 rfl 0 u0).setAt 2 rfl 1 u1).setAt 2 rfl 2 u2).setAt 2 rfl 3 u3).setAt 2 rfl 4 u4).setAt 2 rfl 5 u5
    exact Own.chanBack ((h6.pick 1 rfl).drop.pick 1 rfl).drop
  have HF := Lib.hid hfin
  clear h5 hfin H4 hW a2 b2' a3 b3 a4 b4 a5 b5
  cases cl
  all_goals
    simp only [ccells] at g4
    go_wp2
  · exact bodyPost_ret (v := .tuple #[.agg #[.int .i64 0, .bool false, .int .i64 0, .int .i64 0, .int .i64 0, .bool false], .int .i64 5]) (by simp [results, Try.results21, go_sem, e0, e1, e2, e3, e4, e5]) rfl ⟨rfl, HF.out _ _ _ _ _ _ _ _⟩
  · exact bodyPost_ret (v := .tuple #[.agg #[.int .i64 0, .bool false, .int .i64 0, .int .i64 0, .int .i64 0, .bool false], .int .i64 0]) (by simp [results, Try.results21, go_sem, e0, e1, e2, e3, e4, e5]) rfl ⟨rfl, HF.out _ _ _ _ _ _ _ _⟩
set_option maxRecDepth 100000 in
set_option maxHeartbeats 2000000 in
theorem crecv_buf {w0 w : World} {R : List Asr} {p N : Nat} {Rv : List Wt} {cl : Bool} {y : Int} {b : List Int} (h : Own w0 w (ChanA p N ⟨y :: b, [], Rv, cl⟩ :: R)) (hbl : b.length ≤ 100000) :
    Calls Try.prog 21 #[.pointer (some ⟨p, 0, none⟩)] w fun r w' => r = .returned (.tuple #[gotC y true zw false, .int .i64 0]) ∧ Own w0 w' (ChanA p N ⟨b, [], Rv, cl⟩ :: R) := by
  obtain ⟨ba, bc, sa, sc, ra, rc, h1⟩ := h.chan
  have hpl := World.block_lt_of_cell? w _ (h1.cel 0 rfl 0 _ rfl).1
  have hA := two_allocs h1 [.int .i64 0, .bool false, .int .i64 0, .int .i64 0, .int .i64 0, .bool false] [.int .i64 0, .bool false, .int .i64 0, .int .i64 0, .int .i64 0, .bool false] 70 70
  have he := eldw_none (k := 2) (a := sa) (c := sc) (hA.pick 2 rfl) rfl
  have HE := Lib.hid he
  clear hA he h h1
  unfold wv at HE
  simp only [zw] at HE
  have hw : .returned (Value.tuple #[gotC y true zw false, .int .i64 0]) = Ending.returned (.tuple #[.agg #[.int .i64 y, .bool true, .int .i64 0, .int .i64 0, .int .i64 0, .bool false], .int .i64 0]) := rfl
  rw [hw]
  clear hw
  go_enter Try.func21, Try.ntmps21
  go_wp2_with fail
  refine HE.out.mono ?_
  rintro r w2 ⟨rfl, h2, b2⟩
  have h3 : Own w0 w2 (CelA p (ccells N ⟨y :: b, [], Rv, cl⟩ ba bc sa sc ra rc) :: CelA (w.heap.size + 1) [.int .i64 0, .bool false, .int .i64 0, .int .i64 0, .int .i64 0, .bool false] :: CelA w.heap.size [.int .i64 0, .bool false, .int .i64 0, .int .i64 0, .int .i64 0, .bool false] :: RowGA 1 ba bc (y :: b).length (intc (y :: b)) :: RowGA 3 sa sc 0 (wtc []) :: RowGA 3 ra rc Rv.length (wtc Rv) :: R) := h2
  have h4 := (((h3.setAt 1 rfl 2 (.int .i64 0)).setAt 1 rfl 3 (.int .i64 0)).setAt 1 rfl 4 (.int .i64 0)).setAt 1 rfl 5 (.bool false)
  obtain ⟨a2, b2'⟩ := h3.cel 1 rfl 2 _ rfl
  obtain ⟨a3, b3⟩ := h3.cel 1 rfl 3 _ rfl
  obtain ⟨a4, b4⟩ := h3.cel 1 rfl 4 _ rfl
  obtain ⟨a5, b5⟩ := h3.cel 1 rfl 5 _ rfl
  have H4 := Lib.hid h4
  have he := eldi_some (k := 1) (R := [CelA (w.heap.size + 1) [.int .i64 0, .bool false, .int .i64 0, .int .i64 0, .int .i64 0, .bool false], CelA w.heap.size [.int .i64 0, .bool false, .int .i64 0, .int .i64 0, .int .i64 0, .bool false], RowGA 3 sa sc 0 (wtc []), RowGA 3 ra rc Rv.length (wtc Rv)] ++ R) ((h4.pick 3 rfl).pick 1 rfl) rfl rfl (by simp; omega)
  have HE2 := Lib.hid he
  clear h2 h3 h4 b2 HE he
  go_wp2_with fail
  refine HE2.out.mono ?_
  rintro r W3 ⟨rfl, a', h5⟩
  have h5 : Own w0 W3 (CelA p (ccells N ⟨b, [], Rv, cl⟩ a' (bc - 1) sa sc ra rc) :: CelA (w.heap.size + 1) [.int .i64 0, .bool false, .int .i64 0, .int .i64 0, .int .i64 0, .bool false] :: CelA w.heap.size [.int .i64 0, .bool false, .int .i64 0, .int .i64 0, .int .i64 0, .bool false] :: RowGA 1 a' (bc - 1) b.length (intc b) :: RowGA 3 sa sc 0 (wtc []) :: RowGA 3 ra rc Rv.length (wtc Rv) :: R) := (((h5.pick 1 rfl).pick 3 rfl).pick 3 rfl).pick 3 rfl
  obtain ⟨c0, d0⟩ := h5.cel 1 rfl 0 _ rfl
  obtain ⟨c1, d1⟩ := h5.cel 1 rfl 1 _ rfl
  obtain ⟨c2, d2⟩ := h5.cel 1 rfl 2 _ rfl
  obtain ⟨c3, d3⟩ := h5.cel 1 rfl 3 _ rfl
  obtain ⟨c4, d4⟩ := h5.cel 1 rfl 4 _ rfl
  obtain ⟨c5, d5⟩ := h5.cel 1 rfl 5 _ rfl
  obtain ⟨e0, f0⟩ := h5.cel 2 rfl 0 _ rfl
  obtain ⟨e1, f1⟩ := h5.cel 2 rfl 1 _ rfl
  obtain ⟨e2, f2⟩ := h5.cel 2 rfl 2 _ rfl
  obtain ⟨e3, f3⟩ := h5.cel 2 rfl 3 _ rfl
  obtain ⟨e4, f4⟩ := h5.cel 2 rfl 4 _ rfl
  obtain ⟨e5, f5⟩ := h5.cel 2 rfl 5 _ rfl
  have hps : p ≠ w.heap.size + 1 := by omega
  have hps2 : p ≠ w.heap.size := by omega
  have hfin : ∀ v0 v1 u0 u1 u2 u3 u4 u5, Own w0 ((((((((W3.setCell ⟨w.heap.size + 1, 0, none⟩ v0).setCell ⟨w.heap.size + 1, 1, none⟩ v1).setCell ⟨w.heap.size, 0, none⟩ u0).setCell ⟨w.heap.size, 1, none⟩ u1).setCell ⟨w.heap.size, 2, none⟩ u2).setCell ⟨w.heap.size, 3, none⟩ u3).setCell ⟨w.heap.size, 4, none⟩ u4).setCell ⟨w.heap.size, 5, none⟩ u5) (ChanA p N ⟨b, [], Rv, cl⟩ :: R) := fun v0 v1 u0 u1 u2 u3 u4 u5 => by
    have h6 := (((((((h5.setAt 1 rfl 0 v0).setAt 1 rfl 1 v1).setAt 2 rfl 0 u0).setAt 2 rfl 1 u1).setAt 2 rfl 2 u2).setAt 2 rfl 3 u3).setAt 2 rfl 4 u4).setAt 2 rfl 5 u5
    exact Own.chanBack ((h6.pick 1 rfl).drop.pick 1 rfl).drop
  have HF := Lib.hid hfin
  clear h5 hfin H4 a2 b2' a3 b3 a4 b4 a5 b5
  go_wp2
  exact bodyPost_ret (v := .tuple #[.agg #[.int .i64 y, .bool true, .int .i64 0, .int .i64 0, .int .i64 0, .bool false], .int .i64 0]) (by simp [results, Try.results21, go_sem, e0, e1, e2, e3, e4, e5]) rfl ⟨rfl, HF.out _ _ _ _ _ _ _ _⟩
set_option maxRecDepth 100000 in
set_option maxHeartbeats 2000000 in
theorem crecv_send {w0 w : World} {R : List Asr} {p N : Nat} {Rv t : List Wt} {cl : Bool} {x : Wt} {y : Int} {buf b : List Int} (h : Own w0 w (ChanA p N ⟨buf, x :: t, Rv, cl⟩ :: R)) (hyb : buf ++ [x.2.2] = y :: b) (hbl : buf.length ≤ 100000) (htl : t.length ≤ 100000) :
    Calls Try.prog 21 #[.pointer (some ⟨p, 0, none⟩)] w fun r w' => r = .returned (.tuple #[gotC y true x true, .int .i64 0]) ∧ Own w0 w' (ChanA p N ⟨b, t, Rv, cl⟩ :: R) := by
  obtain ⟨ba, bc, sa, sc, ra, rc, h1⟩ := h.chan
  have hpl := World.block_lt_of_cell? w _ (h1.cel 0 rfl 0 _ rfl).1
  have hA := two_allocs h1 [.int .i64 0, .bool false, .int .i64 0, .int .i64 0, .int .i64 0, .bool false] [.int .i64 0, .bool false, .int .i64 0, .int .i64 0, .int .i64 0, .bool false] 70 70
  have he := eldw_some (k := 2) (R := [CelA (w.heap.size + 1) [.int .i64 0, .bool false, .int .i64 0, .int .i64 0, .int .i64 0, .bool false], CelA w.heap.size [.int .i64 0, .bool false, .int .i64 0, .int .i64 0, .int .i64 0, .bool false], RowGA 1 ba bc buf.length (intc buf), RowGA 3 ra rc Rv.length (wtc Rv)] ++ R) ((hA.pick 4 rfl).pick 3 rfl) rfl rfl (by simp; omega)
  have HE := Lib.hid he
  have HYB := Lib.hid hyb
  obtain ⟨n, hn⟩ : ∃ n, n = buf.length := ⟨_, rfl⟩
  rw [← hn] at hbl
  have HN := Lib.hid hn
  clear hA he h h1 hyb hn
  unfold wv at HE
  have hw : .returned (Value.tuple #[gotC y true x true, .int .i64 0]) = Ending.returned (.tuple #[.agg #[.int .i64 y, .bool true, .int .i64 x.1, .int .i64 x.2.1, .int .i64 x.2.2, .bool true], .int .i64 0]) := rfl
  rw [hw]
  clear hw
  obtain ⟨x1, x2, x3⟩ := x
  simp only at HE HYB ⊢
  go_enter Try.func21, Try.ntmps21
  go_wp2_with fail
  refine HE.out.mono ?_
  rintro r w2 ⟨rfl, sa', h2⟩
  have h3 : Own w0 w2 (CelA p (ccells N ⟨buf, t, Rv, cl⟩ ba bc sa' (sc - 1) ra rc) :: CelA (w.heap.size + 1) [.int .i64 0, .bool false, .int .i64 0, .int .i64 0, .int .i64 0, .bool false] :: CelA w.heap.size [.int .i64 0, .bool false, .int .i64 0, .int .i64 0, .int .i64 0, .bool false] :: RowGA 1 ba bc buf.length (intc buf) :: RowGA 3 sa' (sc - 1) t.length (wtc t) :: RowGA 3 ra rc Rv.length (wtc Rv) :: R) := ((((h2.pick 1 rfl).pick 4 rfl).pick 4 rfl).pick 4 rfl).pick 4 rfl
  have h4 := (((h3.setAt 1 rfl 2 (.int .i64 x1)).setAt 1 rfl 3 (.int .i64 x2)).setAt 1 rfl 4 (.int .i64 x3)).setAt 1 rfl 5 (.bool true)
  obtain ⟨a2, b2'⟩ := h3.cel 1 rfl 2 _ rfl
  obtain ⟨a3, b3⟩ := h3.cel 1 rfl 3 _ rfl
  obtain ⟨a4, b4⟩ := h3.cel 1 rfl 4 _ rfl
  obtain ⟨a5, b5⟩ := h3.cel 1 rfl 5 _ rfl
  have H4 := Lib.hid h4
  clear h2 h3 h4 HE
  go_upto_region 4 with fail
  generalize hW : (((w2.setCell ⟨w.heap.size + 1, 2, none⟩ (.int .i64 x1)).setCell ⟨w.heap.size + 1, 3, none⟩ (.int .i64 x2)).setCell ⟨w.heap.size + 1, 4, none⟩ (.int .i64 x3)).setCell ⟨w.heap.size + 1, 5, none⟩ (.bool true) = W3 at *
  clear hW a2 b2' a3 b3 a4 b4 a5 b5
  have h5 : Own w0 W3 (CelA p (ccells N ⟨buf, t, Rv, cl⟩ ba bc sa' (sc - 1) ra rc) :: CelA (w.heap.size + 1) [.int .i64 0, .bool false, .int .i64 x1, .int .i64 x2, .int .i64 x3, .bool true] :: CelA w.heap.size [.int .i64 0, .bool false, .int .i64 0, .int .i64 0, .int .i64 0, .bool false] :: RowGA 1 ba bc buf.length (intc buf) :: RowGA 3 sa' (sc - 1) t.length (wtc t) :: RowGA 3 ra rc Rv.length (wtc Rv) :: R) := H4.out
  obtain ⟨p1, q1⟩ := h5.cel 0 rfl 1 _ rfl
  have hbn : (Value.slice ba (Ch.buf ⟨buf, t, Rv, cl⟩).length bc) = .slice ba n bc := by rw [HN.out]
  rw [hbn] at p1
  obtain ⟨s14, r14⟩ := h5.cel 1 rfl 4 _ rfl
  have p1a := fun o => cell_below p1 (below_alloc1 W3 o)
  have s14a := fun o => cell_below s14 (below_alloc1 W3 o)
  have hpl3 := World.block_lt_of_cell? W3 _ p1
  have hrow := h5.rowG 3 rfl
  rw [← HN.out] at hrow
  have HR := Lib.hid hrow
  have hpb : p ∉ blk ba := fun hx => by
    obtain ⟨_, F, ⟨F1, F2, rfl, ⟨rfl, _⟩, q2, F3, F4, rfl, ⟨rfl, _⟩, _, F5, F6, rfl, ⟨rfl, _⟩, _, F7, F8, rfl, ⟨rfl, _⟩, _⟩, _⟩ := h5
    exact q2 p (by simp) (by simp [hx])
  have HPB := Lib.hid hpb
  have H5 := Lib.hid h5
  obtain ⟨i0, hi0, hz0, hz1, hz2⟩ := info_parts info_i6
  have Hi := Lib.hid hi0; clear hi0
  have Hz0 := Lib.hid hz0; clear hz0
  have Hz1 := Lib.hid hz1; clear hz1
  have Hz2 := Lib.hid hz2; clear hz2
  clear hrow h5 hbn hpb H4
  go_wp2_with fail
  go_region_law (first
    | (refine step_append_rowG (m := 1) (ds := intc [x3]) (by rfl) _ _ 43 (by rfl) 2 i0 _ Try.underlying43 Hi.out Hz0.out Hz1.out Hz2.out rfl (by omega) (by omega) (by rfl) (by rfl) (HR.out.below (by repeat (first | exact Below.refl _ _ | refine Below.drew ?_ | refine Below.alloc ?_ (by simp) _))) (by first | exact CellsAt.new _ (intc [x3]) _ rfl | exact (CellsAt.new _ (intc [x3]) _ rfl).below (below_drew1 _)) rfl (intc_one _) (by omega) ?_; intro a1 c1 w4 k1 ch1 f1
       have h6 := Own.rowTurnC ch1 k1 (fun x hx => by have := f1 x hx; simpa using this) ((H5.out.step (by repeat (first | exact Below.refl _ _ | refine Below.drew ?_ | refine Below.alloc ?_ (by simp) _))).pick 3 rfl)
       obtain ⟨p1', q1'⟩ := h6.cel 1 rfl 1 _ rfl))
  all_goals
    have h7 : Own w0 (w4.setCell ⟨p, 1, none⟩ (.slice a1 (n + 1) c1)) (CelA p (ccells N ⟨buf ++ [x3], t, Rv, cl⟩ a1 c1 sa' (sc - 1) ra rc) :: RowGA 1 a1 c1 (buf ++ [x3]).length (intc (buf ++ [x3])) :: CelA (w.heap.size + 1) [.int .i64 0, .bool false, .int .i64 x1, .int .i64 x2, .int .i64 x3, .bool true] :: CelA w.heap.size [.int .i64 0, .bool false, .int .i64 0, .int .i64 0, .int .i64 0, .bool false] :: RowGA 3 sa' (sc - 1) t.length (wtc t) :: RowGA 3 ra rc Rv.length (wtc Rv) :: R) := by
      have e : (buf ++ [x3]).length = n + 1 := by rw [HN.out]; simp
      have e2 : intc (buf ++ [x3]) = intc buf ++ intc [x3] := intc_app _ _
      simp only [ccells]
      rw [e, e2]
      exact (h6.setAt 1 rfl 1 (.slice a1 (n + 1) c1)).pick 1 rfl
    rw [HYB.out] at h7
    have he := eldi_some (k := 1) (R := [CelA (w.heap.size + 1) [.int .i64 0, .bool false, .int .i64 x1, .int .i64 x2, .int .i64 x3, .bool true], CelA w.heap.size [.int .i64 0, .bool false, .int .i64 0, .int .i64 0, .int .i64 0, .bool false], RowGA 3 sa' (sc - 1) t.length (wtc t), RowGA 3 ra rc Rv.length (wtc Rv)] ++ R) h7 rfl rfl (by rw [← HYB.out]; simp; have := HN.out; omega)
    have HE2 := Lib.hid he
    have hsz := World.block_lt_of_cell? w4 _ p1'
    clear h6 h7 he k1 ch1 f1 p1 q1 s14 r14 p1a s14a hpl3 H5
    go_wp2_with fail
    refine HE2.out.mono ?_
    rintro r W5 ⟨rfl, a', h5⟩
    have h5 : Own w0 W5 (CelA p (ccells N ⟨b, t, Rv, cl⟩ a' (c1 - 1) sa' (sc - 1) ra rc) :: CelA (w.heap.size + 1) [.int .i64 0, .bool false, .int .i64 x1, .int .i64 x2, .int .i64 x3, .bool true] :: CelA w.heap.size [.int .i64 0, .bool false, .int .i64 0, .int .i64 0, .int .i64 0, .bool false] :: RowGA 1 a' (c1 - 1) b.length (intc b) :: RowGA 3 sa' (sc - 1) t.length (wtc t) :: RowGA 3 ra rc Rv.length (wtc Rv) :: R) := (((h5.pick 1 rfl).pick 3 rfl).pick 3 rfl).pick 3 rfl
    obtain ⟨c0, d0⟩ := h5.cel 1 rfl 0 _ rfl
    obtain ⟨c1, d1⟩ := h5.cel 1 rfl 1 _ rfl
    obtain ⟨c2, d2⟩ := h5.cel 1 rfl 2 _ rfl
    obtain ⟨c3, d3⟩ := h5.cel 1 rfl 3 _ rfl
    obtain ⟨c4, d4⟩ := h5.cel 1 rfl 4 _ rfl
    obtain ⟨c5, d5⟩ := h5.cel 1 rfl 5 _ rfl
    obtain ⟨e0, f0⟩ := h5.cel 2 rfl 0 _ rfl
    obtain ⟨e1, f1⟩ := h5.cel 2 rfl 1 _ rfl
    obtain ⟨e2, f2⟩ := h5.cel 2 rfl 2 _ rfl
    obtain ⟨e3, f3⟩ := h5.cel 2 rfl 3 _ rfl
    obtain ⟨e4, f4⟩ := h5.cel 2 rfl 4 _ rfl
    obtain ⟨e5, f5⟩ := h5.cel 2 rfl 5 _ rfl
    have hps : p ≠ w.heap.size + 1 := by omega
    have hps2 : p ≠ w.heap.size := by omega
    have hfin : ∀ v0 v1 u0 u1 u2 u3 u4 u5, Own w0 ((((((((W5.setCell ⟨w.heap.size + 1, 0, none⟩ v0).setCell ⟨w.heap.size + 1, 1, none⟩ v1).setCell ⟨w.heap.size, 0, none⟩ u0).setCell ⟨w.heap.size, 1, none⟩ u1).setCell ⟨w.heap.size, 2, none⟩ u2).setCell ⟨w.heap.size, 3, none⟩ u3).setCell ⟨w.heap.size, 4, none⟩ u4).setCell ⟨w.heap.size, 5, none⟩ u5) (ChanA p N ⟨b, t, Rv, cl⟩ :: R) := fun v0 v1 u0 u1 u2 u3 u4 u5 => by
      have h6 := (((((((h5.setAt 1 rfl 0 v0).setAt 1 rfl 1 v1).setAt 2 rfl 0 u0).setAt 2 rfl 1 u1).setAt 2 rfl 2 u2).setAt 2 rfl 3 u3).setAt 2 rfl 4 u4).setAt 2 rfl 5 u5
      exact Own.chanBack ((h6.pick 1 rfl).drop.pick 1 rfl).drop
    have HF := Lib.hid hfin
    clear h5 hfin HE2
    go_wp2
    exact bodyPost_ret (v := .tuple #[.agg #[.int .i64 y, .bool true, .int .i64 x1, .int .i64 x2, .int .i64 x3, .bool true], .int .i64 0]) (by simp [results, Try.results21, go_sem, e0, e1, e2, e3, e4, e5]) rfl ⟨rfl, HF.out _ _ _ _ _ _ _ _⟩
end Go.Proofs.Ytphjgfjfeehjhaa
