/-
  Channels in memory; the walks of New, Send.
-/
import Derived.Test.YtphjgfjfeehjhaaWCh1
open Go Go.RowKit
set_option linter.unusedVariables false
namespace Go.Proofs.Ytphjgfjfeehjhaa
/-- What is in a channel, who waits to send, to receive; is it closed. -/
structure Ch where
  buf : List Int
  S : List Wt
  R : List Wt
  cl : Bool
  deriving DecidableEq
def ccells (N : Nat) (C : Ch) (ba : Option Addr) (bc : Nat) (sa : Option Addr) (sc : Nat) (ra : Option Addr) (rc : Nat) : List Value :=
  [.int .i64 (N : Int), .slice ba C.buf.length bc, .slice sa C.S.length sc, .slice ra C.R.length rc, .bool C.cl]
def cparts (p N : Nat) (C : Ch) (ba : Option Addr) (bc : Nat) (sa : Option Addr) (sc : Nat) (ra : Option Addr) (rc : Nat) : List Asr :=
  [CelA p (ccells N C ba bc sa sc ra rc), RowGA 1 ba bc C.buf.length (intc C.buf), RowGA 3 sa sc C.S.length (wtc C.S), RowGA 3 ra rc C.R.length (wtc C.R)]
def ChanA (p N : Nat) (C : Ch) : Asr where
  at_ w F := ∃ ba bc sa sc ra rc, Sep w (cparts p N C ba bc sa sc ra rc) F
  lt := by rintro w F ⟨_, _, _, _, _, _, h⟩; exact h.lt
  chg := by
    rintro w w' F G ⟨ba, bc, sa, sc, ra, rc, h⟩ c hd
    exact ⟨ba, bc, sa, sc, ra, rc, h.chg c hd⟩
theorem Own.chan {w0 w : World} {p N : Nat} {C : Ch} {R : List Asr} (h : Own w0 w (ChanA p N C :: R)) : ∃ ba bc sa sc ra rc, Own w0 w (CelA p (ccells N C ba bc sa sc ra rc) :: RowGA 1 ba bc C.buf.length (intc C.buf) :: RowGA 3 sa sc C.S.length (wtc C.S) :: RowGA 3 ra rc C.R.length (wtc C.R) :: R) := by
  obtain ⟨As, ⟨ba, bc, sa, sc, ra, rc, rfl⟩, h1⟩ := Own.unfold h (P := fun As => ∃ ba bc sa sc ra rc, As = cparts p N C ba bc sa sc ra rc) (fun F ⟨ba, bc, sa, sc, ra, rc, h⟩ => ⟨_, ⟨ba, bc, sa, sc, ra, rc, rfl⟩, h⟩)
  exact ⟨ba, bc, sa, sc, ra, rc, h1⟩
theorem Own.chanBack {w0 w : World} {p N : Nat} {C : Ch} {R : List Asr} {ba sa ra : Option Addr} {bc sc rc : Nat} (h : Own w0 w (CelA p (ccells N C ba bc sa sc ra rc) :: RowGA 1 ba bc C.buf.length (intc C.buf) :: RowGA 3 sa sc C.S.length (wtc C.S) :: RowGA 3 ra rc C.R.length (wtc C.R) :: R)) : Own w0 w (ChanA p N C :: R) :=
  Own.fold (As := cparts p N C ba bc sa sc ra rc) h (fun F hF => ⟨ba, bc, sa, sc, ra, rc, hF⟩)
/-- The room of New. -/
def roomC (z : Int) : Nat := (min (max z 0) 16).toNat
theorem roomC_le (z : Int) : roomC z ≤ 16 := by unfold roomC; omega
set_option maxRecDepth 100000 in
set_option maxHeartbeats 1000000 in
theorem cnew_any {w0 w : World} {As : List Asr} (h : Own w0 w As) (z : Int) :
    Calls Try.prog 17 #[.int .i64 z] w fun r w' => ∃ p, r = .returned (.pointer (some ⟨p, 0, none⟩)) ∧ Own w0 w' (ChanA p (roomC z) ⟨[], [], [], false⟩ :: As) ∧ Below w.heap.size w w' := by
  obtain ⟨N, hN⟩ : ∃ N, N = roomC z := ⟨_, rfl⟩
  have hm : min (max z 0) 16 = (N : Int) := by rw [hN]; unfold roomC; omega
  have hV : (N : Int) = 0 ∧ z < 0 ∨ (N : Int) = z ∧ 0 ≤ z ∧ z ≤ 16 ∨ (N : Int) = 16 ∧ 16 < z := by omega
  rw [← hN]
  have hf : Own w0 (w.alloc (.cells #[.int .i64 (N : Int), .slice none 0 0, .slice none 0 0, .slice none 0 0, .bool false] 86)) (ChanA w.heap.size N ⟨[], [], [], false⟩ :: As) ∧ Below w.heap.size w (w.alloc (.cells #[.int .i64 (N : Int), .slice none 0 0, .slice none 0 0, .slice none 0 0, .bool false] 86)) := by
    have h1 := h.add (below_alloc1 w (.cells #[.int .i64 (N : Int), .slice none 0 0, .slice none 0 0, .slice none 0 0, .bool false] 86)) (A := ChanA w.heap.size N ⟨[], [], [], false⟩) (F := [w.heap.size])
      ⟨none, 0, none, 0, none, 0, [w.heap.size], [], rfl, ⟨rfl, by simp, Blk.mk w (ccells N ⟨[], [], [], false⟩ none 0 none 0 none 0) _ _ rfl⟩, by simp, [], [], rfl, ⟨rfl, RowG.nil _ _⟩, by simp, [], [], rfl, ⟨rfl, RowG.nil _ _⟩, by simp, [], [], rfl, ⟨rfl, RowG.nil _ _⟩, by simp, rfl⟩ (fun x hx => by simp at hx; omega)
    exact ⟨h1, below_alloc1 _ _⟩
  have HF := Lib.hid hf
  clear hf h hN hm
  rcases hV with ⟨hV, hz⟩ | ⟨hV, hz, hz'⟩ | ⟨hV, hz⟩
  all_goals
    rw [hV] at HF
    have HV := Lib.hid hV; clear hV
    go_enter Try.func17, Try.ntmps17
    go_wp2
    go_ret
    exact ⟨_, rfl, HF.out⟩
set_option maxRecDepth 100000 in
set_option maxHeartbeats 1000000 in
theorem chas_any {w0 w : World} {R : List Asr} {p N : Nat} {C : Ch} (h : Own w0 w (ChanA p N C :: R)) :
    Calls Try.prog 36 #[.pointer (some ⟨p, 0, none⟩)] w fun r w' => r = .returned (.bool (decide (C.buf.length < N))) ∧ ∃ m, w' = w.drewN m := by
  obtain ⟨ba, bc, sa, sc, ra, rc, h⟩ := h.chan
  obtain ⟨g0, -⟩ := h.cel 0 rfl 0 _ rfl
  obtain ⟨g1, -⟩ := h.cel 0 rfl 1 _ rfl
  generalize C.buf.length = n at *
  clear h
  go_enter Try.func36, Try.ntmps36
  go_wp2_with fail
  go_quiet (fail)
  go_wp2
  go_ret
  exact ⟨ret_bool (by simp), _, rfl⟩
def mSend (N : Nat) (C : Ch) (v : Int) : Ch × Wt × Bool × Int :=
  if C.cl then (C, zw, false, 10) else match C.R with
    | x :: t => (⟨C.buf, C.S, t, C.cl⟩, (x.1, x.2.1, v), true, 0)
    | [] => if C.buf.length < N then (⟨C.buf ++ [v], C.S, C.R, C.cl⟩, zw, false, 0) else (C, zw, false, 6)
theorem zw_agg : wv zw = .agg #[.int .i64 0, .int .i64 0, .int .i64 0] := rfl
theorem Own.setD {w0 w : World} {As : List Asr} {b : Nat} {cs : List Value} (h : Own w0 w (CelA b cs :: As)) : Own w0 w As := h.drop
set_option maxRecDepth 100000 in
set_option maxHeartbeats 1000000 in
theorem csend_any {w0 w : World} {R : List Asr} {p N : Nat} {C : Ch} (h : Own w0 w (ChanA p N C :: R)) (v : Int) (hb : C.buf.length ≤ 100000) (hr : C.R.length ≤ 100000) :
    Calls Try.prog 19 #[.pointer (some ⟨p, 0, none⟩), .int .i64 v] w fun r w' => r = .returned (.tuple #[wv (mSend N C v).2.1, .bool (mSend N C v).2.2.1, .int .i64 (mSend N C v).2.2.2]) ∧ Own w0 w' (ChanA p N (mSend N C v).1 :: R) := by
  have h0 := h
  obtain ⟨ba, bc, sa, sc, ra, rc, h⟩ := h.chan
  obtain ⟨buf, S, Rv, cl⟩ := C
  have hpl := World.block_lt_of_cell? w _ (h.cel 0 rfl 0 _ rfl).1
  obtain ⟨g4, f4⟩ := h.cel 0 rfl 4 _ rfl
  simp only [ccells] at h g4 hb hr
  cases cl with
  | true =>
    have hs : ∀ w', Below w.heap.size w w' → Own w0 w' (ChanA p N ⟨buf, S, Rv, true⟩ :: R) := fun w' hb => h0.step hb
    have HS := Lib.hid hs
    clear h h0 hs hb hr
    simp only [mSend, if_true]
    go_enter Try.func19, Try.ntmps19
    go_wp2
    exact bodyPost_ret (v := .tuple #[wv zw, .bool false, .int .i64 10]) (by simp [results, Try.results19, go_sem, wv, zw]) rfl ⟨rfl, HS.out _ (by repeat (first | exact Below.refl _ _ | refine Below.setCell ?_ (by simp) _ | refine Below.alloc ?_ (by simp) _))⟩
  | false =>
    have hA := h.alloc [.int .i64 0, .int .i64 0, .int .i64 0] 62 (b := w.heap.size) rfl
    clear h h0
    cases Rv with
    | cons x t =>
      have e : mSend N ⟨buf, S, x :: t, false⟩ v = (⟨buf, S, t, false⟩, (x.1, x.2.1, v), true, 0) := rfl
      rw [e]
      have hB := (hA.pick 4 rfl).pick 2 rfl
      have he := eldw_some (k := 3) (R := [CelA w.heap.size [.int .i64 0, .int .i64 0, .int .i64 0], RowGA 1 ba bc buf.length (intc buf), RowGA 3 sa sc S.length (wtc S)] ++ R) hB rfl rfl (by simp at hr ⊢; omega)
      have HE := Lib.hid he
      clear he hA hB hb hr e
      unfold wv at HE ⊢
      simp only
      go_enter Try.func19, Try.ntmps19
      go_wp2_with fail
      refine HE.out.mono ?_
      rintro r w2 ⟨rfl, a', h2⟩
      have h3 : Own w0 w2 (CelA p (ccells N ⟨buf, S, t, false⟩ ba bc sa sc a' (rc - 1)) :: RowGA 3 a' (rc - 1) t.length (wtc t) :: CelA w.heap.size [.int .i64 0, .int .i64 0, .int .i64 0] :: RowGA 1 ba bc buf.length (intc buf) :: RowGA 3 sa sc S.length (wtc S) :: R) := h2
      have hC : Own w0 w2 (CelA w.heap.size [.int .i64 0, .int .i64 0, .int .i64 0] :: ChanA p N ⟨buf, S, t, false⟩ :: R) :=
        (Own.chanBack ((((h3.pick 1 rfl).pick 4 rfl).pick 4 rfl).pick 3 rfl)).pick 1 rfl
      obtain ⟨z0, y0⟩ := hC.cel 0 rfl 0 _ rfl
      obtain ⟨z1, y1⟩ := hC.cel 0 rfl 1 _ rfl
      obtain ⟨z2, y2⟩ := hC.cel 0 rfl 2 _ rfl
      have hzl := World.block_lt_of_cell? w2 _ z0
      have HC := Lib.hid hC
      clear h2 h3 hC HE
      go_wp2
      exact bodyPost_ret (v := .tuple #[.agg #[.int .i64 x.1, .int .i64 x.2.1, .int .i64 v], .bool true, .int .i64 0]) (by simp [results, Try.results19, go_sem, hzl, z0, z1, z2]) rfl ⟨rfl, Own.setD (Own.step (Own.set (Own.set (Own.set HC.out 0 _) 1 _) 2 _) (below_alloc1 _ _))⟩
    | nil =>
      have e : mSend N ⟨buf, S, [], false⟩ v = if buf.length < N then (⟨buf ++ [v], S, [], false⟩, zw, false, 0) else (⟨buf, S, [], false⟩, zw, false, 6) := rfl
      rw [e]
      have he := eldw_none (k := 3) (R := [CelA w.heap.size [.int .i64 0, .int .i64 0, .int .i64 0], RowGA 1 ba bc buf.length (intc buf), RowGA 3 sa sc S.length (wtc S), RowGA 3 ra rc 0 (wtc [])] ++ R) (hA.pick 1 rfl) rfl
      have HE := Lib.hid he
      clear he hA hr e
      obtain ⟨n, hn⟩ : ∃ n, n = buf.length := ⟨_, rfl⟩
      rw [← hn] at HE hb ⊢
      have HN := Lib.hid hn
      clear hn
      unfold wv at HE ⊢
      by_cases hlt : n < N
      case' pos => rw [if_pos hlt]; have hd := Lib.hid (show decide (n < N) = true by simpa using hlt)
      case' neg => rw [if_neg hlt]; have hd := Lib.hid (show decide (n < N) = false by simpa using hlt)
      all_goals
       have HLT := Lib.hid hlt
       clear hlt
       simp only [zw] at HE ⊢
       go_enter Try.func19, Try.ntmps19
       go_wp2_with fail
       refine HE.out.mono ?_
       rintro r w2 ⟨rfl, h2, b2⟩
       have h3 : Own w0 w2 (CelA p (ccells N ⟨buf, S, [], false⟩ ba bc sa sc ra rc) :: CelA w.heap.size [.int .i64 0, .int .i64 0, .int .i64 0] :: RowGA 1 ba bc buf.length (intc buf) :: RowGA 3 sa sc S.length (wtc S) :: RowGA 3 ra rc 0 (wtc []) :: R) := by rw [HN.out] at h2; exact h2
       have h4 : Own w0 w2 (CelA w.heap.size [.int .i64 0, .int .i64 0, .int .i64 0] :: ChanA p N ⟨buf, S, [], false⟩ :: R) := (Own.chanBack (((((h3.pick 4 rfl).pick 4 rfl).pick 4 rfl).pick 3 rfl))).pick 1 rfl
       obtain ⟨z0, y0⟩ := h3.cel 1 rfl 0 _ rfl
       obtain ⟨z1, y1⟩ := h3.cel 1 rfl 1 _ rfl
       obtain ⟨z2, y2⟩ := h3.cel 1 rfl 2 _ rfl
       have hzl := World.block_lt_of_cell? w2 _ z0
       have hg := chas_any ((h4.pick 1 rfl).step (below_alloc1 w2 (.cells #[.int .i64 0, .int .i64 0, .int .i64 0] 62)))
       simp only at hg
       rw [← HN.out] at hg
       have HG := Lib.hid hg
       have H4 := Lib.hid h4
       have H3 := Lib.hid h3
       clear h2 h3 h4 hg b2 HE
       go_wp2_with fail
       refine HG.out.mono ?_
       rintro r w3 ⟨rfl, m, rfl⟩
       have hB3 : Below w2.heap.size w2 ((w2.alloc (.cells #[.int .i64 0, .int .i64 0, .int .i64 0] 62)).drewN m) := below_drewN (below_alloc1 _ _) m
       generalize (w2.alloc (.cells #[.int .i64 0, .int .i64 0, .int .i64 0] 62)).drewN m = W3 at *
       have h3 := H3.out.step hB3
       have h4 := H4.out.step hB3
       obtain ⟨p1, q1⟩ := h3.cel 0 rfl 1 _ rfl
       rw [show (Value.slice ba (Ch.buf ⟨buf, S, [], false⟩).length bc) = Value.slice ba n bc by rw [HN.out]] at p1
       obtain ⟨z0', y0'⟩ := h4.cel 0 rfl 0 _ rfl
       obtain ⟨z1', y1'⟩ := h4.cel 0 rfl 1 _ rfl
       obtain ⟨z2', y2'⟩ := h4.cel 0 rfl 2 _ rfl
       have hzl' := World.block_lt_of_cell? W3 _ z0'
       have K3 := Lib.hid h3
       have K4 := Lib.hid h4
       clear h3 h4 HG z0 y0 z1 y1 z2 y2 hzl g4 f4 H3 H4 hB3
       have hd1 := hd.out
       rw [hd1]
       clear hd hd1
      · go_wp2
        exact bodyPost_ret (v := .tuple #[.agg #[.int .i64 0, .int .i64 0, .int .i64 0], .bool false, .int .i64 6]) (by simp [results, Try.results19, go_sem, hzl', z0', z1', z2']) rfl ⟨rfl, Own.setD (Own.set (Own.set (Own.set K4.out 0 _) 1 _) 2 _)⟩
      · have hrow := K3.out.rowG 2 rfl
        rw [← HN.out] at hrow
        have HR := Lib.hid hrow
        obtain ⟨i0, hi0, hz0, hz1, hz2⟩ := info_parts info_i6
        have Hi := Lib.hid hi0; clear hi0
        have Hz0 := Lib.hid hz0; clear hz0
        have Hz1 := Lib.hid hz1; clear hz1
        have Hz2 := Lib.hid hz2; clear hz2
        clear hrow
        go_wp2_with (at_builtin; refine wpList_append_rowG (m := 1) (ds := intc [v]) rfl _ _ 43 rfl 2 i0 _ Try.underlying43 Hi.out Hz0.out Hz1.out Hz2.out rfl (by omega) (by omega) rfl rfl (HR.out.below (below_alloc1 _ _)) (CellsAt.new _ (intc [v]) _ rfl) rfl (intc_one _) (by omega) ?_)
        intro a1 c1 w4 k1 ch1 f1
        have h5 := Own.rowTurn ((K3.out.step (below_alloc1 W3 (.cells #[.int .i64 v] 2))).pick 2 rfl) k1 ch1 (fun x hx => by have := f1 x hx; simpa using this)
        obtain ⟨p1', q1'⟩ := h5.cel 1 rfl 1 _ rfl
        have h6 : Own w0 (w4.setCell ⟨p, 1, none⟩ (.slice a1 (n + 1) c1)) (RowGA 1 a1 c1 (n + 1) (intc (buf ++ [v])) :: CelA p (ccells N ⟨buf ++ [v], S, [], false⟩ a1 c1 sa sc ra rc) :: CelA w.heap.size [.int .i64 0, .int .i64 0, .int .i64 0] :: RowGA 3 sa sc S.length (wtc S) :: RowGA 3 ra rc 0 (wtc []) :: R) := by
          have h7 := h5.setAt 1 rfl 1 (.slice a1 (n + 1) c1)
          have e : n + 1 = (buf ++ [v]).length := by rw [HN.out]; simp
          rw [intc_app]
          simp only [ccells]
          rw [← e]
          exact h7
        have e : n + 1 = (buf ++ [v]).length := by rw [HN.out]; simp
        rw [e] at h6
        have hC : Own w0 (w4.setCell ⟨p, 1, none⟩ (.slice a1 (n + 1) c1)) (CelA w.heap.size [.int .i64 0, .int .i64 0, .int .i64 0] :: ChanA p N ⟨buf ++ [v], S, [], false⟩ :: R) := by
          rw [e]
          exact (Own.chanBack ((((h6.pick 4 rfl).pick 4 rfl).pick 2 rfl).pick 3 rfl)).pick 1 rfl
        obtain ⟨z0, y0⟩ := hC.cel 0 rfl 0 _ rfl
        obtain ⟨z1, y1⟩ := hC.cel 0 rfl 1 _ rfl
        obtain ⟨z2, y2⟩ := hC.cel 0 rfl 2 _ rfl
        obtain ⟨u0, v0⟩ := h5.cel 2 rfl 0 _ rfl
        obtain ⟨u1, v1⟩ := h5.cel 2 rfl 1 _ rfl
        obtain ⟨u2, v2⟩ := h5.cel 2 rfl 2 _ rfl
        have hpw : p ≠ w.heap.size := by omega
        have hpl4 := World.block_lt_of_cell? w4 _ p1'
        have hzl4 := World.block_lt_of_cell? w4 _ u0
        have HC := Lib.hid hC
        clear h5 h6 hC k1 ch1 f1 e z0' y0' z1' y1' z2' y2' hzl' p1 q1
        go_wp2
        exact bodyPost_ret (v := .tuple #[.agg #[.int .i64 0, .int .i64 0, .int .i64 0], .bool false, .int .i64 0]) (by simp [results, Try.results19, go_sem, hzl4, u0, u1, u2]) rfl ⟨rfl, Own.setD (Own.set (Own.set (Own.set HC.out 0 _) 1 _) 2 _)⟩
end Go.Proofs.Ytphjgfjfeehjhaa
