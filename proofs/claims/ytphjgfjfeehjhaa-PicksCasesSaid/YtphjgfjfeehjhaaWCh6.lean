/-
  Channels: CanSend, CanRecv.
-/
import Derived.Test.YtphjgfjfeehjhaaWCh5
open Go Go.RowKit
set_option linter.unusedVariables false
namespace Go.Proofs.Ytphjgfjfeehjhaa
def canS (N : Nat) (C : Ch) : Bool := C.cl || (decide (0 < C.R.length) || decide (C.buf.length < N))
def canR (C : Ch) : Bool := C.cl || (decide (0 < C.S.length) || decide (0 < C.buf.length))
set_option maxRecDepth 100000 in
set_option maxHeartbeats 1000000 in
theorem ccans_any {w0 w : World} {R : List Asr} {p N : Nat} {C : Ch} (h : Own w0 w (ChanA p N C :: R)) :
    Calls Try.prog 40 #[.pointer (some ⟨p, 0, none⟩)] w fun r w' => r = .returned (.bool (canS N C)) ∧ ∃ m, w' = w.drewN m := by
  have hh := chas_any h
  have HH := Lib.hid hh
  obtain ⟨ba, bc, sa, sc, ra, rc, h1⟩ := h.chan
  obtain ⟨g3, -⟩ := h1.cel 0 rfl 3 _ rfl
  obtain ⟨g4, -⟩ := h1.cel 0 rfl 4 _ rfl
  obtain ⟨buf, S, Rv, cl⟩ := C
  simp only [ccells] at g3 g4
  clear h h1 hh
  cases cl with
  | true =>
    unfold canS
    simp only [Bool.true_or]
    go_enter Try.func40, Try.ntmps40
    go_wp2
    go_ret
    exact ⟨rfl, 0, rfl⟩
  | false =>
    cases Rv with
    | cons x t =>
      unfold canS
      simp only [Bool.false_or, List.length_cons, Nat.zero_lt_succ, decide_true, Bool.true_or] at g3 ⊢
      have hp : 0 < t.length + 1 := by omega
      go_enter Try.func40, Try.ntmps40
      go_wp2
      go_ret
      exact ⟨rfl, 0, rfl⟩
    | nil =>
      unfold canS
      simp only [Bool.false_or, List.length_nil, Nat.lt_irrefl, decide_false] at g3 HH ⊢
      generalize decide (buf.length < N) = bb at *
      go_enter Try.func40, Try.ntmps40
      go_wp2_with fail
      refine HH.out.mono ?_
      rintro r w1 ⟨rfl, m, rfl⟩
      go_wp2
      go_ret
      exact ⟨rfl, m, rfl⟩
set_option maxRecDepth 100000 in
set_option maxHeartbeats 1000000 in
theorem ccanr_any {w0 w : World} {R : List Asr} {p N : Nat} {C : Ch} (h : Own w0 w (ChanA p N C :: R)) :
    Calls Try.prog 39 #[.pointer (some ⟨p, 0, none⟩)] w fun r w' => r = .returned (.bool (canR C)) ∧ w = w' := by
  obtain ⟨ba, bc, sa, sc, ra, rc, h1⟩ := h.chan
  obtain ⟨g1, -⟩ := h1.cel 0 rfl 1 _ rfl
  obtain ⟨g2, -⟩ := h1.cel 0 rfl 2 _ rfl
  obtain ⟨g4, -⟩ := h1.cel 0 rfl 4 _ rfl
  obtain ⟨buf, S, Rv, cl⟩ := C
  simp only [ccells] at g1 g2 g4
  clear h h1
  cases cl with
  | true =>
    unfold canR
    simp only [Bool.true_or]
    go_enter Try.func39, Try.ntmps39
    go_wp2
    go_ret
    exact ⟨rfl, rfl⟩
  | false =>
    cases S with
    | cons x t =>
      unfold canR
      simp only [Bool.false_or, List.length_cons, Nat.zero_lt_succ, decide_true, Bool.true_or] at g2 ⊢
      have hp : 0 < t.length + 1 := by omega
      go_enter Try.func39, Try.ntmps39
      go_wp2
      go_ret
      exact ⟨rfl, rfl⟩
    | nil =>
      cases buf with
      | cons y b =>
        unfold canR
        simp only [Bool.false_or, List.length_nil, List.length_cons, Nat.zero_lt_succ, decide_true, Nat.lt_irrefl, decide_false] at g1 g2 ⊢
        have hp : 0 < b.length + 1 := by omega
        go_enter Try.func39, Try.ntmps39
        go_wp2
        go_ret
        exact ⟨rfl, rfl⟩
      | nil =>
        unfold canR
        simp only [Bool.false_or, List.length_nil, Nat.lt_irrefl, decide_false] at g1 g2 ⊢
        go_enter Try.func39, Try.ntmps39
        go_wp2
        go_ret
        exact ⟨rfl, rfl⟩
end Go.Proofs.Ytphjgfjfeehjhaa
