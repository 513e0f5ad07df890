/-
  LocalPlays: any calls.
-/
import Derived.Test.YtmldfckeenahlaaWDo8m
import Derived.Test.YtmldfckeenahlaaWDo8n
import Derived.Test.YtmldfckeenahlaaWDo8y
import Derived.Test.YtmldfckeenahlaaActsIn
open Go Go.RowKit
set_option linter.unusedVariables false
namespace Go.Proofs.Ytmldfckeenahlaa
theorem St8.step {w0 w w' : World} {wb b : Nat} {ds : List Qd} {gl : List Int} {nx : Nat} {out : List Int} (h : St8 w0 w wb b ds gl nx out) (hb : Below w.heap.size w w') : St8 w0 w' wb b ds gl nx out := by
  obtain ⟨la, lc, xa, xc, rs, ya, yc, oa, oc, h1, h2⟩ := h
  exact ⟨la, lc, xa, xc, rs, ya, yc, oa, oc, Own.step h1 hb, h2⟩
theorem St8.bel {w0 w : World} {wb b : Nat} {ds : List Qd} {gl : List Int} {nx : Nat} {out : List Int} (h : St8 w0 w wb b ds gl nx out) : Below w0.heap.size w0 w := by
  obtain ⟨la, lc, xa, xc, rs, ya, yc, oa, oc, h1, h2⟩ := h
  exact h1.1
end Go.Proofs.Ytmldfckeenahlaa
namespace Go.Proofs.Ytmldfckeenahlaa.localPlays
set_option maxRecDepth 100000 in
set_option maxHeartbeats 8000000 in
theorem walk (x0 x1 x2 x3 : Int) (a1 : Option Addr) (len1 cap1 : Nat) (l1 : List Ac3) (w : World) (w1' : IsActs3 w a1 len1 cap1 l1) :
    Calls Try.prog 3 #[.agg #[.int .i64 x0, .int .i64 x1, .int .i64 x2, .int .i64 x3], .slice a1 len1 cap1] w fun e w' => e = .returned (.bool true) ∧ Below w.heap.size w w' := by
  obtain ⟨hm, hlc, hcm, hat, -⟩ := w1'
  have hlm : len1 ≤ maxLen := Nat.le_trans hlc hcm
  unfold maxLen at hlm
  have Hat := Lib.hid hat; clear hat hlc hcm
  have Hm := Lib.hid hm; clear hm
  obtain ⟨ba, hba⟩ : ∃ ba, ba = w.heap.size := ⟨_, rfl⟩
  have hbA := below_alloc1 w (.cells #[.int .i64 x0, .int .i64 x1, .int .i64 x2, .int .i64 x3] 22)
  have hact := Blk.mk w [.int .i64 x0, .int .i64 x1, .int .i64 x2, .int .i64 x3] 22 ba hba
  have HACT := Lib.hid hact
  have HBA := Lib.hid hbA
  clear hact hbA
  go_enter Try.func3, Try.ntmps3
  go_upto_region 1 with fail
  rw [← hba]
  generalize w.alloc (.cells #[.int .i64 x0, .int .i64 x1, .int .i64 x2, .int .i64 x3] 22) = W at *
  clear hba
  go_wp2_with fail
  refine (awake8_any _).mono ?_
  rintro e w1 ⟨rfl, hb1⟩
  have q0 := cell_below (HACT.out 0 _ rfl).1 hb1
  have q1 := cell_below (HACT.out 1 _ rfl).1 hb1
  have q2 := cell_below (HACT.out 2 _ rfl).1 hb1
  have q3 := cell_below (HACT.out 3 _ rfl).1 hb1
  have B1 := Lib.hid (below_on HBA.out hb1)
  clear hb1 HACT HBA
  go_wp2_with fail
  refine (made_any w1 x0 x1 x2 x3).mono ?_
  rintro e w2 ⟨wb, b, rfl, hmk⟩
  obtain ⟨ds0, hst0⟩ := hmk.st
  have HST := Lib.hid hst0
  clear hmk hst0 q0 q1 q2 q3
  go_wp2_with fail
  go_loopw [6] (fun iv wr => ∃ i : Nat, i ≤ 60 ∧ i ≤ len1 ∧ iv = .int .i64 i ∧ Hid (∃ ds gl nx out, St8 w1 wr wb b ds gl nx out ∧ nx ≤ i)) (fun iv _ => 60 - (intOf iv).toNat)
  case atStart => exact ⟨0, by omega, by omega, rfl, Lib.hid ⟨ds0, [], 0, [], HST.out, by omega⟩⟩
  case round =>
    obtain ⟨i, hi6, hi, rfl, hr⟩ := hrel
    obtain ⟨ds, gl, nx, out, hst, hnx⟩ := hr.out
    have hbw := below_on B1.out hst.bel
    by_cases hlt : i < len1 ∧ i < 60
    · obtain ⟨hlt1, hlt2⟩ := hlt
      have hl1 : (i : Int) < (len1 : Int) := by omega
      have hl2 : (i : Int) < 60 := by omega
      obtain ⟨b1, o1, rfl, g0, g1, g2⟩ := (Hat.out.below hbw) i (by have := Hm.out; omega)
      obtain ⟨ac, hac⟩ : ∃ ac, ac = l1[i]'(by have := Hm.out; omega) := ⟨_, rfl⟩
      rw [← hac] at g0 g1 g2
      obtain ⟨kd, wh, n⟩ := ac
      simp only at g0 g1 g2
      have HS := Lib.hid hst
      clear hac hst hbw hr HST
      go_wp2_with fail
      refine (does_any w1 wr wb b ds gl nx out kd wh n HS.out (by omega)).mono ?_
      rintro e w4 ⟨ds', gl', nx', out', rfl, hst', hn1, hn2⟩
      have HS4 := Lib.hid hst'
      clear hst' HS g0 g1 g2
      go_wp2_with fail
      refine (same8_any w1 w4 wb b ds' gl' nx' out' HS4.out (by omega)).mono ?_
      rintro e w5 ⟨rfl, hb5⟩
      have HS5 := Lib.hid (⟨ds', gl', nx', out', HS4.out.step hb5, by omega⟩ : ∃ ds gl nx out, St8 w1 w5 wb b ds gl nx out ∧ nx ≤ i + 1)
      clear hb5 HS4
      go_wp2_with fail
      exact ⟨⟨i + 1, by omega, by omega, by go_num, HS5⟩, by simp [intOf]; omega⟩
    · have hcase : (i < len1 ∧ ¬ i < 60) ∨ ¬ i < len1 := by omega
      rcases hcase with ⟨h1, h2⟩ | h1
      all_goals
        clear hr hst
        go_wp2
        go_ret
        exact ⟨rfl, hbw⟩
end Go.Proofs.Ytmldfckeenahlaa.localPlays
