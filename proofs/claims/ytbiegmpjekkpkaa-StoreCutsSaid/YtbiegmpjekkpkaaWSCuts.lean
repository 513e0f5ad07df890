/-
  The walk of the law StoreCuts.
-/
import Derived.Test.YtbiegmpjekkpkaaWStore4
import Derived.Test.YtbiegmpjekkpkaaInArgs
open Go Go.RowKit
set_option linter.unusedVariables false
namespace Go.Proofs.Ytbiegmpjekkpkaa.storeCuts
attribute [local go_sem ↓] Go.wp_at_zero Go.wp_at_succ
/-- The store behind i calls of which N are let through. -/
def Cu (N i : Nat) (s : SSt) : Prop := s.armed = true ∧ s.room = 10000 ∧ s.left = N - min i N ∧ s.dead = decide (N < i) ∧ s.bs.length ≤ 2 * i
theorem Cu.may {N i : Nat} {s : SSt} (h : Cu N i s) : s.may = decide (i < N) := by
  obtain ⟨h1, h2, h3, h4, h5⟩ := h
  unfold SSt.may
  rw [h1, h3]
  by_cases hi : i < N
  · rw [decide_eq_true hi, decide_eq_true (show N - min i N ≠ 0 by omega)]; rfl
  · rw [decide_eq_false hi, decide_eq_false (show ¬ N - min i N ≠ 0 by omega)]; rfl
theorem Cu.call_lt {N i : Nat} {s : SSt} (h : Cu N i s) (hi : i < N) : s.call = { s with left := N - (i + 1) } := by
  obtain ⟨h1, h2, h3, h4, h5⟩ := h
  unfold SSt.call
  rw [if_pos h1, if_neg (show ¬ s.left = 0 by omega)]
  congr 1
  omega
theorem Cu.call_ge {N i : Nat} {s : SSt} (h : Cu N i s) (hi : ¬ i < N) : s.call = { s with dead := true } := by
  obtain ⟨h1, h2, h3, h4, h5⟩ := h
  unfold SSt.call
  rw [if_pos h1, if_pos (show s.left = 0 by omega)]
theorem Cu.sync_lt {N i : Nat} {s : SSt} (h : Cu N i s) (hi : i < N) : s.syncE = 0 ∧ Cu N (i + 1) s.sync := by
  have hm : s.may = true := by rw [h.may, decide_eq_true hi]
  refine ⟨by simp [SSt.syncE, hm], ?_⟩
  have e : s.sync = { s with left := N - (i + 1), safe := s.bs.length } := by simp [SSt.sync, hm, h.call_lt hi]
  rw [e]
  obtain ⟨h1, h2, h3, h4, h5⟩ := h
  refine ⟨h1, h2, by simp only; omega, ?_, by simp only; omega⟩
  simp only; rw [h4, decide_eq_false (by omega), decide_eq_false (by omega)]
theorem Cu.app_lt {N i : Nat} {s : SSt} (h : Cu N i s) (hi : i < N) (hi2 : i < 50) (t : List UInt8) (ht : t.length = 2) : s.appendE t = 0 ∧ Cu N (i + 1) (s.append t) := by
  have hm : s.may = true := by rw [h.may, decide_eq_true hi]
  have hc := h.call_lt hi
  obtain ⟨h1, h2, h3, h4, h5⟩ := h
  have hr : s.bs.length + t.length ≤ s.room := by omega
  refine ⟨by simp [SSt.appendE, hm, hr], ?_⟩
  have e : s.append t = { s with left := N - (i + 1), bs := s.bs ++ t } := by simp [SSt.append, hm, hr, hc]
  rw [e]
  refine ⟨h1, h2, by simp only; omega, ?_, by simp only [List.length_append]; omega⟩
  simp only; rw [h4, decide_eq_false (by omega), decide_eq_false (by omega)]
theorem Cu.dead {N i : Nat} {s : SSt} (h : Cu N i s) (hi : ¬ i < N) : Cu N (i + 1) { s with dead := true } := by
  obtain ⟨h1, h2, h3, h4, h5⟩ := h
  refine ⟨h1, h2, by simp only; omega, ?_, by simp only; omega⟩
  simp only; rw [decide_eq_true (by omega)]
theorem Cu.sync_ge {N i : Nat} {s : SSt} (h : Cu N i s) (hi : ¬ i < N) : s.syncE = 8 ∧ s.sync = { s with dead := true } := by
  have hm : s.may = false := by rw [h.may, decide_eq_false hi]
  exact ⟨by simp [SSt.syncE, hm], by simp [SSt.sync, hm, h.call_ge hi]⟩
theorem Cu.app_ge {N i : Nat} {s : SSt} (h : Cu N i s) (hi : ¬ i < N) (t : List UInt8) : s.appendE t = 8 ∧ s.append t = { s with dead := true } := by
  have hm : s.may = false := by rw [h.may, decide_eq_false hi]
  exact ⟨by simp [SSt.appendE, hm], by simp [SSt.append, hm, h.call_ge hi]⟩
theorem and_31 (k : Int) : bits BinOp.and IntKind.i64 k 31 = k % 32 := by
  show IntKind.i64.wrap (((BitVec.ofInt 64 k) &&& (BitVec.ofInt 64 31)).toNat : Int) = k % 32
  have e : (BitVec.ofInt 64 31).toNat = 31 := by decide
  rw [BitVec.toNat_and, e, show (31 : Nat) = 2 ^ 5 - 1 from rfl, Nat.and_two_pow_sub_one_eq_mod, IntKind.wrap_i64, BitVec.toNat_ofInt]; omega
/-- Behind the crash. -/
theorem crash_all (s : SSt) (h : s.safe ≤ s.bs.length) (h2 : s.bs.length ≤ 100) (hr : s.room = 10000) :
    s.crash 1000000 [] = ⟨s.bs, s.bs.length, 10000, false, 0, false⟩ := by
  have hk : s.keeps 1000000 = s.bs.length - s.safe := by unfold SSt.keeps; omega
  unfold SSt.crash
  rw [hk, hr]
  congr 1
  · unfold overlay
    simp only [List.take_nil, List.nil_append, List.length_nil, List.drop_zero]
    rw [List.take_of_length_le (l := s.bs.drop s.safe) (by rw [List.length_drop]; exact Nat.le_refl _), List.take_append_drop]
  · omega
set_option maxRecDepth 100000 in
set_option maxHeartbeats 2000000 in
theorem walk (a0 : Int) (a1 : Option Addr) (len1 cap1 : Nat) (l1 : List Bool) (w : World) (w0 : (Lit.int .i64 a0).wf = true) (w1 : IsBools w a1 len1 cap1 l1) :
    Calls Try.prog 7 #[.int .i64 a0, .slice a1 len1 cap1] w fun e w' => e = .returned (.bool true) ∧ Below w.heap.size w w' := by
  obtain ⟨rfl, hlc, hcm, hat⟩ := w1
  clear w0
  have hlm : l1.length ≤ maxLen := Nat.le_trans hlc hcm
  unfold maxLen at hlm
  have Hat := Lib.hid hat; clear hat hlc hcm
  obtain ⟨m, hm⟩ : ∃ m, m = l1.length := ⟨_, rfl⟩
  rw [← hm] at hlm ⊢
  have Hm := Lib.hid hm; clear hm
  obtain ⟨N, hN⟩ : ∃ N : Nat, bits BinOp.and IntKind.i64 a0 31 = (N : Int) := ⟨(a0 % 32).toNat, by rw [and_31]; omega⟩
  have hN2 : N ≤ 31 := by rw [and_31] at hN; omega
  go_enter Try.func7, Try.ntmps7
  go_wp2_with fail
  refine (awake4_any _).mono ?_
  rintro e w1 ⟨rfl, hb1⟩
  have Hat1 := Lib.hid (Hat.out.below hb1)
  have B1 := Lib.hid hb1; clear hb1 Hat
  go_wp2_with fail
  refine (inv_new 10000 w1 _ (Below.refl _ _) (by omega) (by omega)).mono ?_
  rintro e w2 ⟨rfl, h2⟩
  have H2 := Lib.hid h2; clear h2
  obtain ⟨p, hp⟩ : ∃ p, p = w1.heap.size := ⟨_, rfl⟩
  rw [← hp] at H2 ⊢
  clear hp
  go_wp2_with fail
  refine (inv_arm H2.out N (by omega) (by omega)).mono ?_
  rintro e w3 ⟨rfl, h3⟩
  have hcu : Cu N 0 ((SSt.new 10000).arm N) := by
    refine ⟨?_, ?_, ?_, ?_, ?_⟩ <;> simp [SSt.arm, SSt.new]
  have hfin : ∃ s, Inv w1 w3 p s ∧ Cu N 0 s := ⟨_, h3, hcu⟩
  have H3 := Lib.hid hfin; clear hfin hcu h3 H2
  clear hN
  go_wp2_with fail
  go_loopw [6, 7, 8, 9] (fun dv iv wv ev wr => ∃ i : Nat, i ≤ 50 ∧ i ≤ m ∧ iv = .int .i64 i ∧ dv = .int .i64 (min i N : Nat) ∧ Hid (∃ s, Inv w1 wr p s ∧ Cu N i s)) (fun _ iv _ _ _ => 50 - (intOf iv).toNat)
  case atStart => exact ⟨0, by omega, by omega, rfl, by simp, H3.out⟩
  case round =>
    obtain ⟨i, hi, him, rfl, rfl, hr⟩ := hrel
    obtain ⟨s, hs, hcu⟩ := hr.out
    have HS := Lib.hid hs; clear hs hr
    have HC := Lib.hid hcu; clear hcu
    by_cases hlt : i < m ∧ i < 50
    · obtain ⟨hl1, hl2⟩ := hlt
      go_wp2_with fail
      refine (inv_bytes HS.out).mono ?_
      rintro e w4 ⟨rfl, rfl⟩
      obtain ⟨b, off, rfl, hcell⟩ := (Hat1.out.below HS.out.bel) i (by have := Hm.out; omega)
      generalize l1[i]'(by have := Hm.out; omega) = bb at hcell
      obtain ⟨M, hM⟩ : ∃ M, M = min i N := ⟨_, rfl⟩
      rw [← hM]
      by_cases hiN : i < N
      · have d1 : decide ((i : Int) < (N : Int)) = true := by rw [decide_eq_true_eq]; omega
        have hM2 : M ≤ 31 := by omega
        have HM : Hid (M + 1 = min (i + 1) N) := Lib.hid (by omega)
        clear hM
        cases bb
        all_goals
          go_wp2_with fail
          first
            | (refine (inv_append HS.out _ (by have h := HC.out.2.2.2.2; show s.bs.length + 2 ≤ 140737488355328; omega)).mono ?_
               obtain ⟨e1, e2⟩ := HC.out.app_lt hiN hl2 (ByteArray.mk #[97, 98]).data.toList rfl)
            | (refine (inv_sync HS.out).mono ?_
               obtain ⟨e1, e2⟩ := HC.out.sync_lt hiN)
          rw [e1]
          rintro e w5 ⟨rfl, h5⟩
          have H5 := Lib.hid h5; clear h5
          have E2 := Lib.hid e2; clear e2 e1
          go_wp2
          exact ⟨⟨i + 1, by omega, by omega, by go_num, by rw [← HM.out]; go_num, _, H5.out, E2.out⟩, by simp [intOf]; omega⟩
      · have d1 : decide ((i : Int) < (N : Int)) = false := by rw [decide_eq_false_iff_not]; omega
        have hM2 : M ≤ 31 := by omega
        have HM : Hid (M = min (i + 1) N) := Lib.hid (by omega)
        clear hM
        have e3 := HC.out.dead hiN
        cases bb
        all_goals
          go_wp2_with fail
          first
            | (refine (inv_append HS.out _ (by have h := HC.out.2.2.2.2; show s.bs.length + 2 ≤ 140737488355328; omega)).mono ?_
               obtain ⟨e1, e2⟩ := HC.out.app_ge hiN (ByteArray.mk #[97, 98]).data.toList)
            | (refine (inv_sync HS.out).mono ?_
               obtain ⟨e1, e2⟩ := HC.out.sync_ge hiN)
          rw [e1, e2]
          rintro e w5 ⟨rfl, h5⟩
          have H5 := Lib.hid h5; clear h5
          have E3 := Lib.hid e3; clear e3 e2 e1
          go_wp2_with fail
          refine (inv_bytes H5.out).mono ?_
          rintro e w6 ⟨rfl, rfl⟩
          go_wp2_with fail
          refine (inv_dead H5.out).mono ?_
          rintro e w6 ⟨rfl, rfl⟩
          go_wp2
          exact ⟨⟨i + 1, by omega, by omega, by go_num, by rw [← HM.out], _, H5.out, E3.out⟩, by simp [intOf]; omega⟩
    · have hs := HS.out
      obtain ⟨F, hst, _, _⟩ := hs
      have hsafe := hst.1.1
      have hcr := crash_all s hsafe (by have := HC.out.2.2.2.2; omega) HC.out.2.1
      have hlen : s.bs.length ≤ 100 := by have := HC.out.2.2.2.2; omega
      clear hst
      have HCR := Lib.hid hcr; clear hcr
      have n1 : (⟨s.bs, s.bs.length, 10000, false, 0, false⟩ : SSt).appendE [99] = 0 := by simp [SSt.appendE, SSt.may]; omega
      have n2 : (⟨s.bs, s.bs.length, 10000, false, 0, false⟩ : SSt).append [99] = ⟨s.bs ++ [99], s.bs.length, 10000, false, 0, false⟩ := by simp [SSt.append, SSt.may, SSt.call]; omega
      have N1 := Lib.hid n1; clear n1
      have N2 := Lib.hid n2; clear n2
      have hcase : (i < m ∧ min i N = N) ∨ (¬ i < m ∧ m < N ∧ min i N = m) ∨ (¬ i < m ∧ ¬ m < N ∧ min i N = N) := by omega
      rcases hcase with ⟨h1, hM⟩ | ⟨h1, h2, hM⟩ | ⟨h1, h2, hM⟩
      all_goals
        rw [hM]
        clear hM
        go_wp2_with fail
        refine (inv_crash HS.out 1000000 _ (by omega) (by omega)).mono ?_
        rintro e w5 ⟨rfl, h5⟩
        have h5' : Inv w1 w5 p ⟨s.bs, s.bs.length, 10000, false, 0, false⟩ := by rw [← HCR.out]; exact h5
        have H5 := Lib.hid h5'; clear h5 h5'
        go_wp2_with fail
        refine (inv_dead H5.out).mono ?_
        rintro e w6 ⟨rfl, rfl⟩
        go_wp2_with fail
        refine (inv_append H5.out _ (by show s.bs.length + 1 ≤ 140737488355328; omega)).mono ?_
        rintro e w6 ⟨rfl, h6⟩
        rw [show SSt.appendE _ (ByteArray.mk #[99]).data.toList = 0 from N1.out]
        have h6' : Inv w1 w6 p ⟨s.bs ++ [99], s.bs.length, 10000, false, 0, false⟩ := by rw [← N2.out]; exact h6
        have H6 := Lib.hid h6'; clear h6 h6'
        go_wp2_with fail
        refine (inv_sync H6.out).mono ?_
        rintro e w7 ⟨rfl, h7⟩
        have h7' : Inv w1 w7 p ⟨s.bs ++ [99], s.bs.length + 1, 10000, false, 0, false⟩ := by
          have e : SSt.sync ⟨s.bs ++ [99], s.bs.length, 10000, false, 0, false⟩ = ⟨s.bs ++ [99], s.bs.length + 1, 10000, false, 0, false⟩ := by simp [SSt.sync, SSt.may, SSt.call]
          rw [← e]; exact h7
        have H7 := Lib.hid h7'; clear h7 h7'
        rw [show SSt.syncE ⟨s.bs ++ [99], s.bs.length, 10000, false, 0, false⟩ = 0 by simp [SSt.syncE, SSt.may]]
        go_wp2_with fail
        refine (inv_safe H7.out).mono ?_
        rintro e w8 ⟨rfl, rfl⟩
        go_wp2_with fail
        refine (inv_len H7.out).mono ?_
        rintro e w8 ⟨rfl, rfl⟩
        rw [show (SSt.mk (s.bs ++ [99]) (s.bs.length + 1) 10000 false 0 false).bs.length = s.bs.length + 1 by simp]
        go_wp2
        go_ret
        exact ⟨rfl, below_on B1.out H7.out.bel⟩
end Go.Proofs.Ytbiegmpjekkpkaa.storeCuts
