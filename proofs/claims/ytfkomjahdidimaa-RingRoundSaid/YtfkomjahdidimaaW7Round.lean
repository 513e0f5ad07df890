/-
  The walk of the law RingRound.
-/
import Derived.Test.YtfkomjahdidimaaWRing3
import Derived.OpenShut
open Go Go.RowKit
set_option linter.unusedVariables false
namespace Go.Proofs.Ytfkomjahdidimaa.ringRound
set_option maxRecDepth 100000 in
set_option maxHeartbeats 2000000 in
theorem walk (a0 a1 : Int) (w : World) (v0 : (Lit.int .i64 a0).wf = true) (v1 : (Lit.int .i64 a1).wf = true) :
    Calls Try.prog 4 #[.int .i64 a0, .int .i64 a1] w fun e w' => e = .returned (.bool true) ∧ Below w.heap.size w w' := by
  obtain ⟨S, hS⟩ : ∃ S : Nat, (bits BinOp.and IntKind.i64 a1 65535).tmod 3000 = (S : Int) := ⟨((a1 % 65536).tmod 3000).toNat, by rw [and_65535, Int.toNat_of_nonneg (Int.tmod_nonneg _ (by omega))]⟩
  have hS2 : S ≤ 2999 := by
    have := Int.tmod_lt_of_pos (bits BinOp.and IntKind.i64 a1 65535) (show (0 : Int) < 3000 by omega)
    omega
  clear v0 v1
  go_enter Try.func4, Try.ntmps4
  go_wp2_with fail
  refine (awake7_any _).mono ?_
  rintro e w1 ⟨rfl, hb1⟩
  have B1 := Lib.hid hb1; clear hb1
  go_wp2_with fail
  refine (ri_new a0 w1 _ (Below.refl _ _)).mono ?_
  rintro e w2 ⟨p, g, rfl, h2, -, -, -⟩
  obtain ⟨l0, hl1, hl2⟩ := h2.ll
  generalize roomOf a0 = N at h2 hl1 hl2
  clear l0
  have H2 := Lib.hid h2; clear h2
  go_wp2_with fail
  refine (ri_room H2.out).mono ?_
  rintro e w3 ⟨rfl, rfl⟩
  go_wp2_with fail
  go_loopw [23] (fun iv wr => ∃ i : Nat, i ≤ S ∧ iv = .int .i64 i ∧ Hid (RI w1 wr p g N [])) (fun iv _ => S - (intOf iv).toNat)
  case atStart => exact ⟨0, by omega, rfl, H2⟩
  case round =>
    obtain ⟨i, hi, rfl, hr⟩ := hrel
    by_cases hlt : i < S
    · go_wp2_with fail
      refine (ri_push hr.out (i : Int) (by simp; omega)).mono ?_
      rintro e w4 ⟨rfl, h4, -⟩
      have H4 : Hid (RI w1 w4 p g N [(i : Int)]) := Lib.hid h4
      clear h4
      go_wp2_with fail
      refine (ri_pop H4.out).mono ?_
      rintro e w5 ⟨rfl, h5, -⟩
      have H5 := Lib.hid h5; clear h5
      go_wp2
      exact ⟨⟨i + 1, by omega, by go_num, H5⟩, by simp [intOf]; omega⟩
    · obtain rfl : i = S := by omega
      have hst : RI w1 wr p g N (upto 0) := hr.out
      have HST := Lib.hid hst; clear hst
      go_wp2_with fail
      go_loopw [47] (fun jv wq => ∃ j : Nat, j ≤ N ∧ jv = .int .i64 j ∧ Hid (RI w1 wq p g N (upto j))) (fun jv _ => N - (intOf jv).toNat)
      case atStart => exact ⟨0, by omega, rfl, HST⟩
      case round =>
        obtain ⟨j, hj, rfl, hq⟩ := hrel
        by_cases hlt2 : j < N
        · go_wp2_with fail
          refine (ri_push hq.out (j : Int) (by rw [upto_len]; omega)).mono ?_
          rintro e w4 ⟨rfl, h4, -⟩
          rw [← upto_succ] at h4
          have H4 := Lib.hid h4; clear h4
          go_wp2
          exact ⟨⟨j + 1, by omega, by go_num, H4⟩, by simp [intOf]; omega⟩
        · obtain rfl : j = N := by omega
          go_wp2_with fail
          refine (ri_full hq.out 0 (by rw [upto_len]; omega)).mono ?_
          rintro e w4 ⟨rfl, h4, -⟩
          have H4 := Lib.hid h4; clear h4
          go_wp2_with fail
          refine (ri_len H4.out).mono ?_
          rintro e w5 ⟨rfl, rfl⟩
          rw [upto_len]
          have t1 : takes ((j : Int) + 5) (upto j).length = j := by unfold takes; rw [upto_len]; omega
          have T1 := Lib.hid t1; clear t1
          go_wp2_with fail
          refine (ri_take H4.out ((j : Int) + 5)).mono ?_
          rw [T1.out]
          rintro e w6 ⟨q, rfl, k1, k2, h6, -⟩
          rw [List.take_of_length_le (by rw [upto_len]; exact Nat.le_refl _)] at k2
          rw [List.drop_of_length_le (by rw [upto_len]; exact Nat.le_refl _)] at h6
          have K := Lib.hid k2.ints
          have H6 := Lib.hid h6
          clear k1 k2 h6
          go_wp2_with fail
          go_loopw [68] (fun cv wx => ∃ c : Nat, c ≤ j ∧ cv = .int .i64 c ∧ wx = w6) (fun cv _ => j - (intOf cv).toNat)
          case atStart => exact ⟨0, by omega, rfl, rfl⟩
          case round =>
            obtain ⟨c, hc, rfl, rfl⟩ := hrel
            by_cases hlt3 : c < j
            · obtain ⟨b9, o9, h9, g9⟩ := K.out c (by rw [upto_len]; omega)
              rw [upto_at] at g9
              cases h9
              rw [Nat.zero_add] at g9
              have hji : (c : Int) < (j : Int) := by omega
              go_wp2
              exact ⟨⟨c + 1, by omega, by go_num, trivial⟩, by simp [intOf]; omega⟩
            · obtain rfl : c = j := by omega
              go_wp2_with fail
              refine (ri_len H6.out).mono ?_
              rintro e w7 ⟨rfl, rfl⟩
              rw [show (([] : List Int).length : Int) = 0 from rfl]
              have hb9 := below_on B1.out H6.out.bel
              go_wp2
              go_ret
              exact ⟨rfl, hb9⟩
end Go.Proofs.Ytfkomjahdidimaa.ringRound
