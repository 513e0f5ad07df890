/-
  The walk of the law RingHalves.
-/
import Derived.Test.YtfkomjahdidimaaWRing3
import Derived.OpenShut
open Go Go.RowKit
set_option linter.unusedVariables false
namespace Go.Proofs.Ytfkomjahdidimaa.ringHalves
set_option maxRecDepth 100000 in
set_option maxHeartbeats 2000000 in
theorem walk (a0 a1 : Int) (w : World) (v0 : (Lit.int .i64 a0).wf = true) (v1 : (Lit.int .i64 a1).wf = true) :
    Calls Try.prog 5 #[.int .i64 a0, .int .i64 a1] w fun e w' => e = .returned (.bool true) ∧ Below w.heap.size w w' := by
  obtain ⟨z, hz, hz1, hz2⟩ := small_of a0 60 (by omega)
  clear v0 v1 hz2
  go_enter Try.func5, Try.ntmps5
  go_wp2_with fail
  refine (awake7_any _).mono ?_
  rintro e w1 ⟨rfl, hb1⟩
  have B1 := Lib.hid hb1; clear hb1
  have hz' : (bits BinOp.and IntKind.i64 a0 255).tmod 60 = (z : Int) := hz
  clear hz
  go_wp2_with fail
  refine (ri_new z w1 _ (Below.refl _ _)).mono ?_
  rintro e w2 ⟨p, g, rfl, h2, -, -, -⟩
  obtain ⟨l0, hl1, hl2⟩ := h2.ll
  generalize roomOf z = N at h2 hl1 hl2
  clear l0 hz'
  obtain ⟨n, hn, hn1, hn2⟩ := small_of a1 (N + 1) (by omega)
  have hn' : (bits BinOp.and IntKind.i64 a1 255).tmod ((N : Int) + 1) = (n : Int) := hn
  clear hn
  have H2 := Lib.hid h2; clear h2
  obtain ⟨h, hh⟩ : ∃ h, h = n / 2 := ⟨_, rfl⟩
  have hq : (n : Int).tdiv 2 = (h : Int) := by rw [hh, Int.tdiv_eq_ediv_of_nonneg (by omega)]; rfl
  have hhn : h ≤ n := by omega
  clear hh
  go_wp2_with fail
  refine (ri_room H2.out).mono ?_
  rintro e w3 ⟨rfl, rfl⟩
  go_wp2_with fail
  go_loopw [27] (fun iv wr => ∃ i : Nat, i ≤ n ∧ iv = .int .i64 i ∧ Hid (RI w1 wr p g N (upto i))) (fun iv _ => n - (intOf iv).toNat)
  case atStart => exact ⟨0, by omega, rfl, H2.out⟩
  case round =>
    obtain ⟨i, hi, rfl, hr⟩ := hrel
    by_cases hlt : i < n
    · go_wp2_with fail
      refine (ri_push hr.out (i : Int) (by rw [upto_len]; omega)).mono ?_
      rintro e w4 ⟨rfl, h4, -⟩
      rw [← upto_succ] at h4
      have H4 := Lib.hid h4; clear h4
      go_wp2
      exact ⟨⟨i + 1, by omega, by go_num, H4⟩, by simp [intOf]; omega⟩
    · obtain rfl : i = n := by omega
      have t1 : takes (h : Int) (upto i).length = h := by unfold takes; rw [upto_len]; omega
      have t2 : takes (i : Int) ((upto i).drop h).length = i - h := by unfold takes; rw [List.length_drop, upto_len]; omega
      have T1 := Lib.hid t1; clear t1
      have T2 := Lib.hid t2; clear t2
      go_wp2_with fail
      refine (ri_take hr.out (h : Int)).mono ?_
      rw [T1.out]
      rintro e w4 ⟨q1, rfl, k1, k2, h4, -⟩
      have hq1 := k2.lt q1 (by simp [blk])
      have H4 := Lib.hid h4
      have K1 := Lib.hid k2
      have l4 := h4.lt
      have n1 := hr.out.lt
      have Q1 : Hid (q1 ≠ p ∧ q1 ≠ g ∧ w1.heap.size ≤ q1) := Lib.hid ⟨by omega, by omega, Nat.le_trans hr.out.bel.size k1⟩
      clear h4 k1 k2 hq1 l4 n1
      go_wp2_with fail
      refine (ri_list H4.out).mono ?_
      rw [show ((upto i).drop h).length = i - h by rw [List.length_drop, upto_len]]
      rintro e w5 ⟨q2, rfl, k3, k4, h5, b5⟩
      have K1 := Lib.hid (K1.out.below b5)
      have K2 := Lib.hid k4
      have H5 := Lib.hid h5
      have n1 := H4.out.lt
      have Q2 : Hid (q2 ≠ p ∧ q2 ≠ g) := Lib.hid ⟨by omega, by omega⟩
      clear k3 k4 h5 b5 n1
      go_wp2_with fail
      refine (ri_take H5.out (i : Int)).mono ?_
      rw [T2.out]
      rintro e w6 ⟨q3, rfl, k5, k6, h6, c6⟩
      have hd : ((upto i).drop h).drop (i - h) = [] := List.drop_of_length_le (by rw [List.length_drop, upto_len]; exact Nat.le_refl _)
      have hd2 : ((upto i).drop h).take (i - h) = (upto i).drop h := List.take_of_length_le (by rw [List.length_drop, upto_len]; exact Nat.le_refl _)
      rw [hd] at h6
      rw [hd2] at k6
      have K1 := Lib.hid (K1.out.chg c6 (fun x hx => by simp [blk] at hx; subst hx; have := Q1.out; simp; omega))
      have K2 := Lib.hid (K2.out.chg c6 (fun x hx => by simp [blk] at hx; subst hx; have := Q2.out; simp; omega))
      have K3 := Lib.hid k6
      have H6 := Lib.hid h6
      clear k5 k6 h6 c6 hd hd2 T1 T2
      have hx : (i : Int) - (h : Int) = ((i - h : Nat) : Int) := by omega
      go_wp2_with fail
      refine (same_n w6 _ _ (i - h) _ _ _ (by rw [List.length_drop, upto_len]) K2.out.ints K3.out.ints (by omega)).mono ?_
      rintro e w7 ⟨rfl, mq, rfl⟩
      have b7 := below_drewN (Below.refl w6.heap.size w6) mq
      have K1 := Lib.hid (K1.out.below b7)
      have K3 := Lib.hid (K3.out.below b7)
      have H7 := Lib.hid (H6.out.step b7)
      have B7 := Lib.hid (below_on B1.out (H6.out.step b7).bel)
      clear b7
      generalize w6.drewN mq = W at *
      obtain ⟨i0, hi0, hz0, hz1, hz2⟩ := info_parts info_int
      have Hi := Lib.hid hi0; clear hi0
      have Hz0 := Lib.hid hz0; clear hz0
      have Hz1 := Lib.hid hz1; clear hz1
      have Hz2 := Lib.hid hz2; clear hz2
      go_wp2_with (at_builtin; refine wpList_append_row rfl _ _ 26 rfl 3 i0 _ Try.underlying26 Hi.out Hz0.out Hz1.out Hz2.out rfl rfl rfl (by rw [List.length_take, upto_len]; omega) (by rw [List.length_drop, upto_len]) K1.out K3.out.ints (by rw [List.length_take, List.length_drop, upto_len]; omega) ?_)
      intro a' cap' w8 k8 c8 f8
      try rw [List.take_append_drop] at k8
      have H8 := Lib.hid (H7.out.chg c8 (by have := Q1.out; simp [blk]; omega) (by have := Q1.out; simp [blk]; omega) (by have := Q1.out; intro x hx; simp [blk] at hx; omega))
      have hadd : h + (i - h) = i := by omega
      have K8 := Lib.hid k8.ints
      clear k8 c8 f8
      try simp only [hadd]
      go_wp2_with fail
      go_loopw [68] (fun jv wr => ∃ j : Nat, j ≤ i ∧ jv = .int .i64 j ∧ wr = w8) (fun jv _ => i - (intOf jv).toNat)
      case atStart => exact ⟨0, by omega, rfl, rfl⟩
      case round =>
        obtain ⟨j, hj, rfl, rfl⟩ := hrel
        by_cases hlt2 : j < i
        · obtain ⟨b9, o9, rfl, g9⟩ := K8.out j (by rw [upto_len]; omega)
          rw [upto_at] at g9
          have hji : (j : Int) < (i : Int) := by omega
          go_wp2
          exact ⟨⟨j + 1, by omega, by go_num, trivial⟩, by simp [intOf]; omega⟩
        · obtain rfl : j = i := by omega
          go_wp2_with fail
          refine (ri_none H8.out).mono ?_
          rintro e w9 ⟨rfl, h9, -⟩
          have hb9 := below_on B1.out h9.bel
          clear h9
          go_wp2
          go_ret
          exact ⟨rfl, hb9⟩
end Go.Proofs.Ytfkomjahdidimaa.ringHalves
