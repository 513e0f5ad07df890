/-
  The walk of the law LebReads.
-/
import Derived.Test.YtollinpahfjecaaWLaw1
import Derived.Test.YtollinpahfjecaaWRget
import Derived.Test.YtollinpahfjecaaBack
import Derived.OpenShut
import Derived.BigQuiet
import Derived.Deep.QuietTactic
import Derived.Deep.RegionWith
import Derived.Deep.RegionHeld3
open Go Go.RowKit
set_option linter.unusedVariables false
namespace Go.Proofs.Ytollinpahfjecaa.lebReads
set_option maxRecDepth 100000 in
set_option maxHeartbeats 400000 in
theorem walk (a0 : ByteArray) (a1 : Int) (w : World) (w0 : a0.size ≤ maxLen) (w1 : (Lit.int .i64 a1).wf = true) :
    Calls Try.prog 4 #[.string a0, .int .i64 a1] w fun e w' => e = .returned (.bool true) ∧ Below w.heap.size w w' := by
  obtain ⟨l1, u1⟩ := bounds_i64 w1
  clear w1
  have c0 := cutB_size a0 40
  go_enter Try.func4, Try.ntmps4
  go_wp2_with fail
  refine (cut_any a0 40 _ w0 (by omega)).mono ?_
  rintro e w' ⟨rfl, rfl⟩
  generalize cutB a0 40 = s at c0
  go_wp2_with fail
  refine (awake1_any _).mono ?_
  rintro e w1 ⟨rfl, hb⟩
  have Hb := Lib.hid hb; clear hb
  go_wp2_with fail
  refine (get_any s a1 _ (by simp [maxLen]; omega)).mono ?_
  rintro e w' ⟨rfl, rfl⟩
  go_wp2_with fail
  refine (rget_any s a1 _ (by omega)).mono ?_
  rintro e w' ⟨rfl, rfl⟩
  by_cases he : (getR s a1).2.2 = 0
  · obtain ⟨k, n, c, rfl, hk, hkc, hR, hp, hn⟩ := getR_err s a1 he
    rw [hR]
    clear he
    obtain ⟨y, hy, hsl⟩ : ∃ y : ByteArray, y.toList = putL n ∧ ∀ w, (Instr.slice 9 (.string s) (some (.int .i64 (k : Int))) (some (.int .i64 ((k : Int) + c))) none).run Try.prog w = .ok (.string y) w := by
      refine ⟨s.extract k (k + c), ?_, fun w => ?_⟩
      · rw [ByteArray.toList_eq, hp]
        unfold from_
        simp [ByteArray.data_extract, List.extract_eq_take_drop]
      · rw [run_slice_string w 9 s .i64 .i64 (k : Int) ((k : Int) + c) Try.underlying9 (by omega) (by omega) (by omega)]
        congr 3
    have Hy := Lib.hid hy; clear hy
    have HR := Lib.hid hR; clear hR
    have Hn := Lib.hid hn; clear hn
    have Hp := Lib.hid hp; clear hp
    go_wp2_with fail
    go_region_held3 (fun w' => Below w1.heap.size w1 w') (first | exact Below.refl _ _ | exact (Below.refl _ _).drew | exact below_on (Below.refl _ _).drew hb2)
      (first | (go_at_call 12; refine (put_any n _ Hn.out).mono ?_; rintro e w2 ⟨rfl, hb2⟩))
    all_goals
      go_wp2
      go_ret
      refine ⟨ret_bool (by rw [Hy.out]; simp), below_on Hb.out (by assumption)⟩
  · generalize getR s a1 = R at he
    obtain ⟨r1, r2, r3⟩ := R
    have he' : ((r3 : Int) == 0) = false := by rw [beq_eq_false_iff_ne]; simp at he; omega
    have he2 : ((r3 : Int) != 0) = true := by rw [bne_iff_ne]; simp at he; omega
    clear he
    go_wp2_with fail
    go_quiet (fail)
    go_wp2
    go_ret
    exact ⟨rfl, below_drewN Hb.out _⟩
end Go.Proofs.Ytollinpahfjecaa.lebReads
