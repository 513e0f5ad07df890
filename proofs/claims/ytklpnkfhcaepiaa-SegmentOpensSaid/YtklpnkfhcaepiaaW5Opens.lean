/-
  The walk of the law SegmentOpens.
-/
import Derived.Test.YtklpnkfhcaepiaaWSeg3
import Derived.OpenShut
import Derived.Test.YtklpnkfhcaepiaaWCut
open Go Go.RowKit
set_option linter.unusedVariables false
namespace Go.Proofs.Ytklpnkfhcaepiaa.segmentOpens
set_option maxRecDepth 100000 in
set_option maxHeartbeats 1000000 in
theorem walk (a0 : ByteArray) (a1 : Int) (w : World) (v0 : a0.size ≤ maxLen) (v1 : (Lit.int .i64 a1).wf = true) :
    Calls Try.prog 4 #[.string a0, .int .i64 a1] w fun e w' => e = .returned (.bool true) ∧ Below w.heap.size w w' := by
  obtain ⟨l1, u1⟩ := bounds_i64 v1
  clear v1
  have c0 := cutB_size a0 200
  go_enter Try.func4, Try.ntmps4
  go_wp2_with fail
  refine (cut_any a0 200 _ v0 (by omega)).mono ?_
  rintro e w' ⟨rfl, rfl⟩
  generalize cutB a0 200 = s at c0
  go_wp2_with fail
  refine (awake5_any _).mono ?_
  rintro e w1 ⟨rfl, hb1⟩
  have B1 := Lib.hid hb1; clear hb1
  go_wp2_with fail
  refine (open_any s a1 _ (by omega) (by omega) (by omega)).mono ?_
  rintro e w2 ⟨rfl, hb2⟩
  have B2 := Lib.hid (below_on B1.out hb2); clear hb2 B1
  obtain ⟨R, hR⟩ : ∃ R, R = openR s a1 := ⟨_, rfl⟩
  rw [← hR]
  have HR := Lib.hid hR; clear hR
  obtain ⟨r1, r2, r3, r4⟩ := R
  simp only [openV]
  go_wp2_with fail
  refine (ropen_any s a1 _ (by omega)).mono ?_
  rintro e w3 ⟨rfl, hb3⟩
  rw [← HR.out]
  simp only [openV]
  have B3 := Lib.hid (below_on B2.out hb3); clear hb3 B2
  go_wp2
  go_ret
  exact ⟨rfl, B3.out⟩
end Go.Proofs.Ytklpnkfhcaepiaa.segmentOpens
