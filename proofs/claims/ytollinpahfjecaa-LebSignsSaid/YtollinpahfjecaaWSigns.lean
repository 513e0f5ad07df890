/-
  The walk of the law LebSigns.
-/
import Derived.Test.YtollinpahfjecaaWLaw1
import Derived.OpenShut
open Go Go.RowKit
set_option linter.unusedVariables false
namespace Go.Proofs.Ytollinpahfjecaa.lebSigns
set_option maxRecDepth 100000 in
set_option maxHeartbeats 400000 in
theorem walk (a0 : Int) (a1 : Int) (w : World) (w0 : (Lit.int .i64 a0).wf = true) (w1 : (Lit.int .u64 a1).wf = true) :
    Calls Try.prog 5 #[.int .i64 a0, .int .u64 a1] w fun e w' => e = .returned (.bool true) ∧ Below w.heap.size w w' := by
  obtain ⟨l0, u0⟩ := bounds_i64 w0
  obtain ⟨l1, u1⟩ := bounds_u64 w1
  clear w0 w1
  have hz := zig_rng a0 l0 u0
  have hz2 := zag_rng a1 l1 u1
  have e1 := zag_zig a0
  have e2 := zig_zag a1 l1
  have E1 := Lib.hid e1; clear e1
  have E2 := Lib.hid e2; clear e2
  generalize hy : zigV a0 = y at hz E1
  generalize hx : zagV a1 = x at hz2 E2
  have Hy := Lib.hid hy; clear hy
  have Hx := Lib.hid hx; clear hx
  obtain ⟨hz1, hz3⟩ := hz
  obtain ⟨hz4, hz5⟩ := hz2
  go_enter Try.func5, Try.ntmps5
  go_wp2_with fail
  refine (awake1_any _).mono ?_
  rintro e w' ⟨rfl, hb⟩
  have Hb := Lib.hid hb; clear hb
  go_wp2_with fail
  refine (zig_any a0 _ l0 u0).mono ?_
  rintro e w' ⟨rfl, rfl⟩
  rw [Hy.out]
  go_wp2_with fail
  refine (rzig_any a0 _ l0 u0).mono ?_
  rintro e w' ⟨rfl, rfl⟩
  rw [Hy.out]
  go_wp2_with fail
  refine (zig_any a0 _ l0 u0).mono ?_
  rintro e w' ⟨rfl, rfl⟩
  rw [Hy.out]
  go_wp2_with fail
  refine (zag_any y _ hz1 hz3).mono ?_
  rintro e w' ⟨rfl, rfl⟩
  rw [E1.out]
  go_wp2_with fail
  refine (zag_any a1 _ l1 u1).mono ?_
  rintro e w' ⟨rfl, rfl⟩
  rw [Hx.out]
  go_wp2_with fail
  refine (zig_any x _ hz4 hz5).mono ?_
  rintro e w' ⟨rfl, rfl⟩
  rw [E2.out]
  go_wp2
  go_ret
  exact ⟨rfl, Hb.out⟩
end Go.Proofs.Ytollinpahfjecaa.lebSigns
