/-
  The walk of the law SnapSums.
-/
import Derived.Test.YtigjaopafhjhaaaWDig
import Derived.OpenShut
open Go Go.RowKit
set_option linter.unusedVariables false
namespace Go.Proofs.Ytigjaopafhjhaaa.snapSums
theorem sizeOf_i64 (w : World) : (sizeOf (Try.prog.elem 22)).run Try.prog w = .ok 1 w := by first | rfl | kernel_rfl | exact Try.sizeOf2 w
set_option maxRecDepth 100000 in
set_option maxHeartbeats 1000000 in
theorem walk (a0 : Option Addr) (len0 cap0 : Nat) (z0 : List Int) (w : World) (w0 : IsRow .i64 w a0 len0 cap0 z0) :
    Calls Try.prog 3 #[.slice a0 len0 cap0] w fun e w' => e = .returned (.bool true) ∧ Below w.heap.size w w' := by
  obtain ⟨hlc, hcm, hzl, hcells⟩ := w0.cells
  clear w0
  generalize List.take len0 z0 = z1 at hzl hcells
  unfold maxLen at hcm
  obtain ⟨m, hm⟩ : ∃ m : Nat, m = min len0 30 := ⟨_, rfl⟩
  have hmin : min (len0 : Int) 30 = (m : Int) := by omega
  have hml : m ≤ len0 := by omega
  have hm30 : m ≤ 30 := by omega
  clear hm
  have hcm2 := hcells.take m
  have hzl2 : (z1.take m).length = m := by simp; omega
  clear hcells hzl
  generalize List.take m z1 = zs at hcm2 hzl2
  have hsl := fun w => slice_head (P := Try.prog) (t := 22) w Try.underlying22 sizeOf_i64 a0 len0 cap0 m (by omega)
  have Hc := Lib.hid hcm2; clear hcm2
  have Hz := Lib.hid hzl2; clear hzl2
  go_enter Try.func3, Try.ntmps3
  go_wp2_with fail
  refine (awake19_any _).mono ?_
  rintro e w1 ⟨rfl, hb⟩
  have Hc1 := Lib.hid (Hc.out.below hb); clear Hc
  have Hb := Lib.hid hb; clear hb
  go_wp2_with fail
  refine (digest_any a0 cap0 m zs _ (by have := Hz.out; omega) Hz.out.symm Hc1.out).mono ?_
  rintro e w2 ⟨rfl, hb⟩
  have Hc2 := Lib.hid (Hc1.out.below hb); clear Hc1
  have H2 := Lib.hid (below_on Hb.out hb); clear hb Hb
  go_wp2_with fail
  refine (rdigest_any a0 cap0 m zs _ (by have := Hz.out; omega) Hz.out.symm Hc2.out).mono ?_
  rintro e w3 ⟨rfl, hb⟩
  go_wp2
  go_ret
  exact ⟨rfl, below_on H2.out hb⟩
end Go.Proofs.Ytigjaopafhjhaaa.snapSums
