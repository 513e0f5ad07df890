/-
  The walks of leb.Zig, leb.Zag, leb.Len and the reference's Zig.
-/
import Derived.Test.YtigjaopafhjhaaaRows
import Derived.Test.YtigjaopafhjhaaaNums
import Derived.Test.YtigjaopafhjhaaaBase
import Derived.WalkKit
import Derived.ProofKit
import Derived.WalkSpells
import Derived.WalkLawsBesides
import Derived.IntWalk
import Derived.Lib.Hide
open Go Go.RowKit
set_option linter.unusedVariables false
namespace Go.Proofs.Ytigjaopafhjhaaa
set_option maxRecDepth 100000 in
set_option maxHeartbeats 400000 in
theorem zig_any (n : Int) (w : World) (h1 : -9223372036854775808 ≤ n) (h2 : n ≤ 9223372036854775807) :
    Calls Try.prog 9 #[.int .i64 n] w fun e w' => e = .returned (.int .u64 (zigV n)) ∧ w = w' := by
  have H := Lib.hid (zig_bits n h1 h2)
  go_enter Try.func9, Try.ntmps9
  go_wp2
  go_ret
  exact ⟨ret_int H.out, rfl⟩
set_option maxRecDepth 100000 in
set_option maxHeartbeats 400000 in
theorem rzig_any (n : Int) (w : World) (h1 : -9223372036854775808 ≤ n) (h2 : n ≤ 9223372036854775807) :
    Calls Try.prog 13 #[.int .i64 n] w fun e w' => e = .returned (.int .u64 (zigV n)) ∧ w = w' := by
  by_cases h : 0 ≤ n
  · have H : Hid (zigV n = 2 * n) := Lib.hid (by unfold zigV; rw [if_pos h])
    go_enter Try.func13, Try.ntmps13
    go_wp2
    go_ret
    exact ⟨ret_int (H.out).symm, rfl⟩
  · have H : Hid (zigV n = 2 * -(n + 1) + 1) := Lib.hid (by unfold zigV; rw [if_neg h]; omega)
    have h' : n < 0 := by omega
    clear h
    go_enter Try.func13, Try.ntmps13
    go_wp2
    go_ret
    exact ⟨ret_int (H.out).symm, rfl⟩
end Go.Proofs.Ytigjaopafhjhaaa
