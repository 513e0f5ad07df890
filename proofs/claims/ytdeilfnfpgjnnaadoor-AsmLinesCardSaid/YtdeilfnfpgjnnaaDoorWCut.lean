/-
  The walk of the laws' helper Cut.
-/
import Derived.Test.YtdeilfnfpgjnnaaDoorRows
import Derived.Test.YtdeilfnfpgjnnaaDoorBase
import Derived.WalkKit
open Go Go.RowKit
set_option linter.unusedVariables false
namespace Go.Proofs.YtdeilfnfpgjnnaaDoor
/-- What Cut answers. -/
def cutB (s : ByteArray) (n : Nat) : ByteArray := if n < s.size then s.extract 0 n else s
theorem cutB_size (s : ByteArray) (n : Nat) : (cutB s n).size ≤ n := by
  unfold cutB; split
  · simp [ByteArray.size_extract]; omega
  · omega
set_option maxRecDepth 100000 in
set_option maxHeartbeats 400000 in
theorem cut_any (s : ByteArray) (n : Nat) (w : World) (hs : s.size ≤ maxLen) (hn : n ≤ 1000) :
    Calls Tryd.prog 14 #[.string s, .int .i64 n] w fun e w' => e = .returned (.string (cutB s n)) ∧ w = w' := by
  unfold maxLen at hs
  by_cases h : n < s.size
  · have H : Hid (cutB s n = s.extract 0 n) := Lib.hid (by unfold cutB; rw [if_pos h])
    have h' : (n : Int) < s.size := by omega
    go_enter Tryd.func14, Tryd.ntmps14
    go_wp2
    go_ret
    exact ⟨by rw [H.out]; rfl, rfl⟩
  · have H : Hid (cutB s n = s) := Lib.hid (by unfold cutB; rw [if_neg h])
    have h' : ¬ (n : Int) < s.size := by omega
    go_enter Tryd.func14, Tryd.ntmps14
    go_wp2
    go_ret
    exact ⟨by rw [H.out]; rfl, rfl⟩
end Go.Proofs.YtdeilfnfpgjnnaaDoor
