/-
  The walks of the first law's helpers: Cut, awake.
-/
import Derived.Test.YtollinpahfjecaaRows
import Derived.Test.YtollinpahfjecaaWGet
import Derived.Test.YtollinpahfjecaaWPut
import Derived.Test.YtollinpahfjecaaWZig
open Go Go.RowKit
set_option linter.unusedVariables false
namespace Go.Proofs.Ytollinpahfjecaa
theorem awake_get : getR ⟨#[128, 0]⟩ 0 = (0, 0, 1) := by decide +kernel
theorem awake_put : putL 300 = [172, 2] := by decide +kernel
theorem awake_zig : zigV (-2) = 3 := by decide +kernel

set_option maxRecDepth 100000 in
set_option maxHeartbeats 400000 in
theorem awake1_any (w : World) : Calls Try.prog 11 #[] w fun e w' => e = .returned (.bool true) ∧ Below w.heap.size w w' := by
  go_enter Try.func11, Try.ntmps11
  go_wp2_with fail
  refine (get_any _ _ _ (by decide)).mono ?_
  rintro e w' ⟨rfl, rfl⟩
  rw [awake_get]
  go_wp2_with fail
  refine (put_any 300 _ (by omega)).mono ?_
  rintro e w' ⟨rfl, hb⟩
  rw [awake_put]
  have Hb := Lib.hid hb; clear hb
  go_wp2_with fail
  refine (zig_any (-2) _ (by omega) (by omega)).mono ?_
  rintro e w' ⟨rfl, rfl⟩
  rw [awake_zig]
  go_wp2
  go_ret
  exact ⟨rfl, Hb.out⟩

/-- What Cut answers. -/
def cutB (s : ByteArray) (n : Nat) : ByteArray := if n < s.size then s.extract 0 n else s
theorem cutB_size (s : ByteArray) (n : Nat) : (cutB s n).size ≤ n := by
  unfold cutB; split
  · simp [ByteArray.size_extract]; omega
  · omega
set_option maxRecDepth 100000 in
set_option maxHeartbeats 400000 in
theorem cut_any (s : ByteArray) (n : Nat) (w : World) (hs : s.size ≤ maxLen) (hn : n ≤ 1000) :
    Calls Try.prog 10 #[.string s, .int .i64 n] w fun e w' => e = .returned (.string (cutB s n)) ∧ w = w' := by
  unfold maxLen at hs
  by_cases h : n < s.size
  · have H : Hid (cutB s n = s.extract 0 n) := Lib.hid (by unfold cutB; rw [if_pos h])
    have h' : (n : Int) < s.size := by omega
    go_enter Try.func10, Try.ntmps10
    go_wp2
    go_ret
    exact ⟨by rw [H.out]; rfl, rfl⟩
  · have H : Hid (cutB s n = s) := Lib.hid (by unfold cutB; rw [if_neg h])
    have h' : ¬ (n : Int) < s.size := by omega
    go_enter Try.func10, Try.ntmps10
    go_wp2
    go_ret
    exact ⟨by rw [H.out]; rfl, rfl⟩
end Go.Proofs.Ytollinpahfjecaa
