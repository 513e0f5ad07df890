/-
  The walks of leb.Zig, leb.Zag, leb.Len and the reference's Zig.
-/
import Derived.Test.YtollinpahfjecaaRows
import Derived.Test.YtollinpahfjecaaNums
import Derived.Test.YtollinpahfjecaaWGet
import Derived.Test.YtollinpahfjecaaShelf
import Derived.WalkKit
import Derived.ProofKit
import Derived.WalkSpells
import Derived.WalkLawsBesides
import Derived.IntWalk
import Derived.Lib.Hide
open Go Go.RowKit
set_option linter.unusedVariables false
namespace Go.Proofs.Ytollinpahfjecaa
set_option maxRecDepth 100000 in
set_option maxHeartbeats 400000 in
theorem zig_any (n : Int) (w : World) (h1 : -9223372036854775808 ≤ n) (h2 : n ≤ 9223372036854775807) :
    Calls Try.prog 17 #[.int .i64 n] w fun e w' => e = .returned (.int .u64 (zigV n)) ∧ w = w' := by
  have H := Lib.hid (zig_bits n h1 h2)
  go_enter Try.func17, Try.ntmps17
  go_wp2
  go_ret
  exact ⟨ret_int H.out, rfl⟩
set_option maxRecDepth 100000 in
set_option maxHeartbeats 400000 in
theorem zag_any (n : Int) (w : World) (h1 : 0 ≤ n) (h2 : n ≤ 18446744073709551615) :
    Calls Try.prog 19 #[.int .u64 n] w fun e w' => e = .returned (.int .i64 (zagV n)) ∧ w = w' := by
  have H := Lib.hid (zag_bits n h1 h2)
  go_enter Try.func19, Try.ntmps19
  go_wp2
  go_ret
  exact ⟨ret_int H.out, rfl⟩
set_option maxRecDepth 100000 in
set_option maxHeartbeats 400000 in
theorem rzig_any (n : Int) (w : World) (h1 : -9223372036854775808 ≤ n) (h2 : n ≤ 9223372036854775807) :
    Calls Try.prog 18 #[.int .i64 n] w fun e w' => e = .returned (.int .u64 (zigV n)) ∧ w = w' := by
  by_cases h : 0 ≤ n
  · have H : Hid (zigV n = 2 * n) := Lib.hid (by unfold zigV; rw [if_pos h])
    go_enter Try.func18, Try.ntmps18
    go_wp2
    go_ret
    exact ⟨ret_int (H.out).symm, rfl⟩
  · have H : Hid (zigV n = 2 * -(n + 1) + 1) := Lib.hid (by unfold zigV; rw [if_neg h]; omega)
    have h' : n < 0 := by omega
    clear h
    go_enter Try.func18, Try.ntmps18
    go_wp2
    go_ret
    exact ⟨ret_int (H.out).symm, rfl⟩
set_option maxRecDepth 100000 in
set_option maxHeartbeats 400000 in
theorem len_any (n : Nat) (w : World) (h : n < 18446744073709551616) :
    Calls Try.prog 15 #[.int .u64 n] w fun e w' => e = .returned (.int .i64 ((putL n).length : Int)) ∧ w = w' := by
  have h1 := bitLen_most n h
  have h2 := Lib.hid (len_put 10 n (lim10 n h) h)
  have h3 := Lib.hid (or_one_bits n h)
  have hlt : n ||| 1 < 18446744073709551616 := by rw [or_one]; omega
  have Hlt := Lib.hid hlt; clear hlt
  generalize hm : n ||| 1 = m at h1 h2 h3 Hlt
  clear hm
  have H := Lib.hid h; clear h
  go_enter Try.func15, Try.ntmps15
  go_wp2_with fail
  rw [h3.out]
  refine (Try.bits_Len64 (m : Int) _ (by omega) (by have := Hlt.out; omega)).mono ?_
  rintro e w' ⟨rfl, rfl⟩
  rw [Int.toNat_natCast]
  go_wp2
  go_ret
  refine ⟨ret_int ?_, rfl⟩
  have := h2.out
  omega
end Go.Proofs.Ytollinpahfjecaa
