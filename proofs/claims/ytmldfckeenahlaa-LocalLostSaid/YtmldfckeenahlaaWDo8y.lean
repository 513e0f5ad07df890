/-
  The law's does: any call.
-/
import Derived.Test.YtmldfckeenahlaaWDo8p
import Derived.Test.YtmldfckeenahlaaWDo8t
import Derived.Test.YtmldfckeenahlaaWDo8f
import Derived.Test.YtmldfckeenahlaaWDo8e
import Derived.Test.YtmldfckeenahlaaWDo8q
import Derived.Test.YtmldfckeenahlaaWDo8k
import Derived.Test.YtmldfckeenahlaaWDo8i
import Derived.Test.YtmldfckeenahlaaWDo8v
open Go Go.RowKit
set_option linter.unusedVariables false
namespace Go.Proofs.Ytmldfckeenahlaa
theorem and_255i (x : Int) : bits BinOp.and IntKind.i64 x 255 = x % 256 := by
  show IntKind.i64.wrap (((BitVec.ofInt 64 x) &&& (BitVec.ofInt 64 255)).toNat : Int) = x % 256
  have e : (BitVec.ofInt 64 255).toNat = 255 := by decide
  rw [BitVec.toNat_and, e, show (255 : Nat) = 2 ^ 8 - 1 from rfl, Nat.and_two_pow_sub_one_eq_mod, IntKind.wrap_i64, BitVec.toNat_ofInt]; omega
/-- Any call answers as it should, and leaves the state as it should be. -/
theorem does_any (w0 w : World) (wb b : Nat) (ds : List Qd) (gl : List Int) (nx : Nat) (out : List Int) (kd wh n : Int) (h : St8 w0 w wb b ds gl nx out) (hn : nx ≤ 100) :
    Calls Try.prog 7 #[.pointer (some ⟨wb, 0, none⟩), .agg #[.int .i64 kd, .int .i64 wh, .int .i64 n]] w fun r w' => Does8 w0 wb b nx r w' := by
  have hr : ∃ K : Nat, K < 10 ∧ (bits BinOp.and IntKind.i64 kd 255).tmod 10 = (K : Int) := by
    rw [and_255i, Int.tmod_eq_emod_of_nonneg (by omega)]
    exact ⟨(kd % 256 % 10).toNat, by omega, by omega⟩
  obtain ⟨K, hK, e⟩ := hr
  match K, hK, e with
  | 0, _, e => exact does_0 w0 w wb b ds gl nx out kd wh n h e hn
  | 1, _, e => exact does_1 w0 w wb b ds gl nx out kd wh n h e hn
  | 2, _, e => exact does_2 w0 w wb b ds gl nx out kd wh n h e hn
  | 3, _, e => exact does_3 w0 w wb b ds gl nx out kd wh n h e hn
  | 4, _, e => exact does_4 w0 w wb b ds gl nx out kd wh n h e hn
  | 5, _, e => exact does_5 w0 w wb b ds gl nx out kd wh n h e hn
  | 6, _, e =>
    by_cases hs : bits BinOp.and IntKind.i64 wh 3 = bits BinOp.and IntKind.i64 n 3
    · exact does_6a w0 w wb b ds gl nx out kd wh n h e hs hn
    · exact does_6b w0 w wb b ds gl nx out kd wh n h e hs hn
  | 7, _, e => exact does_7 w0 w wb b ds gl nx out kd wh n h e hn
  | 8, _, e => exact does_8 w0 w wb b ds gl nx out kd wh n h e hn
  | 9, _, e => exact does_9 w0 w wb b ds gl nx out kd wh n h e hn
end Go.Proofs.Ytmldfckeenahlaa
