import Derived.WalkKit
import Derived.IntWalk
import Derived.Lib.BitFns
import Derived.Test.YtigjaopafhjhaaaBase
open Go Go.RowKit
set_option linter.unusedVariables false
namespace Go.Proofs.Ytigjaopafhjhaaa

/-- A number with a sign as one without, and back. -/
def zigV (n : Int) : Int := if 0 ≤ n then 2 * n else -(2 * n) - 1
def zagV (n : Int) : Int := if n % 2 = 0 then n / 2 else -(n / 2) - 1

theorem xor_ones (a : Nat) (ha : a < 18446744073709551616) : a ^^^ 18446744073709551615 = 18446744073709551615 - a := by
  have h : (BitVec.ofNat 64 a ^^^ BitVec.allOnes 64).toNat = (~~~ (BitVec.ofNat 64 a)).toNat := by rw [BitVec.xor_allOnes]
  rw [BitVec.toNat_xor, BitVec.toNat_not, BitVec.toNat_ofNat, BitVec.toNat_allOnes, Nat.mod_eq_of_lt (by simpa using ha)] at h
  simpa using h

theorem wrap_u64_64 (n : Int) : IntKind.u64.wrap (wrap64 n) = n % 18446744073709551616 := by
  rw [IntKind.wrap_u64]; unfold wrap64; omega

theorem zig_bits (n : Int) (h1 : -9223372036854775808 ≤ n) (h2 : n ≤ 9223372036854775807) :
    bits BinOp.xor IntKind.u64 (IntKind.u64.wrap (wrap64 (n * 2))) (IntKind.u64.wrap (n / 9223372036854775808)) = zigV n := by
  rw [wrap_u64_64, IntKind.wrap_u64]
  unfold zigV
  by_cases h : 0 ≤ n
  · rw [if_pos h]
    have e1 : n * 2 % 18446744073709551616 = ((2 * n).toNat : Int) := by omega
    have e2 : n / 9223372036854775808 % 18446744073709551616 = ((0 : Nat) : Int) := by omega
    rw [e1, e2, bits_xor_u64_nat _ _ (by omega) (by omega), Nat.xor_zero]; omega
  · rw [if_neg h]
    have e1 : n * 2 % 18446744073709551616 = ((2 * n + 18446744073709551616).toNat : Int) := by omega
    have e2 : n / 9223372036854775808 % 18446744073709551616 = ((18446744073709551615 : Nat) : Int) := by omega
    rw [e1, e2, bits_xor_u64_nat _ _ (by omega) (by omega), xor_ones _ (by omega)]; omega

theorem bits_xor_i64_zero (a : Int) (h1 : 0 ≤ a) (h2 : a ≤ 9223372036854775807) : bits .xor .i64 a 0 = a := by
  show IntKind.i64.wrap ((BitVec.ofInt 64 a ^^^ BitVec.ofInt 64 0).toNat : Int) = a
  have : BitVec.ofInt 64 0 = 0#64 := rfl
  rw [this, BitVec.xor_zero, IntKind.wrap_i64, BitVec.toNat_ofInt]; omega
theorem bits_xor_i64_ones (a : Int) (h1 : 0 ≤ a) (h2 : a ≤ 9223372036854775807) : bits .xor .i64 a (-1) = -a - 1 := by
  show IntKind.i64.wrap ((BitVec.ofInt 64 a ^^^ BitVec.ofInt 64 (-1)).toNat : Int) = -a - 1
  have : BitVec.ofInt 64 (-1) = BitVec.allOnes 64 := by decide
  rw [this, BitVec.xor_allOnes, IntKind.wrap_i64, BitVec.toNat_not, BitVec.toNat_ofInt]; omega

theorem and_one_nat (n : Int) (h1 : 0 ≤ n) (h2 : n ≤ 18446744073709551615) : bits BinOp.and IntKind.u64 n 1 = n % 2 := by
  obtain ⟨m, rfl⟩ := Int.eq_ofNat_of_zero_le h1
  have := u64_and_nat m 1 (by omega) (by omega)
  rw [nat_mask1] at this
  have e : ((1 : Nat) : Int) = 1 := rfl
  rw [e] at this; rw [this]; omega

theorem zag_bits (n : Int) (h1 : 0 ≤ n) (h2 : n ≤ 18446744073709551615) :
    bits BinOp.xor IntKind.i64 (n / 2) (wrap64 (-wrap64 (bits BinOp.and IntKind.u64 n 1))) = zagV n := by
  rw [and_one_nat n h1 h2]
  unfold zagV
  by_cases h : n % 2 = 0
  · rw [if_pos h, h]
    have e : wrap64 (-wrap64 0) = 0 := by decide +kernel
    rw [e]; exact bits_xor_i64_zero _ (by omega) (by omega)
  · rw [if_neg h, show n % 2 = 1 by omega]
    have e : wrap64 (-wrap64 1) = -1 := by decide +kernel
    rw [e]; exact bits_xor_i64_ones _ (by omega) (by omega)

theorem zig_rng (n : Int) (h1 : -9223372036854775808 ≤ n) (h2 : n ≤ 9223372036854775807) : 0 ≤ zigV n ∧ zigV n ≤ 18446744073709551615 := by
  unfold zigV; split <;> omega
theorem zag_rng (n : Int) (h1 : 0 ≤ n) (h2 : n ≤ 18446744073709551615) : -9223372036854775808 ≤ zagV n ∧ zagV n ≤ 9223372036854775807 := by
  unfold zagV; split <;> omega
theorem zag_zig (n : Int) : zagV (zigV n) = n := by unfold zagV zigV; split <;> split <;> omega
theorem zig_zag (n : Int) (h1 : 0 ≤ n) : zigV (zagV n) = n := by unfold zagV zigV; split <;> split <;> omega

/-- A number's bytes: fuel first. -/
def putF : Nat → Nat → List UInt8
  | 0, n => [UInt8.ofNat n]
  | k + 1, n => if n < 128 then [UInt8.ofNat n] else UInt8.ofNat (n % 128 + 128) :: putF k (n / 128)
/-- The bytes of a number below 2^64. -/
def putL (n : Nat) : List UInt8 := putF 10 n
/-- What a number must be below if so many bytes are left. -/
def lim : Nat → Nat
  | 0 => 1
  | k + 1 => 128 * lim k

theorem putF_more (k n : Nat) (h : n < lim (k + 1)) : putF (k + 1) n = putF k n := by
  induction k generalizing n with
  | zero => simp [lim] at h; simp [putF, h]
  | succ k ih =>
    rw [putF]; conv => rhs; rw [putF]
    split
    · rfl
    · have : n / 128 < lim (k + 1) := by rw [lim] at h; omega
      rw [ih _ this]
theorem putL_step (n : Nat) (h0 : 128 ≤ n) (h : n < lim 10) : putL n = UInt8.ofNat (n % 128 + 128) :: putL (n / 128) := by
  show putF 10 n = _ :: putF 10 (n / 128)
  have : n / 128 < lim 10 := by omega
  rw [putF_more 9 (n / 128) this]
  show (if n < 128 then _ else _) = _
  rw [if_neg (by omega)]
theorem putL_last (n : Nat) (h0 : n < 128) : putL n = [UInt8.ofNat n] := by
  show putF 10 n = _
  simp [putF, h0]
theorem lim_pos (k : Nat) : 0 < lim k := by induction k with | zero => simp [lim] | succ k ih => rw [lim]; omega
theorem lim_pred (k n : Nat) (h : n < lim k) (h0 : 128 ≤ n) : ∃ j, k = j + 2 ∧ n / 128 < lim (j + 1) := by
  match k, h with
  | 0, h => simp [lim] at h; omega
  | 1, h => simp [lim] at h; omega
  | j + 2, h => exact ⟨j, rfl, by rw [lim] at h; omega⟩
theorem lim10 (n : Nat) (h : n < 18446744073709551616) : n < lim 10 := by simp [lim]; omega

theorem u8_or128' (n : Nat) : bits BinOp.or IntKind.u8 ((n : Int) % 256) 128 = ((UInt8.ofNat (n % 128 + 128)).toNat : Int) := by
  have h := u8_or_nat (n % 256) 128 (by omega) (by omega)
  have e : ((n % 256 : Nat) : Int) = (n : Int) % 256 := by omega
  have e2 : ((128 : Nat) : Int) = 128 := rfl
  rw [e, e2] at h
  rw [h]
  have e3 : n % 256 ||| 128 = n % 128 + 128 := by
    have hd : ∀ m, m < 256 → m ||| 128 = m % 128 + 128 := by decide +kernel
    rw [hd _ (by omega)]; omega
  rw [e3]
  have : (UInt8.ofNat (n % 128 + 128)).toNat = n % 128 + 128 := by simp; omega
  rw [this]

theorem or_one (n : Nat) : n ||| 1 = n / 2 * 2 + 1 := by
  have h1 : n / 2 * 2 ||| n % 2 = n := by rw [nat_join 1 _ _ (by omega) (by omega)]; omega
  have h2 : n % 2 ||| 1 = 1 := by rcases (by omega : n % 2 = 0 ∨ n % 2 = 1) with h | h <;> rw [h] <;> rfl
  have h3 : n ||| 1 = n / 2 * 2 ||| (n % 2 ||| 1) := by rw [← Nat.or_assoc, h1]
  rw [h3, h2, nat_join 1 _ _ (by omega) (by omega)]
theorem bitLen_or_one (n : Nat) (h0 : n ≠ 0) (h : n < 18446744073709551616) : Lib.bitLen (n ||| 1) = Lib.bitLen n := by
  rw [or_one, Lib.bitLen_half _ (by omega) (by omega), Lib.bitLen_half n h0 (by omega), show (n / 2 * 2 + 1) / 2 = n / 2 by omega]
theorem len_small : ∀ n, n < 128 → (Lib.bitLen (n ||| 1) + 6) / 7 = 1 := by decide +kernel
theorem len_put : ∀ (f n : Nat), n < lim f → n < 18446744073709551616 → (Lib.bitLen (n ||| 1) + 6) / 7 = (putL n).length
  | 0, n, h, _ => by simp [lim] at h; subst h; rfl
  | f + 1, n, h, h2 => by
    by_cases hs : n < 128
    · rw [putL_last n hs, len_small n hs]; rfl
    · rw [putL_step n (by omega) (lim10 n h2), List.length_cons, ← len_put f (n / 128) (by rw [lim] at h; omega) (by omega),
        bitLen_or_one n (by omega) h2, bitLen_or_one (n / 128) (by omega) (by omega), Lib.bitLen_shift 7 n (by omega) (by omega)]
      show (7 + Lib.bitLen (n / 128) + 6) / 7 = _
      omega
theorem putF_len : ∀ (k m : Nat), (putF k m).length ≤ k + 1
  | 0, m => by simp [putF]
  | k + 1, m => by rw [putF]; split <;> simp; exact putF_len k _
theorem putL_len (n : Nat) : (putL n).length ≤ 11 := putF_len 10 n
theorem bitLen_most (n : Nat) (h : n < 18446744073709551616) : Lib.bitLen (n ||| 1) ≤ 77 := by
  have h1 := len_put 10 n (lim10 n h) h
  have := putL_len n
  omega
theorem or_one_bits (n : Nat) (h : n < 18446744073709551616) : bits BinOp.or IntKind.u64 (n : Int) 1 = ((n ||| 1 : Nat) : Int) := by
  have := bits_or_u64_nat n 1 h (by omega)
  simpa using this
end Go.Proofs.Ytigjaopafhjhaaa
