/-
  Plain lemmas on how a number is read from bytes: no program is named here.
-/
import Derived.Test.YtkjhaofodlpnmaaNums
open Go Go.RowKit
set_option linter.unusedVariables false
namespace Go.Proofs.Ytkjhaofodlpnmaa

/-- May a number end with byte b at place i? -/
def endB (i b : Nat) : Bool := if i = 9 then b == 1 else b != 0 || i == 0

/-- The number that stands at the head of l, its first byte being number i of it, at most f bytes: the number, how many bytes, the error. -/
def getL : Nat → Nat → List UInt8 → Nat × Nat × Nat
  | 0, _, _ => (0, 0, 1)
  | _ + 1, _, [] => (0, 0, 2)
  | f + 1, i, b :: t =>
    if 128 ≤ b.toNat then (if (getL f (i + 1) t).2.2 = 0 then ((getL f (i + 1) t).1 * 128 + (b.toNat - 128), (getL f (i + 1) t).2.1 + 1, 0) else (0, 0, (getL f (i + 1) t).2.2))
    else if endB i b.toNat then (b.toNat, 1, 0) else (0, 0, 1)

/-- What has been read so far (k bytes, together q), and what is read behind it. -/
def comb (q k : Nat) (r : Nat × Nat × Nat) : Nat × Nat × Nat := if r.2.2 = 0 then (q + r.1 * 2 ^ (7 * k), k + r.2.1, 0) else (0, 0, r.2.2)

theorem comb_zero (f i : Nat) (l : List UInt8) (h : (getL f i l).2.2 = 0 ∨ ((getL f i l).1 = 0 ∧ (getL f i l).2.1 = 0)) : comb 0 0 (getL f i l) = getL f i l := by
  unfold comb
  split
  · rename_i e; rw [Prod.ext_iff, Prod.ext_iff]; exact ⟨by simp, by simp, e.symm⟩
  · rename_i e; rcases h with h | h
    · exact absurd h e
    · rw [Prod.ext_iff, Prod.ext_iff]; exact ⟨h.1.symm, h.2.symm, rfl⟩

theorem getL_clean : ∀ (f i : Nat) (l : List UInt8), (getL f i l).2.2 = 0 ∨ ((getL f i l).1 = 0 ∧ (getL f i l).2.1 = 0)
  | 0, _, _ => by simp [getL]
  | _ + 1, _, [] => by simp [getL]
  | f + 1, i, b :: t => by
    rw [getL]
    split
    · split <;> simp
    · split <;> simp

theorem pow7 (k : Nat) : 2 ^ (7 * (k + 1)) = 128 * 2 ^ (7 * k) := by rw [show 7 * (k + 1) = 7 * k + 7 by omega, Nat.pow_add]; omega

theorem comb_step (q k f : Nat) (b : UInt8) (t : List UInt8) (hb : 128 ≤ b.toNat) :
    comb q k (getL (f + 1) k (b :: t)) = comb (q + (b.toNat % 128) * 2 ^ (7 * k)) (k + 1) (getL f (k + 1) t) := by
  have hlt := b.toNat_lt
  rw [getL, if_pos hb]
  unfold comb
  by_cases h : (getL f (k + 1) t).2.2 = 0
  · rw [if_pos h, if_pos h, if_pos rfl, pow7]
    have e : b.toNat % 128 = b.toNat - 128 := by omega
    rw [e]
    rw [Prod.ext_iff, Prod.ext_iff]
    refine ⟨?_, ?_, rfl⟩
    · show q + (_ * 128 + _) * _ = _
      rw [Nat.add_mul, Nat.mul_assoc]; omega
    · show k + (_ + 1) = k + 1 + _; omega
  · rw [if_neg h, if_neg h, if_neg h]

theorem comb_last (q k f : Nat) (b : UInt8) (t : List UInt8) (hb : ¬ 128 ≤ b.toNat) (h : endB k b.toNat = true) :
    comb q k (getL (f + 1) k (b :: t)) = (q + (b.toNat % 128) * 2 ^ (7 * k), k + 1, 0) := by
  rw [getL, if_neg hb, if_pos h]
  unfold comb
  rw [if_pos rfl, Nat.mod_eq_of_lt (by omega)]
theorem comb_bad (q k f : Nat) (b : UInt8) (t : List UInt8) (hb : ¬ 128 ≤ b.toNat) (h : endB k b.toNat = false) :
    comb q k (getL (f + 1) k (b :: t)) = (0, 0, 1) := by
  rw [getL, if_neg hb, h]; rfl
theorem comb_end (q k f : Nat) : comb q k (getL (f + 1) k []) = (0, 0, 2) := rfl
theorem comb_long (q k : Nat) (l : List UInt8) : comb q k (getL 0 k l) = (0, 0, 1) := rfl

/-- A byte's seven bits, laid over what has been read. -/
theorem lay_bits (q b k : Nat) (hb : b < 256) (hq : q < 2 ^ (7 * k)) (hk : k ≤ 8 ∨ (k = 9 ∧ b % 128 ≤ 1)) :
    bits BinOp.or IntKind.u64 (q : Int) (IntKind.u64.wrap (IntKind.u64.wrap (bits BinOp.andNot IntKind.u8 (b : Int) 128) * 2 ^ (7 * k))) = ((q + (b % 128) * 2 ^ (7 * k) : Nat) : Int) := by
  have e1 : bits BinOp.andNot IntKind.u8 (b : Int) 128 = ((b % 128 : Nat) : Int) := by
    have := u8_andNot_nat b 128 hb (by omega)
    rw [show ((128 : Nat) : Int) = 128 from rfl] at this
    rw [this, show 255 - 128 = 127 from rfl, nat_mask7]
  have hlt : (b % 128) * 2 ^ (7 * k) < 18446744073709551616 := by
    rcases hk with hk | ⟨hk, hb1⟩
    · have : 2 ^ (7 * k) ≤ 2 ^ 56 := Nat.pow_le_pow_right (by omega) (by omega)
      have := Nat.mul_le_mul (show b % 128 ≤ 127 by omega) this
      omega
    · subst hk
      have := Nat.mul_le_mul_right (2 ^ (7 * 9)) hb1
      omega
  have hq2 : q < 18446744073709551616 := by
    have : 2 ^ (7 * k) ≤ 2 ^ 63 := Nat.pow_le_pow_right (by omega) (by omega)
    omega
  rw [e1, IntKind.wrap_u64, IntKind.wrap_u64]
  have e2 : (((b % 128 : Nat) : Int) % 18446744073709551616 * 2 ^ (7 * k)) % 18446744073709551616 = (((b % 128) * 2 ^ (7 * k) : Nat) : Int) := by
    rw [Int.emod_eq_of_lt (a := ((b % 128 : Nat) : Int)) (by omega) (by omega)]
    rw [show ((b % 128 : Nat) : Int) * 2 ^ (7 * k) = (((b % 128) * 2 ^ (7 * k) : Nat) : Int) by rw [Int.natCast_mul]; simp]
    omega
  rw [e2, bits_or_u64_nat _ _ hq2 hlt, Nat.or_comm, nat_join (7 * k) _ _ (Nat.mul_mod_left _ _) hq, Nat.add_comm]

theorem lay_lt (q b k : Nat) (hq : q < 2 ^ (7 * k)) : q + (b % 128) * 2 ^ (7 * k) < 2 ^ (7 * (k + 1)) := by
  rw [pow7]
  have := Nat.mul_le_mul_right (2 ^ (7 * k)) (show b % 128 ≤ 127 by omega)
  omega

/-- The bytes of s from place n on. -/
def from_ (s : ByteArray) (n : Nat) : List UInt8 := s.data.toList.drop n
theorem from_cons (s : ByteArray) (n : Nat) (h : n < s.size) : from_ s n = s[n] :: from_ s (n + 1) := by
  unfold from_; rw [List.drop_eq_getElem_cons (by simpa using h)]; rfl
theorem from_nil (s : ByteArray) (n : Nat) (h : s.size ≤ n) : from_ s n = [] := by
  unfold from_; rw [List.drop_eq_nil_iff]; simpa using h

/-- What Get answers: the number, the byte behind it, the error. -/
def getR (s : ByteArray) (a : Int) : Nat × Nat × Nat :=
  if 0 ≤ a ∧ a ≤ s.size then (if (getL 10 0 (from_ s a.toNat)).2.2 = 0 then ((getL 10 0 (from_ s a.toNat)).1, a.toNat + (getL 10 0 (from_ s a.toNat)).2.1, 0) else (0, 0, (getL 10 0 (from_ s a.toNat)).2.2)) else (0, 0, 4)
theorem getR_of (s : ByteArray) (a n c e : Nat) (h : a ≤ s.size) (hg : getL 10 0 (from_ s a) = (n, c, e)) : getR s a = if e = 0 then (n, a + c, 0) else (0, 0, e) := by
  unfold getR
  rw [if_pos ⟨by omega, by omega⟩, Int.toNat_natCast, hg]
/-- The number of the first k bytes of l. -/
def accF (l : List UInt8) : Nat → Nat
  | 0 => 0
  | k + 1 => accF l k + ((l.getD k 0).toNat % 128) * 2 ^ (7 * k)
theorem accF_lt (l : List UInt8) : ∀ k, accF l k < 2 ^ (7 * k)
  | 0 => by simp [accF]
  | k + 1 => by rw [accF]; exact lay_lt _ _ _ (accF_lt l k)
theorem horner_end (l : List UInt8) (q T : Nat) (h : q * 2 ^ (7 * 0) + accF l 0 = T) : q = T := by rw [accF] at h; simpa using h
theorem horner_start (l : List UInt8) (c : Nat) : 0 * 2 ^ (7 * (c + 1)) + accF l (c + 1) = accF l (c + 1) := by rw [Nat.zero_mul, Nat.zero_add]
theorem from_getD (s : ByteArray) (a c : Nat) (h : a + c < s.size) : (from_ s a).getD c 0 = s[a + c] := by
  unfold from_
  have h' : a + c < s.data.toList.length := by simpa using h
  rw [List.getD_eq_getElem?_getD, List.getElem?_drop, List.getElem?_eq_getElem h']; rfl
theorem acc_most (l : List UInt8) (c b : Nat) (hb : b = (l.getD c 0).toNat) (hk : c ≤ 8 ∨ (c = 9 ∧ b ≤ 1)) : accF l (c + 1) < 18446744073709551616 := by
  subst hb
  have h := accF_lt l c
  rw [accF]
  rcases hk with hk | ⟨hk, hb1⟩
  · have h2 := lay_lt (accF l c) (l.getD c 0).toNat c h
    have : 2 ^ (7 * (c + 1)) ≤ 2 ^ 63 := Nat.pow_le_pow_right (by omega) (by omega)
    omega
  · subst hk
    have h3 : (l.getD 9 0).toNat % 128 ≤ 1 := by omega
    have := Nat.mul_le_mul_right (2 ^ (7 * 9)) h3
    omega
theorem horner (l : List UInt8) (d q T : Nat) (h : q * 2 ^ (7 * (d + 1)) + accF l (d + 1) = T) (hT : T < 18446744073709551616) :
    (128 * q + (l.getD d 0).toNat % 128) * 2 ^ (7 * d) + accF l d = T ∧ 128 * q + (l.getD d 0).toNat % 128 < 18446744073709551616 := by
  rw [accF, pow7] at h
  have e : (128 * q + (l.getD d 0).toNat % 128) * 2 ^ (7 * d) = q * (128 * 2 ^ (7 * d)) + (l.getD d 0).toNat % 128 * 2 ^ (7 * d) := by
    rw [Nat.add_mul]; congr 1; rw [Nat.mul_comm 128 q, Nat.mul_assoc]
  refine ⟨by omega, ?_⟩
  have hp := Nat.two_pow_pos (7 * d)
  have : (128 * q + (l.getD d 0).toNat % 128) * 1 ≤ (128 * q + (l.getD d 0).toNat % 128) * 2 ^ (7 * d) := Nat.mul_le_mul_left _ hp
  omega
end Go.Proofs.Ytkjhaofodlpnmaa
