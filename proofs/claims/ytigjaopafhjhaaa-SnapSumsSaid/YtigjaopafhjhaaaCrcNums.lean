/-
  Plain lemmas on the CRC-32: steps, tables, bursts. No program is named here.
-/
import Derived.WalkKit
open Go Go.RowKit
set_option linter.unusedVariables false
namespace Go.Proofs.Ytigjaopafhjhaaa
/-- One step of the register: a bit goes out. -/
def crcL (x : Nat) : Nat := if x % 2 = 1 then x / 2 ^^^ 3988292384 else x / 2
/-- k steps. -/
def crcK : Nat → Nat → Nat
  | 0, x => x
  | k + 1, x => crcL (crcK k x)
theorem xor_cancel (x y w : Nat) (h : x ^^^ w = y ^^^ w) : x = y := by
  have := congrArg (· ^^^ w) h
  simpa [Nat.xor_assoc] using this
theorem xor_even (x w : Nat) : (x ^^^ 2 * w) % 2 = 1 ↔ x % 2 = 1 := by
  rw [Nat.xor_mod_two_eq_one]; have : 2 * w % 2 = 0 := by omega
  omega
theorem crcL_xor (x w : Nat) : crcL (x ^^^ 2 * w) = crcL x ^^^ w := by
  unfold crcL
  have e : (x ^^^ 2 * w) / 2 = x / 2 ^^^ w := by rw [Nat.xor_div_two, show 2 * w / 2 = w by omega]
  by_cases h : x % 2 = 1
  · rw [if_pos ((xor_even x w).2 h), if_pos h, e, Nat.xor_assoc, Nat.xor_assoc, Nat.xor_comm w]
  · rw [if_neg (fun k => h ((xor_even x w).1 k)), if_neg h, e]
theorem crcL_lt (x : Nat) (h : x < 4294967296) : crcL x < 4294967296 := by
  unfold crcL; split
  · exact Nat.xor_lt_two_pow (n := 32) (by omega) (by omega)
  · omega
theorem crcL_bit (x : Nat) (h : x < 4294967296) : (crcL x).testBit 31 = decide (x % 2 = 1) := by
  have hb : (x / 2).testBit 31 = false := Nat.testBit_lt_two_pow (by omega)
  unfold crcL; split
  · rename_i h1; rw [Nat.testBit_xor, hb, decide_eq_true h1]; decide
  · rename_i h1; rw [hb, decide_eq_false h1]
theorem crcL_inj (x y : Nat) (hx : x < 4294967296) (hy : y < 4294967296) (h : crcL x = crcL y) : x = y := by
  have hb := congrArg (·.testBit 31) h
  simp only [crcL_bit x hx, crcL_bit y hy] at hb
  unfold crcL at h
  by_cases h1 : x % 2 = 1
  · have h2 : y % 2 = 1 := by simpa [h1] using hb
    rw [if_pos h1, if_pos h2] at h
    have := xor_cancel _ _ _ h
    omega
  · have h2 : ¬ y % 2 = 1 := by simpa [h1] using hb
    rw [if_neg h1, if_neg h2] at h
    omega
theorem crcK_lt (k x : Nat) (h : x < 4294967296) : crcK k x < 4294967296 := by
  induction k with
  | zero => exact h
  | succ k ih => exact crcL_lt _ ih
theorem crcK_inj (k x y : Nat) (hx : x < 4294967296) (hy : y < 4294967296) (h : crcK k x = crcK k y) : x = y := by
  induction k with
  | zero => exact h
  | succ k ih => exact ih (crcL_inj _ _ (crcK_lt k x hx) (crcK_lt k y hy) h)
theorem crcK_xor (k x w : Nat) : crcK k (x ^^^ 2 ^ k * w) = crcK k x ^^^ w := by
  induction k generalizing w with
  | zero => simp [crcK]
  | succ k ih => rw [crcK, crcK, show 2 ^ (k + 1) * w = 2 ^ k * (2 * w) by rw [Nat.pow_succ, Nat.mul_assoc], ih, crcL_xor]
/-- A byte's eight steps, by the table. -/
theorem crcK_table (x : Nat) : crcK 8 x = crcK 8 (x % 256) ^^^ x / 256 := by
  have e : x = x % 256 ^^^ 2 ^ 8 * (x / 256) := by
    have hx : ∀ i, (x % 256 ^^^ 2 ^ 8 * (x / 256)).testBit i = x.testBit i := fun i => by
      rw [Nat.testBit_xor, show (256 : Nat) = 2 ^ 8 from rfl, Nat.testBit_mod_two_pow, Nat.mul_comm, Nat.testBit_mul_two_pow, Nat.testBit_div_two_pow]
      by_cases hi : i < 8
      · simp [hi, show ¬ 8 ≤ i by omega]
      · have : 8 ≤ i := by omega
        simp [hi, this]
    exact (Nat.eq_of_testBit_eq hx).symm
  conv => lhs; rw [e]
  exact crcK_xor 8 _ _

/-- The register behind the first k bits of g. -/
def crcS (g : Nat → Nat) (x : Nat) : Nat → Nat
  | 0 => x
  | k + 1 => crcL (crcS g x k ^^^ g k)
/-- j bits from B on as a number. -/
def crcW (g : Nat → Nat) (B : Nat) : Nat → Nat
  | 0 => 0
  | j + 1 => crcW g B j ^^^ 2 ^ j * g (B + j)
theorem crcS_window (g : Nat → Nat) (x B : Nat) : ∀ j, crcS g x (B + j) = crcK j (crcS g x B ^^^ crcW g B j)
  | 0 => by simp [crcW, crcK]
  | j + 1 => by
    rw [← Nat.add_assoc, crcS, crcS_window g x B j, crcW, crcK, ← crcK_xor, Nat.xor_assoc]
theorem crcS_lt (g : Nat → Nat) (x : Nat) (hx : x < 4294967296) (hg : ∀ k, g k ≤ 1) : ∀ k, crcS g x k < 4294967296
  | 0 => hx
  | k + 1 => crcL_lt _ (Nat.xor_lt_two_pow (n := 32) (crcS_lt g x hx hg k) (by have := hg k; omega))
theorem crcW_lt (g : Nat → Nat) (B : Nat) (hg : ∀ k, g k ≤ 1) : ∀ j, crcW g B j < 2 ^ j
  | 0 => by simp [crcW]
  | j + 1 => by
    rw [crcW]
    have h1 := crcW_lt g B hg j
    have h2 := hg (B + j)
    refine Nat.xor_lt_two_pow (by rw [Nat.pow_succ]; omega) ?_
    rw [Nat.pow_succ]
    have := Nat.mul_le_mul_left (2 ^ j) h2
    have := Nat.two_pow_pos j
    omega
theorem crcW_inj (g h : Nat → Nat) (B : Nat) (hg : ∀ k, g k ≤ 1) (hh : ∀ k, h k ≤ 1) : ∀ j, crcW g B j = crcW h B j → ∀ i, i < j → g (B + i) = h (B + i)
  | 0, _, i, hi => by omega
  | j + 1, e, i, hi => by
    rw [crcW, crcW] at e
    have hb := congrArg (fun n => n / 2 ^ j % 2) e
    have t : ∀ q : Nat → Nat, (∀ k, q k ≤ 1) → (crcW q B j ^^^ 2 ^ j * q (B + j)) / 2 ^ j % 2 = q (B + j) := fun q hq => by
      have h1 := crcW_lt q B hq j
      have h2 := hq (B + j)
      have hp := Nat.two_pow_pos j
      rw [Nat.xor_div_two_pow, Nat.div_eq_of_lt h1, Nat.mul_div_cancel_left _ hp, Nat.zero_xor]; omega
    simp only [t g hg, t h hh] at hb
    by_cases hij : i = j
    · rw [hij]; exact hb
    · rw [hb] at e
      exact crcW_inj g h B hg hh j (xor_cancel _ _ _ e) i (by omega)
theorem crcS_step_inj (g h : Nat → Nat) (x y : Nat) (hx : x < 4294967296) (hy : y < 4294967296) (hg : ∀ k, g k ≤ 1) (hh : ∀ k, h k ≤ 1) (a : Nat) (hne : crcS g x a ≠ crcS h y a) :
    ∀ j, (∀ k, a ≤ k → k < a + j → g k = h k) → crcS g x (a + j) ≠ crcS h y (a + j)
  | 0, _ => hne
  | j + 1, he => by
    have ih := crcS_step_inj g h x y hx hy hg hh a hne j (fun k h1 h2 => he k h1 (by omega))
    intro e
    rw [← Nat.add_assoc, crcS, crcS] at e
    have e2 := crcL_inj _ _ (Nat.xor_lt_two_pow (n := 32) (crcS_lt g x hx hg _) (by have := hg (a + j); omega)) (Nat.xor_lt_two_pow (n := 32) (crcS_lt h y hy hh _) (by have := hh (a + j); omega)) e
    rw [he (a + j) (by omega) (by omega)] at e2
    exact ih (xor_cancel _ _ _ e2)
theorem crcS_same (g h : Nat → Nat) (x : Nat) : ∀ k, (∀ i, i < k → g i = h i) → crcS g x k = crcS h x k
  | 0, _ => rfl
  | k + 1, he => by rw [crcS, crcS, crcS_same g h x k (fun i hi => he i (by omega)), he k (by omega)]
/-- A burst of up to 32 bits is told. -/
theorem crc_burst (g h : Nat → Nat) (x B n : Nat) (hx : x < 4294967296) (hg : ∀ k, g k ≤ 1) (hh : ∀ k, h k ≤ 1) (he : ∀ k, k < n → (k < B ∨ B + 32 ≤ k) → g k = h k) (i : Nat) (hi : i < n) (hne : g i ≠ h i) :
    crcS g x n ≠ crcS h x n := by
  have hB : B ≤ i := by rcases Nat.lt_or_ge i B with hlt | hge; exact absurd (he i hi (.inl hlt)) hne; exact hge
  have hi2 : i < B + 32 := by rcases Nat.lt_or_ge i (B + 32) with hlt | hge; exact hlt; exact absurd (he i hi (.inr hge)) hne
  obtain ⟨j, hj⟩ : ∃ j, j = min 32 (n - B) := ⟨_, rfl⟩
  have h0 : crcS g x B = crcS h x B := crcS_same g h x B (fun k hk => he k (by omega) (.inl hk))
  have h1 : crcS g x (B + j) ≠ crcS h x (B + j) := by
    rw [crcS_window, crcS_window, h0]
    intro e
    have hw : ∀ q : Nat → Nat, (∀ k, q k ≤ 1) → crcW q B j < 2 ^ 32 := fun q hq => Nat.lt_of_lt_of_le (crcW_lt q B hq j) (Nat.pow_le_pow_right (by omega) (by omega))
    have e2 := crcK_inj j _ _ (Nat.xor_lt_two_pow (n := 32) (crcS_lt h x hx hh B) (hw g hg)) (Nat.xor_lt_two_pow (n := 32) (crcS_lt h x hx hh B) (hw h hh)) e
    rw [Nat.xor_comm, Nat.xor_comm (crcS h x B)] at e2
    have e3 := crcW_inj g h B hg hh j (xor_cancel _ _ _ e2) (i - B) (by omega)
    rw [show B + (i - B) = i by omega] at e3
    exact hne e3
  have := crcS_step_inj g h x x hx hx hg hh (B + j) h1 (n - (B + j)) (fun k hk1 hk2 => he k (by omega) (.inr (by omega)))
  rw [show B + j + (n - (B + j)) = n by omega] at this
  exact this

/-- A byte behind the register's bytes. -/
def crcB (x b : Nat) : Nat := crcK 8 (x ^^^ b)
/-- The bytes of l behind the register's. -/
def crcF (l : List UInt8) (x : Nat) : Nat := l.foldl (fun x b => crcB x b.toNat) x
/-- The sum. -/
def crcSum (l : List UInt8) : Nat := 4294967295 - crcF l 4294967295
theorem crcF_app (l m : List UInt8) (x : Nat) : crcF (l ++ m) x = crcF m (crcF l x) := by unfold crcF; rw [List.foldl_append]
theorem crcF_snoc (l : List UInt8) (k : Nat) (h : k < l.length) (x : Nat) : crcF (l.take (k + 1)) x = crcB (crcF (l.take k) x) l[k].toNat := by
  rw [List.take_succ_eq_append_getElem h, crcF_app]; rfl
theorem crcB_lt (x b : Nat) (hx : x < 4294967296) (hb : b < 256) : crcB x b < 4294967296 := crcK_lt 8 _ (Nat.xor_lt_two_pow (n := 32) hx (by omega))
theorem crcF_lt (l : List UInt8) (x : Nat) (hx : x < 4294967296) : crcF l x < 4294967296 := by
  induction l generalizing x with
  | nil => exact hx
  | cons b l ih => exact ih _ (crcB_lt x _ hx b.toNat_lt)
theorem xor_mod_256 (x b : Nat) (hb : b < 256) : (x ^^^ b) % 256 = (x % 256) ^^^ b ∧ (x ^^^ b) / 256 = x / 256 := by
  refine ⟨?_, ?_⟩
  · rw [show (256 : Nat) = 2 ^ 8 from rfl, Nat.xor_mod_two_pow, Nat.mod_eq_of_lt (a := b) (by omega)]
  · rw [show (256 : Nat) = 2 ^ 8 from rfl, Nat.xor_div_two_pow, Nat.div_eq_of_lt (a := b) (by omega), Nat.xor_zero]
/-- By the table of the 256 bytes. -/
theorem crcB_table (x b : Nat) (hb : b < 256) : crcB x b = crcK 8 ((x % 256) ^^^ b) ^^^ x / 256 := by
  unfold crcB; rw [crcK_table, (xor_mod_256 x b hb).1, (xor_mod_256 x b hb).2]
/-- A step that adds the two low bits. -/
theorem crcL_two (x b : Nat) : crcL (x ^^^ b % 2) = if (x + b) % 2 = 1 then x / 2 ^^^ 3988292384 else x / 2 := by
  have e1 : (x ^^^ b % 2) / 2 = x / 2 := by rw [Nat.xor_div_two, show b % 2 / 2 = 0 by omega, Nat.xor_zero]
  have e2 : (x ^^^ b % 2) % 2 = 1 ↔ (x + b) % 2 = 1 := by rw [Nat.xor_mod_two_eq_one]; omega
  unfold crcL
  rw [e1]
  by_cases h : (x + b) % 2 = 1
  · rw [if_pos (e2.2 h), if_pos h]
  · rw [if_neg (fun k => h (e2.1 k)), if_neg h]
theorem mod_pow_succ (b j : Nat) : b % 2 ^ (j + 1) = b % 2 ^ j ^^^ 2 ^ j * (b / 2 ^ j % 2) := by
  apply Nat.eq_of_testBit_eq
  intro i
  rw [Nat.testBit_xor, Nat.testBit_mod_two_pow, Nat.testBit_mod_two_pow, Nat.mul_comm, Nat.testBit_mul_two_pow]
  rcases Nat.lt_trichotomy i j with h | h | h
  · simp [h, show i < j + 1 by omega, show ¬ j ≤ i by omega]
  · subst h; simp [Nat.testBit_eq_decide_div_mod_eq]
  · obtain ⟨d, hd⟩ : ∃ d, i - j = d + 1 := ⟨i - j - 1, by omega⟩
    have hz : (b / 2 ^ j % 2).testBit (i - j) = false := Nat.testBit_lt_two_pow (Nat.lt_of_lt_of_le (Nat.mod_lt _ (by omega)) (by rw [hd, Nat.pow_succ]; have := Nat.two_pow_pos d; omega))
    simp [hz, show ¬ i < j by omega, show ¬ i < j + 1 by omega]
/-- The reference's inner loop: behind j of the eight steps. -/
theorem crc_inner (x b j : Nat) : crcL (crcK j (x ^^^ b % 2 ^ j) ^^^ b / 2 ^ j % 2) = crcK (j + 1) (x ^^^ b % 2 ^ (j + 1)) := by
  rw [crcK, ← crcK_xor, Nat.xor_assoc, mod_pow_succ b j]

/-- Bit k of the bytes l, each byte's lowest bit first. -/
def bitAt (l : List UInt8) (k : Nat) : Nat := (l.getD (k / 8) 0).toNat / 2 ^ (k % 8) % 2
theorem bitAt_le (l : List UInt8) (k : Nat) : bitAt l k ≤ 1 := by unfold bitAt; omega
theorem crcW_byte (l : List UInt8) (m : Nat) : ∀ j, j ≤ 8 → crcW (bitAt l) (8 * m) j = (l.getD m 0).toNat % 2 ^ j
  | 0, _ => by simp [crcW]; omega
  | j + 1, h => by
    rw [crcW, crcW_byte l m j (by omega), mod_pow_succ]
    unfold bitAt
    rw [show (8 * m + j) / 8 = m by omega, show (8 * m + j) % 8 = j by omega]
theorem crcS_bytes (l : List UInt8) (x : Nat) : ∀ m, m ≤ l.length → crcS (bitAt l) x (8 * m) = crcF (l.take m) x
  | 0, _ => rfl
  | m + 1, h => by
    have e : l.getD m 0 = l[m] := by rw [List.getD_eq_getElem?_getD, List.getElem?_eq_getElem (by omega)]; rfl
    rw [show 8 * (m + 1) = 8 * m + 8 by omega, crcS_window, crcS_bytes l x m (by omega), crcW_byte l m 8 (by omega), crcF_snoc l m (by omega), e]
    unfold crcB
    rw [Nat.mod_eq_of_lt (show l[m].toNat < 2 ^ 8 from l[m].toNat_lt)]
/-- Two texts of one length that are others only within 32 bits beside each other have unlike sums. -/
theorem crc_tells (l m : List UInt8) (B : Nat) (hlen : l.length = m.length) (he : ∀ k, k < 8 * l.length → (k < B ∨ B + 32 ≤ k) → bitAt l k = bitAt m k) (hne : l ≠ m) : crcSum l ≠ crcSum m := by
  have hx : 4294967295 < 4294967296 := by omega
  have hk : ∃ k, k < 8 * l.length ∧ bitAt l k ≠ bitAt m k := by
    refine Classical.byContradiction fun hc => hne ?_
    have hall : ∀ k, k < 8 * l.length → bitAt l k = bitAt m k := fun k hk => Classical.byContradiction fun h => hc ⟨k, hk, h⟩
    apply List.ext_getElem hlen
    intro i h1 h2
    have hb : ∀ j, j ≤ 8 → (l.getD i 0).toNat % 2 ^ j = (m.getD i 0).toNat % 2 ^ j := fun j hj => by
      rw [← crcW_byte l i j hj, ← crcW_byte m i j hj]
      clear hc hne he
      induction j with
      | zero => rfl
      | succ j ih => rw [crcW, crcW, ih (by omega), hall (8 * i + j) (by omega)]
    have e1 : l.getD i 0 = l[i] := by rw [List.getD_eq_getElem?_getD, List.getElem?_eq_getElem h1]; rfl
    have e2 : m.getD i 0 = m[i] := by rw [List.getD_eq_getElem?_getD, List.getElem?_eq_getElem h2]; rfl
    have h8 := hb 8 (by omega)
    rw [e1, e2, Nat.mod_eq_of_lt (show l[i].toNat < 2 ^ 8 from l[i].toNat_lt), Nat.mod_eq_of_lt (show m[i].toNat < 2 ^ 8 from m[i].toNat_lt)] at h8
    exact UInt8.toNat_inj.1 h8
  obtain ⟨k, hk1, hk2⟩ := hk
  have h := crc_burst (bitAt l) (bitAt m) 4294967295 B (8 * l.length) hx (bitAt_le l) (bitAt_le m) he k hk1 hk2
  rw [crcS_bytes l _ _ (Nat.le_refl _), hlen, crcS_bytes m _ _ (Nat.le_refl _), List.take_length] at h
  rw [← hlen, List.take_length] at h
  intro e
  unfold crcSum at e
  have h1 := crcF_lt l 4294967295 hx
  have h2 := crcF_lt m 4294967295 hx
  exact h (by omega)
end Go.Proofs.Ytigjaopafhjhaaa
