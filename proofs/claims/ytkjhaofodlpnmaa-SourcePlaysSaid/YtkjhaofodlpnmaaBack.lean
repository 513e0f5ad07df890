/-
  Plain lemmas: what is written is read back, and only that is read.
-/
import Derived.Test.YtkjhaofodlpnmaaGet
open Go Go.RowKit
set_option linter.unusedVariables false
namespace Go.Proofs.Ytkjhaofodlpnmaa
/-- What a number must be below whose first byte is number i. -/
def room : Nat → Nat
  | 0 => 0
  | f + 1 => if f = 0 then 2 else 128 * room f
theorem room_small : ∀ f, 128 ≤ room (f + 1 + 1)
  | 0 => by simp [room]
  | f + 1 => by
    have := room_small f
    show 128 ≤ (if f + 1 + 1 = 0 then 2 else 128 * room (f + 1 + 1))
    rw [if_neg (by omega)]; omega
theorem room10 : room 10 = 18446744073709551616 := by simp [room]

theorem get_put : ∀ (f i n : Nat) (more : List UInt8), f + i = 10 → n < room f → (i = 0 ∨ n ≠ 0) → getL f i (putL n ++ more) = (n, (putL n).length, 0)
  | 0, i, n, more, _, h, _ => by simp [room] at h
  | f + 1, i, n, more, hf, h, h0 => by
    by_cases hs : n < 128
    · rw [putL_last n hs]
      have e : (UInt8.ofNat n).toNat = n := by simp; omega
      show getL (f + 1) i (UInt8.ofNat n :: more) = _
      rw [getL, e, if_neg (by omega)]
      have hE : endB i n = true := by
        unfold endB
        split
        · have : f = 0 := by omega
          subst this; simp [room] at h; simp; omega
        · simp; omega
      rw [hE]; rfl
    · have hn : n < 18446744073709551616 ∧ n / 128 < room f ∧ f ≠ 0 := by
        by_cases hf0 : f = 0
        · subst hf0; simp [room] at h; omega
        · have hr : room (f + 1) ≤ room 10 := by
            have hm : ∀ k, room k ≤ room (k + 1) := by
              intro k; rw [room]; split
              · rename_i e; subst e; simp [room]
              · omega
            have : ∀ k m, m ≤ k → room m ≤ room k := by
              intro k; induction k with
              | zero => intro m hm'; obtain rfl : m = 0 := by omega
                        exact Nat.le_refl _
              | succ k ih => intro m hm'; by_cases e : m = k + 1
                             · rw [e]; exact Nat.le_refl _
                             · exact Nat.le_trans (ih m (by omega)) (hm k)
            exact this 10 (f + 1) (by omega)
          rw [room10] at hr
          rw [room, if_neg hf0] at h
          refine ⟨?_, by omega, hf0⟩
          rw [room, if_neg hf0] at hr; omega
      rw [putL_step n (by omega) (lim10 n hn.1), List.cons_append]
      have e : (UInt8.ofNat (n % 128 + 128)).toNat = n % 128 + 128 := by simp; omega
      rw [getL, e, if_pos (by omega), get_put f (i + 1) (n / 128) more (by omega) hn.2.1 (.inr (by omega))]
      simp; omega

theorem put_get : ∀ (f i n c : Nat) (l : List UInt8), f + i = 10 → getL f i l = (n, c, 0) → putL n = l.take c ∧ c ≤ l.length ∧ n < room f ∧ (i = 0 ∨ n ≠ 0)
  | 0, i, n, c, l, _, h => by simp [getL] at h
  | f + 1, i, n, c, [], _, h => by simp [getL] at h
  | f + 1, i, n, c, b :: t, hf, h => by
    have hb := b.toNat_lt
    rw [getL] at h
    by_cases hb8 : 128 ≤ b.toNat
    · rw [if_pos hb8] at h
      by_cases he : (getL f (i + 1) t).2.2 = 0
      · rw [if_pos he] at h
        have h' : getL f (i + 1) t = ((getL f (i + 1) t).1, (getL f (i + 1) t).2.1, 0) := by rw [← he]
        obtain ⟨h1, h2, h3, h4⟩ := put_get f (i + 1) _ _ t (by omega) h'
        generalize (getL f (i + 1) t).1 = n' at *
        generalize (getL f (i + 1) t).2.1 = c' at *
        simp only [Prod.mk.injEq, and_true] at h
        obtain ⟨rfl, rfl⟩ := h
        have hf0 : f ≠ 0 := by rintro rfl; simp [room] at h3
        have hr : room (f + 1) = 128 * room f := by rw [room, if_neg hf0]
        have hn : n' ≠ 0 := by rcases h4 with h4 | h4 <;> omega
        have hlt : n' * 128 + (b.toNat - 128) < room (f + 1) := by rw [hr]; omega
        have hlim : n' * 128 + (b.toNat - 128) < lim 10 := by
          have : ∀ k, room k ≤ lim k := by
            intro k; induction k with
            | zero => simp [room]
            | succ k ih => rw [room, lim]; have := lim_pos k; split <;> omega
          have hm : ∀ j k, lim k ≤ lim (k + j) := by
            intro j; induction j with
            | zero => intro k; exact Nat.le_refl _
            | succ j ih => intro k; have := ih k; rw [← Nat.add_assoc, lim]; omega
          have h9 := hm i (f + 1)
          rw [show f + 1 + i = 10 by omega] at h9
          have := this (f + 1)
          omega
        refine ⟨?_, by simp; omega, hlt, .inr (by omega)⟩
        rw [putL_step _ (by omega) hlim, show (n' * 128 + (b.toNat - 128)) / 128 = n' by omega, h1, List.take_succ_cons, show (n' * 128 + (b.toNat - 128)) % 128 + 128 = b.toNat by omega]
        simp
      · rw [if_neg he] at h; simp at h; exact absurd h.2.2 he
    · rw [if_neg hb8] at h
      cases hE : endB i b.toNat
      · rw [hE] at h; simp at h
      · rw [hE] at h; simp only [if_true, Prod.mk.injEq, and_true] at h
        obtain ⟨rfl, rfl⟩ := h
        refine ⟨?_, by simp, ?_, ?_⟩
        · rw [putL_last _ (by omega)]; simp
        · cases f with
          | zero => unfold endB at hE; rw [if_pos (by omega)] at hE; simp at hE; rw [hE]; simp [room]
          | succ f => have := room_small f; omega
        · unfold endB at hE; split at hE
          · simp at hE; omega
          · simp at hE; omega

theorem getR_put (s : ByteArray) (a n : Nat) (more : List UInt8) (ha : a ≤ s.size) (hn : n < 18446744073709551616) (h : from_ s a = putL n ++ more) :
    getR s a = (n, a + (putL n).length, 0) := by
  have hg : getL 10 0 (from_ s a) = (n, (putL n).length, 0) := by rw [h]; exact get_put 10 0 n more rfl (by rw [room10]; exact hn) (.inl rfl)
  rw [getR_of s a _ _ _ ha hg, if_pos rfl]
theorem getR_err (s : ByteArray) (a : Int) (h : (getR s a).2.2 = 0) : ∃ k n c : Nat, a = k ∧ k ≤ s.size ∧ k + c ≤ s.size ∧ getR s a = (n, k + c, 0) ∧ putL n = (from_ s k).take c ∧ n < 18446744073709551616 := by
  unfold getR at h ⊢
  by_cases ha : 0 ≤ a ∧ a ≤ s.size
  · rw [if_pos ha] at h ⊢
    obtain ⟨k, rfl⟩ := Int.eq_ofNat_of_zero_le ha.1
    rw [Int.toNat_natCast] at *
    by_cases he : (getL 10 0 (from_ s k)).2.2 = 0
    · rw [if_pos he] at h ⊢
      have h' : getL 10 0 (from_ s k) = ((getL 10 0 (from_ s k)).1, (getL 10 0 (from_ s k)).2.1, 0) := Prod.ext rfl (Prod.ext rfl he)
      obtain ⟨h1, h2, h3, _⟩ := put_get 10 0 _ _ _ rfl h'
      rw [room10] at h3
      refine ⟨k, _, _, rfl, by omega, ?_, rfl, h1, h3⟩
      have : (from_ s k).length = s.size - k := by unfold from_; simp
      omega
    · rw [if_neg he] at h; exact absurd h he
  · rw [if_neg ha] at h; simp at h
end Go.Proofs.Ytkjhaofodlpnmaa
