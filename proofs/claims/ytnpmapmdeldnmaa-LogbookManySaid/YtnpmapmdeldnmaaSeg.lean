/-
  Segments as lists of bytes: plain lemmas. No program is named here.
-/
import Derived.Test.YtnpmapmdeldnmaaBack
import Derived.Test.YtnpmapmdeldnmaaCrcNums
open Go Go.RowKit
set_option linter.unusedVariables false
namespace Go.Proofs.Ytnpmapmdeldnmaa
/-- A sum's four bytes, the lowest first. -/
def sumL (n : Nat) : List UInt8 := [UInt8.ofNat n, UInt8.ofNat (n / 256), UInt8.ofNat (n / 65536), UInt8.ofNat (n / 16777216)]
theorem sumL_len (n : Nat) : (sumL n).length = 4 := rfl
theorem sumL_inj (a b : Nat) (ha : a < 4294967296) (hb : b < 4294967296) (h : sumL a = sumL b) : a = b := by
  unfold sumL at h
  simp only [List.cons.injEq, and_true] at h
  obtain ⟨h0, h1, h2, h3⟩ := h
  have e : ∀ x y : Nat, UInt8.ofNat x = UInt8.ofNat y → x % 256 = y % 256 := fun x y e => by
    have := congrArg UInt8.toNat e
    simpa using this
  have := e _ _ h0; have := e _ _ h1; have := e _ _ h2; have := e _ _ h3
  omega
theorem crcSum_lt (l : List UInt8) : crcSum l < 4294967296 := by unfold crcSum; omega
/-- A segment's bytes ahead of its sum; all of them. -/
def textL (q : Nat) (b : List UInt8) : List UInt8 := 83 :: 103 :: (putL q ++ (putL b.length ++ b))
def frameL (q : Nat) (b : List UInt8) : List UInt8 := textL q b ++ sumL (crcSum (textL q b))
theorem textL_len (q : Nat) (b : List UInt8) : (textL q b).length = 2 + (putL q).length + (putL b.length).length + b.length := by
  unfold textL; simp only [List.length_cons, List.length_append]; omega
theorem frameL_len (q : Nat) (b : List UInt8) : (frameL q b).length = 6 + (putL q).length + (putL b.length).length + b.length := by
  unfold frameL; rw [List.length_append, textL_len, sumL_len]; omega
theorem frameL_eq (q : Nat) (b : List UInt8) : frameL q b = 83 :: 103 :: (putL q ++ (putL b.length ++ (b ++ sumL (crcSum (textL q b))))) := by
  unfold frameL; generalize crcSum (textL q b) = z; unfold textL; simp only [List.cons_append, List.append_assoc]
theorem from_len (s : ByteArray) (n : Nat) : (from_ s n).length = s.size - n := by unfold from_; simp
theorem from_add (s : ByteArray) (n c : Nat) : from_ s (n + c) = (from_ s n).drop c := by unfold from_; rw [List.drop_drop]
theorem extract_from (s : ByteArray) (i j : Nat) : (s.extract i j).data.toList = (from_ s i).take (j - i) := by
  rw [extract_list]; unfold from_; rw [List.drop_take]
theorem bytes_ext {a b : ByteArray} (h : a.data.toList = b.data.toList) : a = b := by
  obtain ⟨⟨x⟩⟩ := a; obtain ⟨⟨y⟩⟩ := b; simp at h; rw [h]
/-- Does a segment begin there? -/
def markL : List UInt8 → Nat
  | [] => 2
  | b :: t => if b = 83 then (match t with | [] => 2 | c :: _ => if c = 103 then 0 else 1) else 1
/-- A segment's number, and from where to where its body stands; the error. -/
def headR (s : ByteArray) (a : Nat) : Nat × Nat × Nat × Nat :=
  if (getR s a).2.2 = 0 then
    if (getR s ((getR s a).2.1 : Nat)).2.2 = 0 then
      if (getR s ((getR s a).2.1 : Nat)).1 ≤ 4096 then ((getR s a).1, (getR s ((getR s a).2.1 : Nat)).2.1, (getR s ((getR s a).2.1 : Nat)).2.1 + (getR s ((getR s a).2.1 : Nat)).1, 0)
      else (0, 0, 0, 3)
    else (0, 0, 0, (getR s ((getR s a).2.1 : Nat)).2.2)
  else (0, 0, 0, (getR s a).2.2)
/-- What Open answers: the number, the body, the byte behind, the error. -/
def openR (s : ByteArray) (a : Int) : Nat × ByteArray × Nat × Nat :=
  if 0 ≤ a ∧ a ≤ s.size then
    if markL (from_ s a.toNat) = 0 then
      if (headR s (a.toNat + 2)).2.2.2 = 0 then
        if (headR s (a.toNat + 2)).2.2.1 + 4 ≤ s.size then
          if (s.extract (headR s (a.toNat + 2)).2.2.1 ((headR s (a.toNat + 2)).2.2.1 + 4)).data.toList = sumL (crcSum (s.extract a.toNat (headR s (a.toNat + 2)).2.2.1).data.toList) then
            ((headR s (a.toNat + 2)).1, s.extract (headR s (a.toNat + 2)).2.1 (headR s (a.toNat + 2)).2.2.1, (headR s (a.toNat + 2)).2.2.1 + 4, 0)
          else (0, ⟨#[]⟩, 0, 7)
        else (0, ⟨#[]⟩, 0, 2)
      else (0, ⟨#[]⟩, 0, (headR s (a.toNat + 2)).2.2.2)
    else (0, ⟨#[]⟩, 0, markL (from_ s a.toNat))
  else (0, ⟨#[]⟩, 0, 4)
/-- What a head that is read says. -/
theorem headR_ok (s : ByteArray) (a : Nat) (h : (headR s a).2.2.2 = 0) : ∃ q n f, headR s a = (q, f, f + n, 0) ∧ q < 18446744073709551616 ∧ n ≤ 4096 ∧ a ≤ f ∧ f ≤ s.size ∧ (from_ s a).take (f - a) = putL q ++ putL n := by
  unfold headR at h ⊢
  by_cases h1 : (getR s a).2.2 = 0
  · rw [if_pos h1] at h ⊢
    obtain ⟨k, q, c, hk, hks, hkc, hR, hp, hq⟩ := getR_err s a h1
    obtain rfl : k = a := by omega
    rw [hR] at h ⊢
    simp only at h ⊢
    by_cases h2 : (getR s ((k + c : Nat) : Int)).2.2 = 0
    · rw [if_pos h2] at h ⊢
      obtain ⟨k2, n, c2, hk2, hks2, hkc2, hR2, hp2, hn⟩ := getR_err s _ h2
      obtain rfl : k2 = k + c := by omega
      rw [hR2] at h ⊢
      simp only at h ⊢
      by_cases h3 : n ≤ 4096
      · rw [if_pos h3]
        refine ⟨q, n, k + c + c2, rfl, hq, h3, by omega, hkc2, ?_⟩
        rw [hp, hp2, from_add, show k + c + c2 - k = c + c2 by omega, List.take_add]
      · rw [if_neg h3] at h; simp at h
    · rw [if_neg h2] at h; exact absurd h h2
  · rw [if_neg h1] at h; exact absurd h h1
theorem markL_ok (l : List UInt8) (h : markL l = 0) : ∃ t, l = 83 :: 103 :: t := by
  match l, h with
  | [], h => simp [markL] at h
  | b :: [], h => simp only [markL] at h; split at h <;> simp at h
  | b :: c :: t, h =>
    simp only [markL] at h
    split at h
    · rename_i hb; split at h
      · rename_i hc; exact ⟨t, by rw [hb, hc]⟩
      · simp at h
    · simp at h
/-- The text of a segment whose head is read. -/
theorem text_of_head (s : ByteArray) (a q f n : Nat) (hm : markL (from_ s a) = 0) (hh : headR s (a + 2) = (q, f, f + n, 0)) (hn : f + n ≤ s.size) :
    q < 18446744073709551616 ∧ n ≤ 4096 ∧ a + 2 ≤ f ∧ (s.extract f (f + n)).data.toList.length = n ∧ (s.extract a (f + n)).data.toList = textL q (s.extract f (f + n)).data.toList := by
  obtain ⟨q', n', f', h1, h2, h3, h4, h5, h6⟩ := headR_ok s (a + 2) (by rw [hh])
  rw [hh] at h1
  simp only [Prod.mk.injEq, and_true] at h1
  obtain ⟨rfl, rfl, h1⟩ := h1
  obtain rfl : n = n' := by omega
  obtain ⟨t, ht⟩ := markL_ok _ hm
  have hlen : (s.extract f (f + n)).data.toList.length = n := by rw [extract_from, List.length_take, from_len]; omega
  refine ⟨h2, h3, h4, hlen, ?_⟩
  have e2 : from_ s (a + 2) = t := by rw [from_add, ht]; rfl
  unfold textL
  rw [hlen, extract_from, extract_from, ht, show f + n - a = (f - (a + 2) + n) + 1 + 1 by omega, List.take_succ_cons, List.take_succ_cons, ← e2, List.take_add, h6]
  rw [show (from_ s (a + 2)).drop (f - (a + 2)) = from_ s f by rw [← from_add]; congr 1; omega, show f + n - f = n by omega, List.append_assoc]
/-- Open of a segment. -/
theorem openR_frame (s : ByteArray) (a q : Nat) (b more : List UInt8) (ha : a ≤ s.size) (hq : q < 18446744073709551616) (hb : b.length ≤ 4096) (h : from_ s a = frameL q b ++ more) :
    openR s a = (q, ⟨b.toArray⟩, a + (frameL q b).length, 0) := by
  have hsz := congrArg List.length h
  rw [from_len, List.length_append, frameL_len] at hsz
  have h0 : from_ s a = 83 :: 103 :: (putL q ++ (putL b.length ++ (b ++ (sumL (crcSum (textL q b)) ++ more)))) := by
    rw [h, frameL_eq]; simp only [List.cons_append, List.append_assoc]
  have hm : markL (from_ s a) = 0 := by rw [h0]; simp [markL]
  have h2 : from_ s (a + 2) = putL q ++ (putL b.length ++ (b ++ (sumL (crcSum (textL q b)) ++ more))) := by rw [from_add, h0]; rfl
  have g1 := getR_put s (a + 2) q _ (by omega) hq h2
  have h3 : from_ s (a + 2 + (putL q).length) = putL b.length ++ (b ++ (sumL (crcSum (textL q b)) ++ more)) := by rw [from_add, h2, List.drop_left]
  have g2 := getR_put s (a + 2 + (putL q).length) b.length _ (by omega) (by omega) h3
  have h4 : from_ s (a + 2 + (putL q).length + (putL b.length).length) = b ++ (sumL (crcSum (textL q b)) ++ more) := by rw [from_add, h3, List.drop_left]
  have h5 : from_ s (a + 2 + (putL q).length + (putL b.length).length + b.length) = sumL (crcSum (textL q b)) ++ more := by rw [from_add, h4, List.drop_left]
  have hh : headR s (a + 2) = (q, a + 2 + (putL q).length + (putL b.length).length, a + 2 + (putL q).length + (putL b.length).length + b.length, 0) := by
    unfold headR
    rw [g1]; simp only [if_true]
    rw [g2]; simp only [if_true]
    rw [if_pos hb]
  have hbody : s.extract (a + 2 + (putL q).length + (putL b.length).length) (a + 2 + (putL q).length + (putL b.length).length + b.length) = ⟨b.toArray⟩ := by
    apply bytes_ext
    rw [extract_from, h4, show ∀ x : Nat, x + b.length - x = b.length from fun x => by omega, List.take_left]
  have htext := (text_of_head s a q _ b.length hm hh (by omega)).2.2.2.2
  unfold openR
  rw [if_pos ⟨by omega, by omega⟩, Int.toNat_natCast, if_pos hm, hh]
  simp only [if_true]
  rw [if_pos (by omega), if_pos, hbody, frameL_len]
  · congr 3; omega
  · rw [htext, hbody, extract_from, h5, show ∀ x : Nat, x + 4 - x = 4 from fun x => by omega]; rfl
/-- A number's bytes that are cut off: there ends what is read. -/
theorem putL_len_lim : ∀ (f n : Nat), n < lim (f + 1) → n < 18446744073709551616 → (putL n).length ≤ f + 1
  | 0, n, h, _ => by rw [putL_last n (by simp [lim] at h; exact h)]; simp
  | f + 1, n, h, h2 => by
    by_cases hs : n < 128
    · rw [putL_last n hs]; simp
    · rw [putL_step n (by omega) (lim10 n h2), List.length_cons]
      have := putL_len_lim f (n / 128) (by rw [lim] at h; omega) (by omega)
      omega
theorem putL_len10 (n : Nat) (h : n < 18446744073709551616) : (putL n).length ≤ 10 := putL_len_lim 9 n (lim10 n h) h
theorem putL_pos1 (n : Nat) : 1 ≤ (putL n).length := by unfold putL; rw [putF]; split <;> simp
theorem getL_cut2 : ∀ (f i n j : Nat), n < 18446744073709551616 → j < (putL n).length → (putL n).length ≤ f → (getL f i ((putL n).take j)) = (0, 0, 2)
  | 0, i, n, j, _, h, h2 => by omega
  | f + 1, i, n, 0, _, _, _ => by simp [getL]
  | f + 1, i, n, j + 1, hn, h, h2 => by
    by_cases hs : n < 128
    · rw [putL_last n hs] at h; simp at h
    · have hst := putL_step n (by omega) (lim10 n hn)
      rw [hst] at h h2 ⊢
      rw [List.take_succ_cons, getL, if_pos (by simp; omega)]
      have ih := getL_cut2 f (i + 1) (n / 128) j (by omega) (by simpa using h) (by simpa using h2)
      rw [ih]; rfl
theorem getR_cut2 (s : ByteArray) (p n j : Nat) (hp : p ≤ s.size) (hn : n < 18446744073709551616) (hj : j < (putL n).length) (h : from_ s p = (putL n).take j) : getR s p = (0, 0, 2) := by
  have hg := getL_cut2 10 0 n j hn hj (putL_len10 n hn)
  unfold getR
  rw [if_pos ⟨by omega, by omega⟩, Int.toNat_natCast, h, hg]; rfl
/-- Open of a segment that is cut off. -/
theorem openR_cut (s : ByteArray) (a q k : Nat) (b : List UInt8) (ha : a ≤ s.size) (hq : q < 18446744073709551616) (hb : b.length ≤ 4096) (hk : k < (frameL q b).length) (h : from_ s a = (frameL q b).take k) :
    openR s a = (0, ⟨#[]⟩, 0, 2) := by
  have hsz := congrArg List.length h
  rw [from_len, List.length_take] at hsz
  rw [frameL_len] at hk hsz
  rw [frameL_eq] at h
  unfold openR
  rw [if_pos ⟨by omega, by omega⟩, Int.toNat_natCast]
  match k, h with
  | 0, h => rw [h]; simp [markL]
  | 1, h => rw [h]; simp [markL]
  | k + 2, h =>
    rw [List.take_succ_cons, List.take_succ_cons] at h
    have hm : markL (from_ s a) = 0 := by rw [h]; simp [markL]
    rw [if_pos hm]
    have h2 : from_ s (a + 2) = (putL q ++ (putL b.length ++ (b ++ sumL (crcSum (textL q b))))).take k := by rw [from_add, h]; rfl
    by_cases k1 : k < (putL q).length
    · have g := getR_cut2 s (a + 2) q k (by omega) hq k1 (by rw [h2, List.take_append_of_le_length (by omega)])
      have hh : headR s (a + 2) = (0, 0, 0, 2) := by unfold headR; rw [g]; rfl
      rw [hh]; rfl
    · have g := getR_put s (a + 2) q ((putL b.length ++ (b ++ sumL (crcSum (textL q b)))).take (k - (putL q).length)) (by omega) hq (by rw [h2, List.take_append, List.take_of_length_le (by omega)])
      have h3 : from_ s (a + 2 + (putL q).length) = (putL b.length ++ (b ++ sumL (crcSum (textL q b)))).take (k - (putL q).length) := by
        rw [from_add, h2, List.take_append, List.take_of_length_le (by omega), List.drop_left]
      by_cases k2 : k - (putL q).length < (putL b.length).length
      · have g2 := getR_cut2 s (a + 2 + (putL q).length) b.length _ (by omega) (by omega) k2 (by rw [h3, List.take_append_of_le_length (by omega)])
        have hh : headR s (a + 2) = (0, 0, 0, 2) := by unfold headR; rw [g]; simp only [if_true]; rw [g2]; rfl
        rw [hh]; rfl
      · have g2 := getR_put s (a + 2 + (putL q).length) b.length ((b ++ sumL (crcSum (textL q b))).take (k - (putL q).length - (putL b.length).length)) (by omega) (by omega) (by rw [h3, List.take_append, List.take_of_length_le (by omega)])
        have hh : headR s (a + 2) = (q, a + 2 + (putL q).length + (putL b.length).length, a + 2 + (putL q).length + (putL b.length).length + b.length, 0) := by
          unfold headR
          rw [g]; simp only [if_true]
          rw [g2]; simp only [if_true]
          rw [if_pos hb]
        rw [hh]
        simp only [if_true]
        rw [if_neg (by omega)]
/-- What a segment that is opened says. -/
theorem openR_ok (s : ByteArray) (a : Int) (h : (openR s a).2.2.2 = 0) : ∃ k q : Nat, ∃ b : List UInt8, a = k ∧ q < 18446744073709551616 ∧ b.length ≤ 4096 ∧ k + (frameL q b).length ≤ s.size ∧
    openR s a = (q, ⟨b.toArray⟩, k + (frameL q b).length, 0) ∧ (from_ s k).take (frameL q b).length = frameL q b := by
  unfold openR at h ⊢
  by_cases h0 : 0 ≤ a ∧ a ≤ s.size
  · rw [if_pos h0] at h ⊢
    obtain ⟨k, rfl⟩ := Int.eq_ofNat_of_zero_le h0.1
    rw [Int.toNat_natCast] at *
    by_cases h1 : markL (from_ s k) = 0
    · rw [if_pos h1] at h ⊢
      by_cases h2 : (headR s (k + 2)).2.2.2 = 0
      · rw [if_pos h2] at h ⊢
        obtain ⟨q, n, f, hh, hq, hn, hf, hfs, hp⟩ := headR_ok s (k + 2) h2
        rw [hh] at h ⊢
        simp only at h ⊢
        by_cases h3 : f + n + 4 ≤ s.size
        · rw [if_pos h3] at h ⊢
          by_cases h4 : (s.extract (f + n) (f + n + 4)).data.toList = sumL (crcSum (s.extract k (f + n)).data.toList)
          · rw [if_pos h4]
            obtain ⟨t1, t2, t3, t4, t5⟩ := text_of_head s k q f n h1 hh (by omega)
            refine ⟨k, q, (s.extract f (f + n)).data.toList, rfl, hq, by omega, ?_, ?_, ?_⟩
            · have := congrArg List.length t5
              rw [extract_from, List.length_take, from_len] at this
              unfold frameL; rw [List.length_append, sumL_len]; omega
            · have := congrArg List.length t5
              rw [extract_from, List.length_take, from_len] at this
              have e : k + (frameL q (s.extract f (f + n)).data.toList).length = f + n + 4 := by unfold frameL; rw [List.length_append, sumL_len]; omega
              rw [e]
            · have hl := congrArg List.length t5
              rw [extract_from, List.length_take, from_len] at hl
              unfold frameL
              rw [List.length_append, sumL_len, List.take_add, ← from_add, show k + (textL q (s.extract f (f + n)).data.toList).length = f + n by omega, ← t5]
              rw [extract_from (s := s) (i := f + n), show f + n + 4 - (f + n) = 4 by omega] at h4
              rw [h4]; congr 1
              rw [extract_from]
              rw [List.take_eq_take_iff, from_len, List.length_take, from_len]; omega
          · rw [if_neg h4] at h; simp at h
        · rw [if_neg h3] at h; simp at h
      · rw [if_neg h2] at h; exact absurd h h2
    · rw [if_neg h1] at h; exact absurd h h1
  · rw [if_neg h0] at h; simp at h
end Go.Proofs.Ytnpmapmdeldnmaa
