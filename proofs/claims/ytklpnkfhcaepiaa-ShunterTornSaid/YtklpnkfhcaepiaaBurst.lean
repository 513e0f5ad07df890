/-
  Up to 32 bits that are flipped: plain lemmas. No program is named here.
-/
import Derived.Test.YtklpnkfhcaepiaaSeg
import Derived.Test.YtklpnkfhcaepiaaWCrc2
import Derived.IntWalk
open Go Go.RowKit
set_option linter.unusedVariables false
namespace Go.Proofs.Ytklpnkfhcaepiaa.burst
theorem flip_far (c r j : Nat) (h : j ≠ r) : (c ^^^ 2 ^ r) / 2 ^ j % 2 = c / 2 ^ j % 2 := by
  have h1 : (c ^^^ 2 ^ r).testBit j = c.testBit j := by rw [Nat.testBit_xor, Nat.testBit_two_pow]; simp [show ¬ r = j by omega]
  rw [Nat.testBit_eq_decide_div_mod_eq, Nat.testBit_eq_decide_div_mod_eq, decide_eq_decide] at h1
  omega
theorem bit_set (cs : List UInt8) (q r k : Nat) (hq : q < cs.length) (hr : r < 8) (hk : k ≠ 8 * q + r) : bitAt (cs.set q (UInt8.ofNat (cs[q].toNat ^^^ 2 ^ r))) k = bitAt cs k := by
  unfold bitAt
  have h256 : cs[q].toNat ^^^ 2 ^ r < 256 := Nat.xor_lt_two_pow (n := 8) cs[q].toNat_lt (Nat.lt_of_le_of_lt (Nat.pow_le_pow_right (by omega) (show r ≤ 7 by omega)) (by decide))
  by_cases h : k / 8 = q
  · have h1 : (cs.set q (UInt8.ofNat (cs[q].toNat ^^^ 2 ^ r))).getD (k / 8) 0 = UInt8.ofNat (cs[q].toNat ^^^ 2 ^ r) := by
      rw [h, List.getD_eq_getElem?_getD, List.getElem?_set_self hq]; rfl
    have h2 : cs.getD (k / 8) 0 = cs[q] := by rw [h, List.getD_eq_getElem?_getD, List.getElem?_eq_getElem hq]; rfl
    rw [h1, h2, UInt8.toNat_ofNat', Nat.mod_eq_of_lt h256]
    exact flip_far _ _ _ (by omega)
  · rw [List.getD_eq_getElem?_getD, List.getElem?_set_ne (by omega), ← List.getD_eq_getElem?_getD]
theorem xor_pow_u8 (c : UInt8) (r : Nat) (hr : r < 8) : bits BinOp.xor IntKind.u8 (c.toNat : Int) (2 ^ r % 256) = ((UInt8.ofNat (c.toNat ^^^ 2 ^ r)).toNat : Int) := by
  have hp : 2 ^ r < 256 := Nat.lt_of_le_of_lt (Nat.pow_le_pow_right (by omega) (show r ≤ 7 by omega)) (by decide)
  have h256 : c.toNat ^^^ 2 ^ r < 256 := Nat.xor_lt_two_pow (n := 8) c.toNat_lt hp
  have e : ((2 : Int) ^ r % 256) = ((2 ^ r : Nat) : Int) := by
    rw [show ((2 : Int) ^ r) = ((2 ^ r : Nat) : Int) from (Int.natCast_pow 2 r).symm]; exact Int.emod_eq_of_lt (Int.natCast_nonneg _) (Int.ofNat_lt.2 hp)
  rw [e, xor_u8 _ _ c.toNat_lt hp, UInt8.toNat_ofNat', Nat.mod_eq_of_lt h256]
theorem turn_in (a n : Int) (h : 0 < n) (h2 : n ≤ 1000000) : 0 ≤ (wrap64 (a.tmod n + n)).tmod n ∧ (wrap64 (a.tmod n + n)).tmod n < n := by
  have h1 := Int.tmod_lt_of_pos a h
  have h3 := Int.lt_tmod_of_pos a h
  rw [IntWalk.wrap64_in _ (by omega)]
  rw [Int.tmod_eq_emod_of_nonneg (by omega)]
  exact ⟨Int.emod_nonneg _ (by omega), Int.emod_lt_of_pos _ h⟩
theorem byte_of_bits (x y : Nat) (hx : x < 256) (hy : y < 256) (h : ∀ j, j < 8 → x / 2 ^ j % 2 = y / 2 ^ j % 2) : x = y := by
  have h0 := h 0 (by omega); have h1 := h 1 (by omega); have h2 := h 2 (by omega); have h3 := h 3 (by omega)
  have h4 := h 4 (by omega); have h5 := h 5 (by omega); have h6 := h 6 (by omega); have h7 := h 7 (by omega)
  simp only [Nat.pow_zero, Nat.pow_one, Nat.reducePow, Nat.div_one] at h0 h1 h2 h3 h4 h5 h6 h7
  omega
theorem byte_eq (l m : List UInt8) (i : Nat) (h : ∀ k, 8 * i ≤ k → k < 8 * i + 8 → bitAt l k = bitAt m k) : l.getD i 0 = m.getD i 0 := by
  apply UInt8.toNat_inj.1
  refine byte_of_bits _ _ (UInt8.toNat_lt _) (UInt8.toNat_lt _) fun j hj => ?_
  have := h (8 * i + j) (by omega) (by omega)
  unfold bitAt at this
  rw [show (8 * i + j) / 8 = i by omega, show (8 * i + j) % 8 = j by omega] at this
  exact this
theorem getD_eq (l : List UInt8) (i : Nat) (h : i < l.length) : l.getD i 0 = l[i] := by rw [List.getD_eq_getElem?_getD, List.getElem?_eq_getElem h]; rfl
theorem bitAt_app (l m : List UInt8) (k : Nat) (h : k < 8 * l.length) : bitAt (l ++ m) k = bitAt l k := by
  unfold bitAt
  rw [List.getD_eq_getElem?_getD, List.getElem?_append_left (by omega), ← List.getD_eq_getElem?_getD]
theorem bitAt_app2 (l m : List UInt8) (k : Nat) : bitAt (l ++ m) (8 * l.length + k) = bitAt m k := by
  unfold bitAt
  rw [List.getD_eq_getElem?_getD, List.getElem?_append_right (by omega), ← List.getD_eq_getElem?_getD, show (8 * l.length + k) / 8 - l.length = k / 8 by omega, show (8 * l.length + k) % 8 = k % 8 by omega]
/-- Bytes of which only those in the midst are others. -/
theorem parts (pre mid suf cs : List UInt8) (hl : cs.length = pre.length + (mid.length + suf.length)) (h : ∀ k, (k < 8 * pre.length ∨ 8 * (pre.length + mid.length) ≤ k) → bitAt cs k = bitAt (pre ++ (mid ++ suf)) k) :
    ∃ mid', mid'.length = mid.length ∧ cs = pre ++ (mid' ++ suf) := by
  have hd : ∀ i, (i < pre.length ∨ pre.length + mid.length ≤ i) → cs.getD i 0 = (pre ++ (mid ++ suf)).getD i 0 := fun i hi => byte_eq _ _ i fun k h1 h2 => h k (by omega)
  refine ⟨(cs.drop pre.length).take mid.length, by rw [List.length_take, List.length_drop]; omega, ?_⟩
  have e1 : cs.take pre.length = pre := by
    apply List.ext_getElem
    · rw [List.length_take]; omega
    · intro i h1 h2
      have := hd i (.inl h2)
      rw [getD_eq _ _ (by omega), getD_eq _ _ (by simp; omega), List.getElem_append_left h2] at this
      rw [List.getElem_take]; exact this
  have e2 : cs.drop (pre.length + mid.length) = suf := by
    apply List.ext_getElem
    · rw [List.length_drop]; omega
    · intro i h1 h2
      have := hd (pre.length + mid.length + i) (.inr (by omega))
      rw [getD_eq _ _ (by omega), getD_eq _ _ (by simp; omega), List.getElem_append_right (by omega), List.getElem_append_right (by omega)] at this
      rw [List.getElem_drop, this]; congr 1; omega
  conv => lhs; rw [← List.take_append_drop pre.length cs, e1]
  congr 1
  conv => lhs; rw [← List.take_append_drop mid.length (cs.drop pre.length)]
  rw [List.drop_drop, e2]
/-- A segment's head. -/
def headL (q n : Nat) : List UInt8 := 83 :: 103 :: (putL q ++ putL n)
theorem headL_len (q n : Nat) : (headL q n).length = 2 + (putL q).length + (putL n).length := by unfold headL; simp only [List.length_cons, List.length_append]; omega
theorem textL_head (q : Nat) (b : List UInt8) : textL q b = headL q b.length ++ b := by unfold textL headL; simp only [List.cons_append, List.append_assoc]
/-- A segment in whose body up to 32 bits beside each other are others: it is told; what stands ahead is as it was. -/
theorem told (q B : Nat) (b front more cs : List UInt8) (hq : q < 18446744073709551616) (hb : b.length ≤ 4096) (hl : cs.length = (front ++ (frameL q b ++ more)).length)
    (h : ∀ k, (k < 8 * (front.length + (headL q b.length).length) + B ∨ 8 * (front.length + (headL q b.length).length) + B + 32 ≤ k ∨ 8 * (front.length + (headL q b.length).length + b.length) ≤ k) → bitAt cs k = bitAt (front ++ (frameL q b ++ more)) k)
    (hne : cs ≠ front ++ (frameL q b ++ more)) : openR ⟨cs.toArray⟩ front.length = (0, ⟨#[]⟩, 0, 7) ∧ ∃ more', cs = front ++ more' := by
  have hF : front ++ (frameL q b ++ more) = (front ++ headL q b.length) ++ (b ++ (sumL (crcSum (textL q b)) ++ more)) := by
    unfold frameL; generalize crcSum (textL q b) = z; rw [textL_head]; simp only [List.append_assoc]
  rw [hF] at hl h hne
  obtain ⟨b', hb', rfl⟩ := parts (front ++ headL q b.length) b (sumL (crcSum (textL q b)) ++ more) cs (by rw [hl]; simp only [List.length_append]) (fun k hk => h k (by rw [List.length_append] at hk; omega))
  refine ⟨?_, headL q b.length ++ (b' ++ (sumL (crcSum (textL q b)) ++ more)), by simp only [List.append_assoc]⟩
  have hbb : b' ≠ b := fun e => hne (by rw [e])
  have htl : crcSum (textL q b') ≠ crcSum (textL q b) := by
    refine crc_tells _ _ (8 * (headL q b.length).length + B) (by rw [textL_head, textL_head, hb']; simp [hb']) (fun k hk hw => ?_) (fun e => hbb ?_)
    · rw [textL_head, List.length_append, hb'] at hk
      rw [textL_head, textL_head, hb']
      have h1 := h (8 * front.length + k) (by omega)
      rw [List.append_assoc, List.append_assoc, bitAt_app2, bitAt_app2, ← List.append_assoc (headL q b.length) b', ← List.append_assoc (headL q b.length) b] at h1
      rw [bitAt_app (headL q b.length ++ b') _ _ (by rw [List.length_append, hb']; omega), bitAt_app (headL q b.length ++ b) _ _ (by rw [List.length_append]; omega)] at h1
      exact h1
    · rw [textL_head, textL_head, hb'] at e; exact List.append_cancel_left e
  obtain ⟨S, hS⟩ : ∃ S, S = ByteArray.mk (front ++ headL q b.length ++ (b' ++ (sumL (crcSum (textL q b)) ++ more))).toArray := ⟨_, rfl⟩
  rw [← hS]
  have hfr : from_ S front.length = 83 :: 103 :: (putL q ++ (putL b'.length ++ (b' ++ (sumL (crcSum (textL q b)) ++ more)))) := by
    rw [hS]; unfold from_
    rw [List.append_assoc, List.drop_left, hb']; unfold headL; simp only [List.cons_append, List.append_assoc]
  have hsz := congrArg List.length hfr
  rw [from_len] at hsz
  simp only [List.length_cons, List.length_append, sumL_len] at hsz
  have hm : markL (from_ S front.length) = 0 := by rw [hfr]; simp [markL]
  have h2 : from_ S (front.length + 2) = putL q ++ (putL b'.length ++ (b' ++ (sumL (crcSum (textL q b)) ++ more))) := by rw [from_add, hfr]; rfl
  have g1 := getR_put S (front.length + 2) q _ (by omega) hq h2
  have h3 : from_ S (front.length + 2 + (putL q).length) = putL b'.length ++ (b' ++ (sumL (crcSum (textL q b)) ++ more)) := by rw [from_add, h2, List.drop_left]
  have g2 := getR_put S (front.length + 2 + (putL q).length) b'.length _ (by omega) (by omega) h3
  have h4 : from_ S (front.length + 2 + (putL q).length + (putL b'.length).length) = b' ++ (sumL (crcSum (textL q b)) ++ more) := by rw [from_add, h3, List.drop_left]
  have h5 : from_ S (front.length + 2 + (putL q).length + (putL b'.length).length + b'.length) = sumL (crcSum (textL q b)) ++ more := by rw [from_add, h4, List.drop_left]
  have hh : headR S (front.length + 2) = (q, front.length + 2 + (putL q).length + (putL b'.length).length, front.length + 2 + (putL q).length + (putL b'.length).length + b'.length, 0) := by
    unfold headR
    rw [g1]; simp only [if_true]
    rw [g2]; simp only [if_true]
    rw [if_pos (by omega)]
  have hbody : (S.extract (front.length + 2 + (putL q).length + (putL b'.length).length) (front.length + 2 + (putL q).length + (putL b'.length).length + b'.length)).data.toList = b' := by
    rw [extract_from, h4, show ∀ x : Nat, x + b'.length - x = b'.length from fun x => by omega, List.take_left]
  have htext := (text_of_head S front.length q _ b'.length hm hh (by omega)).2.2.2.2
  rw [hbody] at htext
  unfold openR
  rw [if_pos ⟨by omega, by omega⟩, Int.toNat_natCast, if_pos hm, hh]
  simp only [if_true]
  rw [if_pos (by omega), if_neg]
  rw [htext, extract_from, h5, show ∀ x : Nat, x + 4 - x = 4 from fun x => by omega]
  intro e
  rw [List.take_append_of_le_length (by rw [sumL_len]; omega), List.take_of_length_le (by rw [sumL_len]; omega)] at e
  exact htl (sumL_inj _ _ (crcSum_lt _) (crcSum_lt _) e.symm)
end Go.Proofs.Ytklpnkfhcaepiaa.burst
