/-
  Segments in a row: plain lemmas. No program is named here.
-/
import Derived.Test.YtnpmapmdeldnmaaWScan
open Go Go.RowKit
set_option linter.unusedVariables false
namespace Go.Proofs.Ytnpmapmdeldnmaa
/-- The bytes of segments in a row, numbered from q on. -/
def rowF : Nat → List ByteArray → List UInt8
  | _, [] => []
  | q, b :: l => frameL q b.data.toList ++ rowF (q + 1) l
theorem rowF_snoc : ∀ (l : List ByteArray) (q : Nat) (b : ByteArray), rowF q (l ++ [b]) = rowF q l ++ frameL (q + l.length) b.data.toList
  | [], q, b => by simp [rowF]
  | x :: l, q, b => by
    rw [List.cons_append, rowF, rowF, rowF_snoc l (q + 1) b, List.append_assoc, List.length_cons, show q + 1 + l.length = q + (l.length + 1) by omega]
theorem rowF_app : ∀ (l m : List ByteArray) (q : Nat), rowF q (l ++ m) = rowF q l ++ rowF (q + l.length) m
  | [], m, q => by simp [rowF]
  | x :: l, m, q => by
    rw [List.cons_append, rowF, rowF, rowF_app l m (q + 1), List.append_assoc, List.length_cons, show q + 1 + l.length = q + (l.length + 1) by omega]
theorem rowF_take (l : List ByteArray) (q k : Nat) (h : k < l.length) : rowF q (l.take (k + 1)) = rowF q (l.take k) ++ frameL (q + k) l[k].data.toList := by
  rw [List.take_succ_eq_append_getElem h, rowF_snoc, List.length_take, show min k l.length = k by omega]
theorem rowF_len : ∀ (l : List ByteArray) (q M : Nat), (∀ b ∈ l, b.size ≤ M) → (rowF q l).length ≤ (28 + M) * l.length
  | [], q, M, _ => by simp [rowF]
  | x :: l, q, M, h => by
    have h1 := rowF_len l (q + 1) M (fun b hb => h b (by simp [hb]))
    have h2 := h x (by simp)
    have h3 := putL_len q
    have h4 := putL_len x.data.toList.length
    rw [rowF, List.length_append, frameL_len, List.length_cons, Nat.mul_succ]
    rw [size_list] at h2
    omega
/-- What is seen of segments in a row. -/
def seen : Nat → Nat → List ByteArray → List (ByteArray × Nat)
  | _, _, [] => []
  | a, q, b :: l => (b, a + (frameL q b.data.toList).length) :: seen (a + (frameL q b.data.toList).length) (q + 1) l
theorem seen_len : ∀ (l : List ByteArray) (a q : Nat), (seen a q l).length = l.length
  | [], a, q => rfl
  | x :: l, a, q => by rw [seen, List.length_cons, List.length_cons, seen_len]
theorem seen_at : ∀ (l : List ByteArray) (a q i : Nat) (h : i < (seen a q l).length), (seen a q l)[i] = (l[i]'(by rw [seen_len] at h; exact h), a + (rowF q (l.take (i + 1))).length)
  | [], a, q, i, h => by simp [seen] at h
  | x :: l, a, q, 0, h => by simp [seen, rowF]
  | x :: l, a, q, i + 1, h => by
    simp only [seen, List.getElem_cons_succ, List.take_succ_cons, rowF, List.length_append]
    rw [seen_at l _ _ i (by simpa [seen] using h)]
    simp only [Prod.mk.injEq, true_and]; omega
theorem seen_end (l : List ByteArray) (a q : Nat) (h : l ≠ []) : lastEnd (seen a q l) = a + (rowF q l).length := by
  have hl : 0 < l.length := List.length_pos_iff.2 h
  have hs : seen a q l ≠ [] := by intro e; have := seen_len l a q; rw [e] at this; simp at this; omega
  unfold lastEnd
  rw [List.getLast?_eq_some_getLast hs, List.getLast_eq_getElem]
  simp only [Option.map_some, Option.getD_some]
  rw [seen_at]
  simp only [seen_len]
  rw [show l.length - 1 + 1 = l.length by omega, List.take_length]
theorem seen_end0 (l : List ByteArray) (q : Nat) : lastEnd (seen 0 q l) = (rowF q l).length := by
  by_cases h : l = []
  · subst h; rfl
  · rw [seen_end l 0 q h]; omega
theorem seen_take : ∀ (l : List ByteArray) (a q k : Nat), (seen a q l).take k = seen a q (l.take k)
  | [], a, q, k => by simp [seen]
  | x :: l, a, q, 0 => by simp [seen]
  | x :: l, a, q, k + 1 => by rw [seen, List.take_succ_cons, List.take_succ_cons, seen, seen_take]
/-- Segments in a row, and behind them none with the next number: these are seen. -/
theorem scan_row : ∀ (l : List ByteArray) (f : Nat) (s : ByteArray) (a q : Nat) (more : List UInt8), a ≤ s.size → from_ s a = rowF q l ++ more → q + l.length < 18446744073709551616 → (∀ b ∈ l, b.size ≤ 4096) → l.length < f →
    (¬ ((openR s ((a + (rowF q l).length : Nat) : Int)).2.2.2 = 0 ∧ (openR s ((a + (rowF q l).length : Nat) : Int)).1 = q + l.length)) → scanF f s a q = seen a q l
  | [], f, s, a, q, more, ha, h, hq, hb, hf, hst => by
    rw [seen]; exact scanF_stop f s a q (by simpa [rowF] using hst)
  | b :: l, 0, s, a, q, more, ha, h, hq, hb, hf, hst => by omega
  | b :: l, f + 1, s, a, q, more, ha, h, hq, hb, hf, hst => by
    rw [rowF, List.append_assoc] at h
    rw [List.length_cons] at hq hf
    have hb1 := hb b (by simp)
    have hsz := congrArg List.length h
    rw [from_len, List.length_append] at hsz
    have ho := openR_frame s a q b.data.toList (rowF (q + 1) l ++ more) ha (by omega) (by rw [← size_list]; exact hb1) h
    rw [mk_list] at ho
    rw [scanF_step f s a q _ b ho, seen, Nat.mod_eq_of_lt (by omega)]
    congr 1
    have hf2 : 6 ≤ (frameL q b.data.toList).length := by rw [frameL_len]; omega
    refine scan_row l f s _ (q + 1) more (by omega) (by rw [from_add, h, List.drop_left]) (by omega) (fun x hx => hb x (by simp [hx])) (by omega) ?_
    rw [rowF, List.length_append, List.length_cons] at hst
    rw [show a + (frameL q b.data.toList).length + (rowF (q + 1) l).length = a + ((frameL q b.data.toList).length + (rowF (q + 1) l).length) by omega, show q + 1 + l.length = q + (l.length + 1) by omega]
    exact hst
theorem openR_end (s : ByteArray) (a : Nat) (h : a = s.size) : openR s a = (0, ⟨#[]⟩, 0, 2) := by
  have := from_nil s a (by omega)
  unfold openR
  rw [if_pos ⟨by omega, by omega⟩, Int.toNat_natCast, this, if_neg (by simp [markL])]; rfl
/-- A row of segments that is cut: those are seen that are whole. -/
theorem scan_cut (l : List ByteArray) (s : ByteArray) (c k : Nat) (h : s.data.toList = (rowF 0 l).take c) (hc : c ≤ (rowF 0 l).length) (hl : l.length ≤ 1000000) (hb : ∀ b ∈ l, b.size ≤ 4096) (hk : k ≤ l.length)
    (h1 : (rowF 0 (l.take k)).length ≤ c) (h2 : k = l.length ∨ c < (rowF 0 (l.take (k + 1))).length) : scanR s 0 = seen 0 0 (l.take k) := by
  have hsz := congrArg List.length h
  rw [← size_list, List.length_take] at hsz
  have hsplit : rowF 0 l = rowF 0 (l.take k) ++ rowF k (l.drop k) := by
    conv => lhs; rw [← List.take_append_drop k l]
    rw [rowF_app, List.length_take, show min k l.length = k by omega, Nat.zero_add]
  have hfr : from_ s 0 = rowF 0 (l.take k) ++ (rowF k (l.drop k)).take (c - (rowF 0 (l.take k)).length) := by
    unfold from_; rw [List.drop_zero, h, hsplit, List.take_append, List.take_of_length_le (by omega)]
  have hlk : (l.take k).length = k := by rw [List.length_take]; omega
  have hmin : (l.take k).length ≤ (rowF 0 (l.take k)).length := by
    have aux : ∀ (m : List ByteArray) (q : Nat), m.length ≤ (rowF q m).length := fun m => by
      induction m with
      | nil => intro q; simp [rowF]
      | cons x m ih => intro q; have := ih (q + 1); rw [rowF, List.length_append, frameL_len, List.length_cons]; omega
    exact aux _ _
  unfold scanR
  refine scan_row (l.take k) _ s 0 0 _ (by omega) hfr (by omega) (fun b hx => hb b (List.mem_of_mem_take hx)) (by omega) ?_
  rw [Nat.zero_add]
  intro ⟨he, _⟩
  have hfa : from_ s (rowF 0 (l.take k)).length = (rowF k (l.drop k)).take (c - (rowF 0 (l.take k)).length) := by
    have := from_add s 0 (rowF 0 (l.take k)).length
    rw [Nat.zero_add] at this
    rw [this, hfr, List.drop_left]
  by_cases hkl : k = l.length
  · have : c = (rowF 0 (l.take k)).length := by rw [hkl, List.take_length] at h1 ⊢; omega
    rw [openR_end s _ (by omega)] at he; simp at he
  · have hkl' : k < l.length := by omega
    have h2' : c < (rowF 0 (l.take (k + 1))).length := by rcases h2 with h2 | h2; exact absurd h2 hkl; exact h2
    rw [rowF_take l 0 k hkl', List.length_append, Nat.zero_add] at h2'
    rw [List.drop_eq_getElem_cons hkl', rowF, List.take_append_of_le_length (by omega)] at hfa
    have := openR_cut s (rowF 0 (l.take k)).length k (c - (rowF 0 (l.take k)).length) l[k].data.toList (by omega) (by omega) (by rw [← size_list]; exact hb _ (List.getElem_mem hkl')) (by omega) hfa
    rw [this] at he; simp at he
end Go.Proofs.Ytnpmapmdeldnmaa
