/-
  Pieces of a text, and numbers by tens: plain lists of bytes. No program is named here.
-/
import Derived.Lib.AppendIntMem
import Derived.Lib.ParseIntBTie
import Derived.Lib.SplitLaws
import Derived.Lib.Strings
open Go
set_option linter.unusedVariables false
set_option linter.unusedSimpArgs false
namespace Go.Proofs.YtdeilfnfpgjnnaaDoor
abbrev By := List UInt8
/-- The pieces of a text between bytes c. -/
def spl (c : UInt8) : By → List By
  | [] => [[]]
  | x :: l => if x = c then [] :: spl c l else match spl c l with
    | [] => [[x]]
    | p :: ps => (x :: p) :: ps
theorem spl_ne (c : UInt8) : ∀ l : By, spl c l ≠ []
  | [] => by simp [spl]
  | x :: l => by
    unfold spl
    split
    · simp
    · split <;> simp
theorem spl_eq (c : UInt8) (l : By) : spl c (c :: l) = [] :: spl c l := by rw [spl, if_pos rfl]
theorem spl_cons {c x : UInt8} {l p : By} {ps : List By} (h : x ≠ c) (e : spl c l = p :: ps) : spl c (x :: l) = (x :: p) :: ps := by rw [spl, if_neg h, e]
theorem spl_miss (c : UInt8) : ∀ l : By, c ∉ l → spl c l = [l]
  | [], _ => rfl
  | x :: l, h => by
    have h1 : x ≠ c := fun e => h (by simp [e])
    have h2 : c ∉ l := fun e => h (by simp [e])
    exact spl_cons h1 (spl_miss c l h2)
theorem spl_hit (c : UInt8) : ∀ (a b : By), c ∉ a → spl c (a ++ c :: b) = a :: spl c b
  | [], b, _ => spl_eq c b
  | x :: a, b, h => by
    have h1 : x ≠ c := fun e => h (by simp [e])
    have h2 : c ∉ a := fun e => h (by simp [e])
    exact spl_cons h1 (spl_hit c a b h2)
theorem spl_lines (c : UInt8) : ∀ ls : List By, (∀ l ∈ ls, c ∉ l) → spl c (ls.flatMap (· ++ [c])) = ls ++ [[]]
  | [], _ => rfl
  | l :: ls, h => by
    rw [List.flatMap_cons, List.append_assoc, List.singleton_append, spl_hit c l _ (h l (by simp)), spl_lines c ls (fun x hx => h x (by simp [hx]))]
    rfl
theorem spl_words (c : UInt8) (w : By) : ∀ ws : List By, c ∉ w → (∀ x ∈ ws, c ∉ x) → spl c (w ++ ws.flatMap (c :: ·)) = w :: ws
  | [], h, _ => by rw [List.flatMap_nil, List.append_nil]; exact spl_miss c w h
  | x :: ws, h, hx => by
    rw [List.flatMap_cons, List.cons_append, spl_hit c w _ h, spl_words c x ws (hx x (by simp)) (fun y hy => hx y (by simp [hy]))]
theorem spl_rep (c : UInt8) (s : By) : ∀ n : Nat, spl c (List.replicate n c ++ s) = List.replicate n [] ++ spl c s
  | 0 => rfl
  | n + 1 => by
    rw [List.replicate_succ, List.cons_append, spl_eq, spl_rep c s n]
    rfl
/-- Pieces and what stands between are as long as the text. -/
theorem spl_len (c : UInt8) : ∀ l : By, ((spl c l).map (fun p => p.length + 1)).sum = l.length + 1
  | [] => rfl
  | x :: l => by
    have ih := spl_len c l
    unfold spl
    split
    · simp only [List.map_cons, List.sum_cons, ih, List.length_cons, List.length_nil]; omega
    · cases hp : spl c l with
      | nil => exact absurd hp (spl_ne c l)
      | cons p ps =>
        rw [hp] at ih
        simp only [List.map_cons, List.sum_cons, List.length_cons] at ih ⊢
        omega
theorem part_at (c : UInt8) : ∀ l : By, c ∈ l → ∃ a b, l = a ++ c :: b ∧ c ∉ a
  | [], h => by simp at h
  | x :: l, h => by
    by_cases e : x = c
    · exact ⟨[], l, by simp [e], by simp⟩
    · obtain ⟨a, b, rfl, ha⟩ := part_at c l (by simpa [Ne.symm e] using h)
      exact ⟨x :: a, b, rfl, by simp [Ne.symm e, ha]⟩
theorem index_miss (c : UInt8) : ∀ l : By, c ∉ l → Lib.index l [c] = -1
  | [], _ => rfl
  | x :: l, h => by
    have h1 : c ≠ x := fun e => h (by simp [e])
    have h2 : c ∉ l := fun e => h (by simp [e])
    unfold Lib.index
    rw [index_miss c l h2]
    simp [List.isPrefixOf, h1]
theorem index_at (c : UInt8) (b : By) : ∀ a : By, c ∉ a → Lib.index (a ++ c :: b) [c] = a.length
  | [], _ => by simp [Lib.index, List.isPrefixOf]
  | x :: a, h => by
    have h1 : c ≠ x := fun e => h (by simp [e])
    have h2 : c ∉ a := fun e => h (by simp [e])
    rw [List.cons_append]
    unfold Lib.index
    rw [index_at c b a h2]
    have e : ((a.length : Int) == -1) = false := by simp
    simp [List.isPrefixOf, h1]
theorem splitK_spl (c : UInt8) : ∀ (n : Nat) (l : By), l.length ≤ n → Lib.splitK [c] 0 (l.count c) l = spl c l
  | n, l, hn => by
    by_cases h : c ∈ l
    · obtain ⟨a, b, rfl, ha⟩ := part_at c l h
      match n, hn with
      | 0, hn => simp at hn
      | n + 1, hn =>
        have e : (a ++ c :: b).count c = b.count c + 1 := by rw [List.count_append, List.count_eq_zero_of_not_mem ha, List.count_cons_self]; omega
        rw [e, Lib.splitK, index_at c b a ha, if_neg (by simp), spl_hit c a b ha]
        have e1 : ((a.length : Int)).toNat = a.length := by omega
        rw [e1, Nat.add_zero, List.take_left, List.length_singleton]
        have e2 : (a ++ c :: b).drop (a.length + 1) = b := by rw [← List.drop_drop]; simp
        rw [e2, splitK_spl c n b (by simp at hn; omega)]
    · rw [List.count_eq_zero_of_not_mem h, spl_miss c l h]
      rfl
/-- What strings.Split answers. -/
theorem splitB_spl (c : UInt8) (s : ByteArray) : (Lib.splitB ⟨#[c]⟩ 0 (Lib.countB s ⟨#[c]⟩) s) = (spl c s.data.toList).map (fun l => (⟨l.toArray⟩ : ByteArray)) := by
  have h := Lib.splitB_data ⟨#[c]⟩ 0 (Lib.countB s ⟨#[c]⟩) s
  have e : Lib.countB s ⟨#[c]⟩ = s.data.toList.count c := Lib.count_one c s.data.toList
  rw [e] at h ⊢
  have h2 := congrArg (List.map (fun l : By => (⟨l.toArray⟩ : ByteArray))) h
  rw [List.map_map] at h2
  have e3 : ((fun l : By => (⟨l.toArray⟩ : ByteArray)) ∘ fun x : ByteArray => x.data.toList) = id := by
    funext x
    rfl
  rw [e3, List.map_id] at h2
  rw [h2]
  congr 1
  exact splitK_spl c _ _ (Nat.le_refl _)
/-- A digit. -/
def dig (c : UInt8) : Bool := decide (48 ≤ c.toNat) && decide (c.toNat ≤ 57)
/-- Behind a sign. -/
def sgn (l : By) : By := match l with
  | 45 :: r => r
  | l => l
theorem sgn_trim (l : By) : Lib.trimPrefix l [45] = sgn l := by
  unfold Lib.trimPrefix Lib.hasPrefix
  match l with
  | [] => rfl
  | c :: r =>
    by_cases h : c = 45
    · subst h; simp [List.isPrefixOf, sgn]
    · have : sgn (c :: r) = c :: r := by unfold sgn; split <;> simp_all
      rw [this]
      simp [List.isPrefixOf, Ne.symm h]
/-- Has a word a number's form? -/
def frm2 (l : By) : Bool := match l with
  | [] => false
  | c :: r => !(c == 48) && (c :: r).all dig
def frm (l : By) : Bool := if l = [48] then true else frm2 (sgn l)
/-- What digits spell. -/
def mag (l : By) : Nat := l.foldl (fun a c => a * 10 + (c.toNat - 48)) 0
/-- A number's word: the number; the error's number. -/
def numM (l : By) : Int × Int := if frm l then (if l.head? = some 45 then (if mag l.tail ≤ 9223372036854775808 then (-(mag l.tail : Int), 0) else (0, 3)) else (if mag l < 9223372036854775808 then ((mag l : Int), 0) else (0, 3))) else (0, 1)
theorem numM_neg {r : By} (h : frm (45 :: r) = true) : numM (45 :: r) = if mag r ≤ 9223372036854775808 then (-(mag r : Int), 0) else (0, 3) := by unfold numM; rw [if_pos h]; rfl
theorem numM_pos {c : UInt8} {r : By} (h : frm (c :: r) = true) (hc : c ≠ 45) : numM (c :: r) = if mag (c :: r) < 9223372036854775808 then ((mag (c :: r) : Int), 0) else (0, 3) := by
  unfold numM
  rw [if_pos h, if_neg (by simpa using hc)]
theorem fold_le : ∀ (l : By) (a : Nat), a ≤ l.foldl (fun a c => a * 10 + (c.toNat - 48)) a
  | [], a => Nat.le_refl _
  | c :: l, a => by
    have := fold_le l (a * 10 + (c.toNat - 48))
    rw [List.foldl_cons]
    omega
theorem uint_digs : ∀ (l : By) (a : Nat), l.all dig = true → a < 18446744073709551616 → Lib.parseUint10 a l = if l.foldl (fun a c => a * 10 + (c.toNat - 48)) a < 18446744073709551616 then .ok (l.foldl (fun a c => a * 10 + (c.toNat - 48)) a) else .range
  | [], a, _, ha => by simp [Lib.parseUint10, ha]
  | c :: l, a, h, ha => by
    simp only [List.all_cons, Bool.and_eq_true, dig, decide_eq_true_eq] at h
    obtain ⟨hc, hl⟩ := h
    have hf := fold_le l (a * 10 + (c.toNat - 48))
    rw [List.foldl_cons]
    unfold Lib.parseUint10
    rw [if_pos hc]
    by_cases h1 : 1844674407370955162 ≤ a
    · rw [if_pos h1, if_neg (by omega)]
    · rw [if_neg h1]
      by_cases h2 : 18446744073709551616 ≤ a * 10 + (c.toNat - 48)
      · rw [if_pos h2, if_neg (by omega)]
      · rw [if_neg h2]
        exact uint_digs l _ hl (by omega)
theorem parse_frm (l : By) (h : frm l = true) : Lib.parseIntB 64 l = if (numM l).2 = 0 then .ok (numM l).1 else .range := by
  rw [Lib.parseIntB_64]
  have hf := h
  unfold frm frm2 at h
  by_cases h0 : l = [48]
  · subst h0; decide
  · rw [if_neg h0] at h
    match l, h with
    | [], h => simp [sgn] at h
    | c :: r, h =>
      by_cases hc : c = 45
      · subst hc
        rw [Lib.atoiAll_minus]
        simp only [sgn] at h
        match r, h with
        | d :: r, h =>
          simp only [Bool.and_eq_true] at h
          have e : Lib.parseMag (d :: r) = Lib.parseUint10 0 (d :: r) := by unfold Lib.parseMag; rw [if_neg (by simp)]
          rw [e, uint_digs _ _ h.2 (by omega), numM_neg hf]
          change Lib.signed (if mag (d :: r) < 18446744073709551616 then _ else _) = _
          have hm : (d :: r).foldl (fun a c => a * 10 + (c.toNat - 48)) 0 = mag (d :: r) := rfl
          rw [hm]
          obtain ⟨m, hm2⟩ : ∃ m, mag (d :: r) = m := ⟨_, rfl⟩
          rw [hm2]
          by_cases h1 : m ≤ 9223372036854775808
          · rw [if_pos h1, if_pos (by omega)]
            simp only [Lib.signed]
            rw [if_neg (by omega)]
            rfl
          · rw [if_neg h1]
            simp only [if_neg (show ¬ (3 : Int) = 0 by decide)]
            by_cases h2 : m < 18446744073709551616
            · rw [if_pos h2]; simp only [Lib.signed]; rw [if_pos (by omega)]
            · rw [if_neg h2]; rfl
      · have hs : sgn (c :: r) = c :: r := by unfold sgn; split <;> simp_all
        rw [hs] at h
        simp only [Bool.and_eq_true] at h
        have hd : dig c = true := by have := h.2; simp only [List.all_cons, Bool.and_eq_true] at this; exact this.1
        simp only [dig, Bool.and_eq_true, decide_eq_true_eq] at hd
        rw [Lib.atoiAll_plain c r (by omega) (by omega)]
        have e : Lib.parseMag (c :: r) = Lib.parseUint10 0 (c :: r) := by unfold Lib.parseMag; rw [if_neg (by simp)]
        rw [e, uint_digs _ _ h.2 (by omega), numM_pos hf hc]
        change Lib.signless (if mag (c :: r) < 18446744073709551616 then _ else _) = _
        have hm : (c :: r).foldl (fun a c => a * 10 + (c.toNat - 48)) 0 = mag (c :: r) := rfl
        rw [hm]
        obtain ⟨m, hm2⟩ : ∃ m, mag (c :: r) = m := ⟨_, rfl⟩
        rw [hm2]
        by_cases h1 : m < 9223372036854775808
        · rw [if_pos h1, if_pos (by omega)]
          simp only [Lib.signless]
          rw [if_neg (by omega)]
          rfl
        · rw [if_neg h1]
          simp only [if_neg (show ¬ (3 : Int) = 0 by decide)]
          by_cases h2 : m < 18446744073709551616
          · rw [if_pos h2]; simp only [Lib.signless]; rw [if_pos (by omega)]
          · rw [if_neg h2]; rfl
/-- A number fits. -/
theorem numM_fits (l : By) : -9223372036854775808 ≤ (numM l).1 ∧ (numM l).1 ≤ 9223372036854775807 := by
  unfold numM
  split
  · split
    · split
      · constructor <;> simp only <;> omega
      · constructor <;> simp only <;> omega
    · split
      · constructor <;> simp only <;> omega
      · constructor <;> simp only <;> omega
  · constructor <;> simp only <;> omega
theorem toNat_ofNat_dig (d : Nat) (h : d < 10) : (UInt8.ofNat (48 + d)).toNat = 48 + d := by
  rw [UInt8.toNat_ofNat']; omega
theorem mag_snoc (l : By) (c : UInt8) : mag (l ++ [c]) = mag l * 10 + (c.toNat - 48) := by unfold mag; rw [List.foldl_append]; rfl
theorem decDigits_dig (n : Nat) : (Lib.decDigits n).all dig = true := by
  induction n using Nat.strongRecOn with
  | _ n ih =>
    rw [Lib.decDigits]
    split
    · rename_i h
      simp [dig, toNat_ofNat_dig n h]; omega
    · rename_i h
      rw [List.all_append, ih (n / 10) (by omega)]
      simp [dig, toNat_ofNat_dig (n % 10) (by omega)]; omega
theorem decDigits_mag (n : Nat) : mag (Lib.decDigits n) = n := by
  induction n using Nat.strongRecOn with
  | _ n ih =>
    rw [Lib.decDigits]
    split
    · rename_i h
      have := toNat_ofNat_dig n h
      unfold mag
      rw [List.foldl_cons, List.foldl_nil, this]
      omega
    · rename_i h
      rw [mag_snoc, ih (n / 10) (by omega), toNat_ofNat_dig (n % 10) (by omega)]; omega
theorem decDigits_head (n : Nat) (h : 1 ≤ n) : ∃ c r, Lib.decDigits n = c :: r ∧ c ≠ 48 := by
  induction n using Nat.strongRecOn with
  | _ n ih =>
    rw [Lib.decDigits]
    split
    · rename_i h1
      refine ⟨_, _, rfl, fun e => ?_⟩
      have := congrArg UInt8.toNat e
      rw [toNat_ofNat_dig n h1] at this
      simp at this
      omega
    · rename_i h1
      obtain ⟨c, r, e, hc⟩ := ih (n / 10) (by omega) (by omega)
      exact ⟨c, _, by rw [e]; rfl, hc⟩
theorem sgn_dig {c : UInt8} {r : By} (h : dig c = true) : sgn (c :: r) = c :: r ∧ c ≠ 45 := by
  have hc : c ≠ 45 := fun e => by subst e; simp [dig] at h
  refine ⟨?_, hc⟩
  unfold sgn; split <;> simp_all
/-- A number's word, read. -/
theorem numM_itoa (v : Int) (h0 : -9223372036854775808 ≤ v) (h1 : v ≤ 9223372036854775807) : numM (Lib.itoa v) = (v, 0) := by
  unfold Lib.itoa
  split
  · rename_i hn
    obtain ⟨c, r, e, hc⟩ := decDigits_head v.natAbs (by omega)
    have hd := decDigits_dig v.natAbs
    have hm := decDigits_mag v.natAbs
    have hf : frm (45 :: Lib.decDigits v.natAbs) = true := by
      unfold frm frm2
      rw [if_neg (by simp), show sgn (45 :: Lib.decDigits v.natAbs) = Lib.decDigits v.natAbs from rfl, e]
      rw [e] at hd
      simp [hc, hd]
    unfold numM
    rw [if_pos hf, if_pos (by rfl), List.tail_cons, hm, if_pos (by omega)]
    congr 1
    omega
  · rename_i hn
    have hd := decDigits_dig v.toNat
    have hm := decDigits_mag v.toNat
    by_cases hz : v = 0
    · subst hz
      have e0 : Lib.decDigits (Int.toNat 0) = [48] := by rw [Lib.decDigits]; rfl
      rw [e0]
      decide
    · obtain ⟨c, r, e, hc⟩ := decDigits_head v.toNat (by omega)
      rw [e] at hd hm ⊢
      have hcd : dig c = true := by simp only [List.all_cons, Bool.and_eq_true] at hd; exact hd.1
      obtain ⟨hs, h45⟩ := sgn_dig (r := r) hcd
      have hf : frm (c :: r) = true := by
        unfold frm frm2
        rw [if_neg (by intro e2; injection e2 with e2 _; exact hc e2), hs]
        simp only [Bool.and_eq_true]
        exact ⟨by simpa using hc, hd⟩
      unfold numM
      rw [if_pos hf, if_neg (by simpa using h45), hm, if_pos (by omega)]
      congr 1
      omega
theorem dig_eq {c : UInt8} (h : dig c = true) : UInt8.ofNat (48 + (c.toNat - 48)) = c := by
  simp only [dig, Bool.and_eq_true, decide_eq_true_eq] at h
  apply UInt8.toNat_inj.1
  rw [UInt8.toNat_ofNat']
  omega
theorem mag_pos {c : UInt8} {r : By} (h : dig c = true) (hc : c ≠ 48) : 1 ≤ mag (c :: r) := by
  simp only [dig, Bool.and_eq_true, decide_eq_true_eq] at h
  have h1 : c.toNat ≠ 48 := fun e => hc (UInt8.toNat_inj.1 e)
  have := fold_le r (0 * 10 + (c.toNat - 48))
  unfold mag
  rw [List.foldl_cons]
  omega
theorem snoc_rec {p : By → Prop} (h0 : p []) (h1 : ∀ l c, p l → p (l ++ [c])) : ∀ l : By, p l := fun l => by
  have : ∀ l : By, p l.reverse := fun l => by
    induction l with
    | nil => exact h0
    | cons c l ih => rw [List.reverse_cons]; exact h1 _ _ ih
  simpa using this l.reverse
theorem digits_mag (c : UInt8) (hc : c ≠ 48) (hd : dig c = true) (r : By) : r.all dig = true → Lib.decDigits (mag (c :: r)) = c :: r := by
  refine snoc_rec (p := fun r => r.all dig = true → Lib.decDigits (mag (c :: r)) = c :: r) ?_ ?_ r
  · intro _
    have : mag [c] = c.toNat - 48 := by simp [mag]
    have h2 := hd
    simp only [dig, Bool.and_eq_true, decide_eq_true_eq] at h2
    rw [this, Lib.decDigits, dif_pos (by omega), dig_eq hd]
  · intro l d ih h
    rw [List.all_append, Bool.and_eq_true] at h
    have h1 := mag_pos (r := l) hd hc
    have hdd : dig d = true := by simpa using h.2
    have h2 := hdd
    simp only [dig, Bool.and_eq_true, decide_eq_true_eq] at h2
    have e : mag (c :: (l ++ [d])) = mag (c :: l) * 10 + (d.toNat - 48) := mag_snoc (c :: l) d
    rw [e, Lib.decDigits, dif_neg (by omega)]
    have e1 : (mag (c :: l) * 10 + (d.toNat - 48)) / 10 = mag (c :: l) := by omega
    have e2 : (mag (c :: l) * 10 + (d.toNat - 48)) % 10 = d.toNat - 48 := by omega
    rw [e1, e2, ih h.1, dig_eq hdd]
    rfl
/-- A word that is a number's is that number's word. -/
theorem itoa_numM (l : By) (h : (numM l).2 = 0) : Lib.itoa (numM l).1 = l := by
  by_cases hf : frm l = true
  · have hf' := hf
    unfold frm frm2 at hf
    by_cases h0 : l = [48]
    · subst h0
      have e0 : numM [48] = (0, 0) := by decide
      rw [e0]
      unfold Lib.itoa
      rw [if_neg (by decide), Lib.decDigits]
      rfl
    · rw [if_neg h0] at hf
      match l, hf with
      | [], hf => simp [sgn] at hf
      | c :: r, hf =>
        by_cases hc : c = 45
        · subst hc
          simp only [sgn] at hf
          match r, hf with
          | d :: r, hf =>
            simp only [Bool.and_eq_true, List.all_cons] at hf
            have hp := mag_pos (r := r) hf.2.1 (by simpa using hf.1)
            rw [numM_neg hf'] at h ⊢
            by_cases hm : mag (d :: r) ≤ 9223372036854775808
            · rw [if_pos hm]
              unfold Lib.itoa
              simp only
              rw [if_pos (by omega)]
              have e : (-(mag (d :: r) : Int)).natAbs = mag (d :: r) := by omega
              rw [e, digits_mag d (by simpa using hf.1) hf.2.1 r hf.2.2]
            · rw [if_neg hm] at h; simp at h
        · have hs : sgn (c :: r) = c :: r := by unfold sgn; split <;> simp_all
          rw [hs] at hf
          simp only [Bool.and_eq_true, List.all_cons] at hf
          have hp := mag_pos (r := r) hf.2.1 (by simpa using hf.1)
          rw [numM_pos hf' hc] at h ⊢
          by_cases hm : mag (c :: r) < 9223372036854775808
          · rw [if_pos hm]
            unfold Lib.itoa
            simp only
            rw [if_neg (by omega)]
            have e : ((mag (c :: r) : Int)).toNat = mag (c :: r) := by omega
            rw [e, digits_mag c (by simpa using hf.1) hf.2.1 r hf.2.2]
          · rw [if_neg hm] at h; simp at h
  · unfold numM at h
    rw [if_neg hf] at h
    simp at h
theorem itoa_no (v : Int) (c : UInt8) (h : c = 32 ∨ c = 10) : c ∉ Lib.itoa v := by
  have hd : ∀ n, c ∉ Lib.decDigits n := fun n hc => by
    have := List.all_eq_true.1 (decDigits_dig n) c hc
    rcases h with rfl | rfl <;> simp [dig] at this
  unfold Lib.itoa
  split
  · intro hc
    rcases List.mem_cons.1 hc with e | e
    · rcases h with rfl | rfl <;> simp at e
    · exact hd _ e
  · exact hd _
end Go.Proofs.YtdeilfnfpgjnnaaDoor
