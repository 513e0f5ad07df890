/-
  A heap of four below each, as a list: what goes up, what goes down, what is taken out. No program is named here.
-/
import Init.Data.List.Perm
import Init.Omega
set_option linter.unusedVariables false
namespace Go.Proofs.Ytljdckipnbdknaa
structure It where
  at_ : Int
  seq : Int
  id : Int
deriving DecidableEq, Inhabited
/-- x wakes ahead of y. -/
def ltI (x y : It) : Bool := decide (x.at_ < y.at_ ∨ x.at_ = y.at_ ∧ x.seq < y.seq)
def leI (x y : It) : Prop := ltI y x = false
theorem leI_iff {x y : It} : leI x y ↔ x.at_ < y.at_ ∨ x.at_ = y.at_ ∧ x.seq ≤ y.seq := by unfold leI ltI; simp only [decide_eq_false_iff_not]; omega
theorem ltI_iff {x y : It} : ltI x y = true ↔ x.at_ < y.at_ ∨ x.at_ = y.at_ ∧ x.seq < y.seq := by unfold ltI; simp
theorem leI.trans {x y z : It} (h : leI x y) (k : leI y z) : leI x z := by rw [leI_iff] at *; omega
theorem leI.refl (x : It) : leI x x := by rw [leI_iff]; omega
theorem leI.of_lt {x y : It} (h : ltI x y = true) : leI x y := by rw [leI_iff]; rw [ltI_iff] at h; omega
/-- The one at a place. -/
def gI (l : List It) (i : Nat) : It := l.getD i default
theorem gI_of {l : List It} {i : Nat} (h : i < l.length) : gI l i = l[i] := by unfold gI; rw [List.getD_eq_getElem?_getD, List.getElem?_eq_getElem h]; rfl
theorem gI_get {l : List It} {i : Nat} (h : i < l.length) : l[i]? = some (gI l i) := by rw [gI_of h, List.getElem?_eq_getElem h]
theorem gI_set {l : List It} {i : Nat} (x : It) (k : Nat) (h : i < l.length) : gI (l.set i x) k = if k = i then x else gI l k := by
  unfold gI
  rw [List.getD_eq_getElem?_getD, List.getElem?_set]
  by_cases e : i = k
  · subst e; simp [h]
  · rw [if_neg e, if_neg (by omega)]; rw [List.getD_eq_getElem?_getD]
/-- Two change places. -/
def swI (l : List It) (i j : Nat) : List It := (l.set i (gI l j)).set j (gI l i)
theorem swI_len (l : List It) (i j : Nat) : (swI l i j).length = l.length := by simp [swI]
theorem gI_sw {l : List It} {i j : Nat} (hi : i < l.length) (hj : j < l.length) (k : Nat) : gI (swI l i j) k = if k = j then gI l i else if k = i then gI l j else gI l k := by
  unfold swI; rw [gI_set _ _ (by simpa using hj)]; split
  · rfl
  · rw [gI_set _ _ hi]
theorem swI_perm {l : List It} {i j : Nat} (hi : i < l.length) (hj : j < l.length) : (swI l i j).Perm l := by
  by_cases e : i = j
  · subst e
    have : swI l i i = l := by
      apply List.ext_getElem (by simp [swI])
      intro k h1 h2
      have := gI_sw hi hi k
      rw [gI_of h1, gI_of h2] at this
      rw [this]; split
      · subst_vars; rw [gI_of h2]
      · rfl
    rw [this]
  · have key : ∀ (l : List It) (i j : Nat), i < j → j < l.length → ((l.set i (gI l j)).set j (gI l i)).Perm l := by
      intro l
      induction l with
      | nil => intro i j _ h; simp at h
      | cons x l ih =>
        intro i j hij hj
        obtain ⟨j, rfl⟩ : ∃ k, j = k + 1 := ⟨j - 1, by omega⟩
        simp at hj
        cases i with
        | zero =>
          have e1 : gI (x :: l) (j + 1) = l[j] := by rw [gI_of (by simp; omega)]; rfl
          have e2 : gI (x :: l) 0 = x := rfl
          rw [e1, e2]
          simp only [List.set_cons_zero, List.set_cons_succ]
          have h1 : (l[j] :: l.set j x).Perm (x :: l) := by
            have a1 : (x :: l.eraseIdx j).Perm (l.set j x) := by
              clear ih e1 e2 hij
              induction l generalizing j with
              | nil => simp at hj
              | cons y l ih =>
                cases j with
                | zero => simp
                | succ j =>
                  simp only [List.eraseIdx_cons_succ, List.set_cons_succ]
                  exact (List.Perm.swap y x _).trans ((ih j (by simpa using hj)).cons y)
            have a2 : l.Perm (l[j] :: l.eraseIdx j) := by
              clear ih e1 e2 hij a1
              induction l generalizing j with
              | nil => simp at hj
              | cons y l ih =>
                cases j with
                | zero => simp
                | succ j =>
                  simp only [List.eraseIdx_cons_succ, List.getElem_cons_succ]
                  exact ((ih j (by simpa using hj)).cons y).trans (.swap _ _ _)
            exact ((a1.symm.cons _).trans (.swap _ _ _)).trans (a2.symm.cons x)
          exact h1
        | succ i =>
          have e1 : gI (x :: l) (j + 1) = gI l j := rfl
          have e2 : gI (x :: l) (i + 1) = gI l i := rfl
          rw [e1, e2]
          simp only [List.set_cons_succ]
          exact (ih i j (by omega) hj).cons x
    by_cases h : i < j
    · exact key l i j h hj
    · have := key l j i (by omega) hi
      unfold swI
      rw [List.set_comm _ _ e]; exact this
def HeapI (l : List It) : Prop := ∀ i, 0 < i → i < l.length → leI (gI l ((i - 1) / 4)) (gI l i)
theorem HeapI.least {l : List It} (h : HeapI l) : ∀ i, i < l.length → leI (gI l 0) (gI l i) := by
  intro i
  induction i using Nat.strongRecOn with
  | _ i ih =>
    intro hi
    by_cases e : i = 0
    · subst e; exact .refl _
    · exact (ih ((i - 1) / 4) (by omega) (by omega)).trans (h i (by omega) hi)
/-- It goes up. -/
def riseF (l : List It) (k : Nat) : List It := if h : 0 < k ∧ ltI (gI l k) (gI l ((k - 1) / 4)) = true then riseF (swI l k ((k - 1) / 4)) ((k - 1) / 4) else l
termination_by k
decreasing_by omega
theorem riseF_stop {l : List It} {k : Nat} (h : ¬ (0 < k ∧ ltI (gI l k) (gI l ((k - 1) / 4)) = true)) : riseF l k = l := by rw [riseF, dif_neg h]
theorem riseF_go {l : List It} {k : Nat} (h0 : 0 < k) (h1 : ltI (gI l k) (gI l ((k - 1) / 4)) = true) : riseF l k = riseF (swI l k ((k - 1) / 4)) ((k - 1) / 4) := by rw [riseF, dif_pos ⟨h0, h1⟩]
theorem riseF_perm : ∀ (k : Nat) (l : List It), k < l.length → (riseF l k).Perm l := by
  intro k
  induction k using Nat.strongRecOn with
  | _ k ih =>
    intro l hk
    by_cases h : 0 < k ∧ ltI (gI l k) (gI l ((k - 1) / 4)) = true
    · rw [riseF_go h.1 h.2]
      exact (ih ((k - 1) / 4) (by omega) _ (by rw [swI_len]; omega)).trans (swI_perm hk (by omega))
    · rw [riseF_stop h]
theorem riseF_len {k : Nat} {l : List It} (hk : k < l.length) : (riseF l k).length = l.length := (riseF_perm k l hk).length_eq
def UpOK (l : List It) (k : Nat) : Prop := (∀ i, 0 < i → i < l.length → i ≠ k → leI (gI l ((i - 1) / 4)) (gI l i)) ∧ ∀ i, 0 < i → i < l.length → ((i - 1) / 4) = k → 0 < k → leI (gI l ((k - 1) / 4)) (gI l i)
theorem rise_heap : ∀ (k : Nat) (l : List It), k < l.length → UpOK l k → HeapI (riseF l k) := by
  intro k
  induction k using Nat.strongRecOn with
  | _ k ih =>
    intro l hk ⟨h1, h2⟩
    by_cases h : 0 < k ∧ ltI (gI l k) (gI l ((k - 1) / 4)) = true
    · rw [riseF_go h.1 h.2]
      have hp : ((k - 1) / 4) < k := by omega
      refine ih ((k - 1) / 4) hp _ (by rw [swI_len]; omega) ⟨fun i hi0 hi hne => ?_, fun i hi0 hi hpi h0 => ?_⟩
      · rw [swI_len] at hi
        rw [gI_sw hk (by omega), gI_sw hk (by omega)]
        by_cases e : i = k
        · subst e
          rw [if_pos rfl, if_neg (by omega), if_pos rfl]
          exact .of_lt h.2
        · rw [if_neg (show ¬ i = ((k - 1) / 4) from hne), if_neg e]
          by_cases e1 : ((i - 1) / 4) = ((k - 1) / 4)
          · rw [if_pos e1]
            have := h1 i hi0 hi e
            rw [e1] at this
            exact (leI.of_lt h.2).trans this
          · rw [if_neg e1]
            by_cases e2 : ((i - 1) / 4) = k
            · rw [if_pos e2]; exact h2 i hi0 hi e2 h.1
            · rw [if_neg e2]; exact h1 i hi0 hi e
      · rw [swI_len] at hi
        rw [gI_sw hk (by omega), gI_sw hk (by omega)]
        rw [if_neg (show ¬ (((k - 1) / 4 - 1) / 4) = ((k - 1) / 4) by omega), if_neg (show ¬ (((k - 1) / 4 - 1) / 4) = k by omega)]
        have hpp := h1 ((k - 1) / 4) h0 (by omega) (by omega)
        by_cases e : i = k
        · subst e; rw [if_neg (by omega), if_pos rfl]; exact hpp
        · rw [if_neg (show ¬ i = ((k - 1) / 4) by omega), if_neg e]
          have := h1 i hi0 hi e
          rw [hpi] at this
          exact hpp.trans this
    · rw [riseF_stop h]
      intro i hi0 hi
      by_cases e : i = k
      · subst e
        have : ¬ ltI (gI l i) (gI l ((i - 1) / 4)) = true := fun hc => h ⟨hi0, hc⟩
        unfold leI; simpa using this
      · exact h1 i hi0 hi e
/-- The earliest of a place and the first j below it. -/
def firstF (l : List It) (k : Nat) : Nat → Nat
  | 0 => k
  | j + 1 => if k * 4 + 1 + j < l.length ∧ ltI (gI l (k * 4 + 1 + j)) (gI l (firstF l k j)) = true then k * 4 + 1 + j else firstF l k j
theorem firstF_in (l : List It) (k : Nat) : ∀ j, firstF l k j = k ∨ (k * 4 + 1 ≤ firstF l k j ∧ firstF l k j < k * 4 + 1 + j ∧ firstF l k j < l.length)
  | 0 => .inl rfl
  | j + 1 => by
    rw [firstF]; split
    · right; omega
    · rcases firstF_in l k j with h | h
      · exact .inl h
      · right; omega
theorem firstF_le (l : List It) (k : Nat) : ∀ j, leI (gI l (firstF l k j)) (gI l k) ∧ ∀ i, k * 4 + 1 ≤ i → i < k * 4 + 1 + j → i < l.length → leI (gI l (firstF l k j)) (gI l i)
  | 0 => ⟨.refl _, fun i h1 h2 => by omega⟩
  | j + 1 => by
    obtain ⟨h1, h2⟩ := firstF_le l k j
    rw [firstF]; split
    · rename_i h
      have hlt := leI.of_lt h.2
      refine ⟨hlt.trans h1, fun i hi1 hi2 hi3 => ?_⟩
      by_cases e : i = k * 4 + 1 + j
      · subst e; exact .refl _
      · exact hlt.trans (h2 i hi1 (by omega) hi3)
    · rename_i h
      refine ⟨h1, fun i hi1 hi2 hi3 => ?_⟩
      by_cases e : i = k * 4 + 1 + j
      · subst e
        unfold leI
        cases hc : ltI (gI l (k * 4 + 1 + j)) (gI l (firstF l k j)) with
        | false => rfl
        | true => exact absurd ⟨hi3, hc⟩ h
      · exact h2 i hi1 (by omega) hi3
/-- It goes down. -/
def sinkF (l : List It) (k : Nat) : List It := if h : k < firstF l k 4 ∧ firstF l k 4 < l.length then sinkF (swI l k (firstF l k 4)) (firstF l k 4) else l
termination_by l.length - k
decreasing_by rw [swI_len]; omega
theorem sinkF_stop {l : List It} {k : Nat} (h : firstF l k 4 = k) : sinkF l k = l := by rw [sinkF, dif_neg (by omega)]
theorem sinkF_go {l : List It} {k : Nat} (h : firstF l k 4 ≠ k) : sinkF l k = sinkF (swI l k (firstF l k 4)) (firstF l k 4) := by
  rw [sinkF, dif_pos (by rcases firstF_in l k 4 with e | e; exact absurd e h; omega)]
theorem sinkF_perm : ∀ (m : Nat) (l : List It) (k : Nat), l.length - k = m → k < l.length → (sinkF l k).Perm l := by
  intro m
  induction m using Nat.strongRecOn with
  | _ m ih =>
    intro l k hm hk
    by_cases h : firstF l k 4 = k
    · rw [sinkF_stop h]
    · rw [sinkF_go h]
      have hf : k < firstF l k 4 ∧ firstF l k 4 < l.length := by rcases firstF_in l k 4 with e | e; exact absurd e h; omega
      exact (ih (l.length - firstF l k 4) (by omega) _ _ (by rw [swI_len]) (by rw [swI_len]; omega)).trans (swI_perm hk hf.2)
theorem sinkF_len {k : Nat} {l : List It} (hk : k < l.length) : (sinkF l k).length = l.length := (sinkF_perm _ l k rfl hk).length_eq
def DnOK (l : List It) (k : Nat) : Prop := (∀ i, 0 < i → i < l.length → ((i - 1) / 4) ≠ k → leI (gI l ((i - 1) / 4)) (gI l i)) ∧ ∀ i, 0 < i → i < l.length → ((i - 1) / 4) = k → 0 < k → leI (gI l ((k - 1) / 4)) (gI l i)
theorem sink_heap : ∀ (m : Nat) (l : List It) (k : Nat), l.length - k = m → k < l.length → DnOK l k → HeapI (sinkF l k) := by
  intro m
  induction m using Nat.strongRecOn with
  | _ m ih =>
    intro l k hm hk ⟨h1, h2⟩
    obtain ⟨g1, g2⟩ := firstF_le l k 4
    have hin := firstF_in l k 4
    by_cases h : firstF l k 4 = k
    · rw [sinkF_stop h]
      rw [h] at g2
      intro i hi0 hi
      by_cases e : ((i - 1) / 4) = k
      · rw [e]; exact g2 i (by omega) (by omega) hi
      · exact h1 i hi0 hi e
    · rw [sinkF_go h]
      have hf : k * 4 + 1 ≤ firstF l k 4 ∧ firstF l k 4 < k * 4 + 5 ∧ firstF l k 4 < l.length := by rcases hin with e | e; exact absurd e h; omega
      clear hin
      generalize firstF l k 4 = f at *
      obtain ⟨f1, f2, f3⟩ := hf
      have hpf : ((f - 1) / 4) = k := by omega
      refine ih (l.length - f) (by omega) _ f (by rw [swI_len]) (by rw [swI_len]; omega) ⟨fun i hi0 hi hne => ?_, fun i hi0 hi hpi h0 => ?_⟩
      · rw [swI_len] at hi
        rw [gI_sw hk f3, gI_sw hk f3]
        rw [if_neg hne]
        by_cases e : i = f
        · subst e; rw [if_pos rfl, if_pos hpf]; exact g1
        · rw [if_neg e]
          by_cases e1 : ((i - 1) / 4) = k
          · rw [if_pos e1, if_neg (by omega)]; exact g2 i (by omega) (by omega) hi
          · rw [if_neg e1]
            by_cases e2 : i = k
            · subst e2; rw [if_pos rfl]; exact h2 f (by omega) f3 hpf hi0
            · rw [if_neg e2]; exact h1 i hi0 hi e1
      · rw [swI_len] at hi
        rw [gI_sw hk f3, gI_sw hk f3, hpf, if_neg (by omega), if_pos rfl, if_neg (by omega), if_neg (by omega)]
        have := h1 i hi0 hi (by omega)
        rw [hpi] at this; exact this
def BothOK (l : List It) (p : Nat) : Prop := (∀ i, 0 < i → i < l.length → i ≠ p → ((i - 1) / 4) ≠ p → leI (gI l ((i - 1) / 4)) (gI l i)) ∧ ∀ i, 0 < i → i < l.length → ((i - 1) / 4) = p → 0 < p → leI (gI l ((p - 1) / 4)) (gI l i)
theorem both_heap {l : List It} {p : Nat} (hp : p < l.length) (h : BothOK l p) : HeapI (sinkF (riseF l p) p) := by
  obtain ⟨h1, h2⟩ := h
  by_cases hc : 0 < p ∧ ltI (gI l p) (gI l ((p - 1) / 4)) = true
  · have hu : UpOK l p := ⟨fun i hi0 hi hne => by
      by_cases e : ((i - 1) / 4) = p
      · rw [e]; exact (leI.of_lt hc.2).trans (h2 i hi0 hi e hc.1)
      · exact h1 i hi0 hi hne e, h2⟩
    have hh := rise_heap p l hp hu
    have hl := riseF_len hp
    exact sink_heap _ _ p rfl (by omega) ⟨fun i hi0 hi _ => hh i hi0 hi, fun i hi0 hi hpi h0 => (hh p h0 (by omega)).trans (by have := hh i hi0 hi; rw [hpi] at this; exact this)⟩
  · rw [riseF_stop hc]
    refine sink_heap _ _ p rfl hp ⟨fun i hi0 hi hne => ?_, h2⟩
    by_cases e : i = p
    · subst e
      have : ¬ ltI (gI l i) (gI l ((i - 1) / 4)) = true := fun hk => hc ⟨hi0, hk⟩
      unfold leI; simpa using this
    · exact h1 i hi0 hi e hne
/-- One goes in. -/
def pushF (l : List It) (x : It) : List It := riseF (l ++ [x]) l.length
theorem gI_app {l : List It} {x : It} {i : Nat} (h : i < l.length) : gI (l ++ [x]) i = gI l i := by unfold gI; rw [List.getD_eq_getElem?_getD, List.getElem?_append_left h, List.getD_eq_getElem?_getD]
theorem push_heap {l : List It} {x : It} (h : HeapI l) : HeapI (pushF l x) := by
  refine rise_heap _ _ (by simp) ⟨fun i hi0 hi hne => ?_, fun i hi0 hi hpi h0 => ?_⟩
  · simp at hi
    rw [gI_app (by omega), gI_app (by omega)]; exact h i hi0 (by omega)
  · simp at hi; omega
theorem push_perm (l : List It) (x : It) : (pushF l x).Perm (x :: l) := (riseF_perm _ _ (by simp)).trans (by simp)
/-- One goes out. -/
def remF (l : List It) (p : Nat) : List It := if p = l.length - 1 then l.take (l.length - 1) else sinkF (riseF ((swI l p (l.length - 1)).take (l.length - 1)) p) p
theorem gI_take {l : List It} {n i : Nat} (h : i < n) : gI (l.take n) i = gI l i := by
  unfold gI; rw [List.getD_eq_getElem?_getD, List.getElem?_take, if_pos h, List.getD_eq_getElem?_getD]
theorem rem_heap {l : List It} {p : Nat} (hp : p < l.length) (h : HeapI l) : HeapI (remF l p) := by
  unfold remF
  split
  · intro i hi0 hi
    simp at hi
    rw [gI_take (by omega), gI_take (by omega)]; exact h i hi0 (by omega)
  · rename_i hne
    refine both_heap (by simp [swI_len]; omega) ⟨fun i hi0 hi h1 h2 => ?_, fun i hi0 hi h1 h2 => ?_⟩
    · simp [swI_len] at hi
      rw [gI_take (by omega), gI_take (by omega), gI_sw hp (by omega), gI_sw hp (by omega), if_neg (by omega), if_neg h2, if_neg (by omega), if_neg h1]
      exact h i hi0 (by omega)
    · simp [swI_len] at hi
      rw [gI_take (by omega), gI_take (by omega), gI_sw hp (by omega), gI_sw hp (by omega), if_neg (by omega), if_neg (by omega), if_neg (by omega), if_neg (by omega)]
      have k1 := h p h2 (by omega)
      have k2 := h i hi0 (by omega)
      rw [h1] at k2
      exact k1.trans k2
theorem take_last (l : List It) (h : 0 < l.length) : l = l.take (l.length - 1) ++ [gI l (l.length - 1)] := by
  conv => lhs; rw [← List.take_append_drop (l.length - 1) l]
  congr 1
  rw [gI_of (by omega), List.drop_eq_getElem_cons (by omega), List.drop_of_length_le (by omega)]
theorem rem_perm {l : List It} {p : Nat} (hp : p < l.length) : l.Perm (gI l p :: remF l p) := by
  unfold remF
  split
  · rename_i e
    have := take_last l (by omega)
    conv => lhs; rw [this]
    rw [← e]
    simp
  · rename_i hne
    have hl : ((swI l p (l.length - 1)).take (l.length - 1)).length = l.length - 1 := by simp [swI_len]
    have h0 := riseF_len (l := (swI l p (l.length - 1)).take (l.length - 1)) (k := p) (by omega)
    have h1 := (sinkF_perm _ (riseF ((swI l p (l.length - 1)).take (l.length - 1)) p) p rfl (by omega)).trans (riseF_perm p _ (by omega))
    have h2 := take_last (swI l p (l.length - 1)) (by rw [swI_len]; omega)
    rw [swI_len, gI_sw hp (by omega), if_pos rfl] at h2
    have h3 := swI_perm hp (show l.length - 1 < l.length by omega)
    rw [h2] at h3
    exact (h3.symm.trans (by simp)).trans (h1.symm.cons _)
theorem remF_len {l : List It} {p : Nat} (hp : p < l.length) : (remF l p).length = l.length - 1 := by
  have := (rem_perm hp).length_eq; simp at this; omega
theorem pushF_len (l : List It) (x : It) : (pushF l x).length = l.length + 1 := by have := (push_perm l x).length_eq; simpa using this
end Go.Proofs.Ytljdckipnbdknaa
