/-
  A heap and the document's row, held together: plain lemmas.
-/
import Derived.Test.YtljdckipnbdknaaWRef9b
import Derived.Test.YtljdckipnbdknaaWHeap6
open Go Go.RowKit
set_option linter.unusedVariables false
namespace Go.Proofs.Ytljdckipnbdknaa
theorem strict_eq {L : List It} (h : L.Pairwise fun x y => ltI x y = true) : ∀ a ∈ L, ∀ b ∈ L, leI a b → leI b a → a = b := by
  induction L with
  | nil => intro a ha; simp at ha
  | cons x L ih =>
    rw [List.pairwise_cons] at h
    intro a ha b hb h1 h2
    rw [leI_iff] at h1 h2
    rcases List.mem_cons.1 ha with ha1 | ha2
    · rcases List.mem_cons.1 hb with hb1 | hb2
      · rw [ha1, hb1]
      · have h3 := h.1 b hb2; rw [ltI_iff] at h3; rw [ha1] at h1 h2; omega
    · rcases List.mem_cons.1 hb with hb1 | hb2
      · have h3 := h.1 a ha2; rw [ltI_iff] at h3; rw [hb1] at h1 h2; omega
      · exact ih h.2 a ha2 b hb2 (by rw [leI_iff]; exact h1) (by rw [leI_iff]; exact h2)
/-- What is sorted, and has just these, is they. -/
theorem sorted_is {L K : List It} (h : L.Pairwise fun x y => ltI x y = true) (hp : K.Perm L) (hs : K.Pairwise leI) : K = L := by
  have hL : L.Pairwise leI := h.imp fun hxy => leI.of_lt hxy
  exact hp.eq_of_pairwise (fun a b ha hb h1 h2 => strict_eq h a (hp.subset ha) b hb h1 h2) hs hL
/-- A heap, and the row in order of the same ones. -/
structure PSt (l L : List It) (nx : Nat) : Prop where
  heap : HeapI l
  srt : L.Pairwise fun x y => ltI x y = true
  perm : L.Perm l
  seq : ∀ y ∈ L, y.seq < (nx : Int)
  nod : L.Pairwise fun x y => x.seq ≠ y.seq
theorem PSt.nil : PSt [] [] 0 := ⟨fun i _ hi => by simp at hi, List.Pairwise.nil, .nil, fun y hy => by simp at hy, List.Pairwise.nil⟩
theorem PSt.len {l L : List It} {nx : Nat} (h : PSt l L nx) : l.length = L.length := h.perm.length_eq.symm
/-- The first of the row is the heap's. -/
theorem PSt.first {l L : List It} {nx : Nat} (h : PSt l L nx) (hl : 0 < l.length) : gI l 0 = gI L 0 := by
  have hL : 0 < L.length := by rw [← h.len]; exact hl
  have m1 : gI L 0 ∈ L := by rw [gI_of hL]; exact List.getElem_mem _
  have m2 : gI l 0 ∈ l := by rw [gI_of hl]; exact List.getElem_mem _
  refine strict_eq h.srt _ (h.perm.symm.subset m2) _ m1 ?_ ?_
  · obtain ⟨i, hi, e⟩ := List.mem_iff_getElem.1 (h.perm.subset m1)
    have := h.heap.least i hi
    rw [gI_of hi, e] at this; exact this
  · obtain ⟨i, hi, e⟩ := List.mem_iff_getElem.1 (h.perm.symm.subset m2)
    by_cases h0 : i = 0
    · subst h0; rw [gI_of hL, e]; exact leI.refl _
    · have := List.pairwise_iff_getElem.1 h.srt 0 i hL hi (by omega)
      rw [gI_of hL, ← e]; exact leI.of_lt this
theorem pF_false {L : List It} {x : It} : ∀ i, i ≤ L.length → (pF L x i).2 = false → (pF L x i).1 = L.take i ∧ ∀ y ∈ L.take i, ¬ x.at_ < y.at_
  | 0, _, _ => by simp [pF]
  | i + 1, hi, h => by
    rw [pF] at h ⊢
    split at h
    · simp at h
    · rename_i hc
      rw [if_neg hc]
      obtain ⟨h1, h2⟩ := pF_false i (by omega) h
      have hc' : ¬ x.at_ < (gI L i).at_ := fun hx => hc ⟨h, hx⟩
      rw [List.take_succ_eq_append_getElem (by omega), ← gI_of (by omega)]
      refine ⟨by simp only; rw [h1], fun y hy => ?_⟩
      rcases List.mem_append.1 hy with hy | hy
      · exact h2 y hy
      · rw [List.mem_singleton] at hy; subst hy; exact hc'
theorem pF_true {L : List It} {x : It} (hs : L.Pairwise fun a b => ltI a b = true) (hx : ∀ y ∈ L, y.seq < x.seq) : ∀ i, i ≤ L.length → (pF L x i).2 = true →
    (pF L x i).1.Perm (x :: L.take i) ∧ ((pF L x i).1.Pairwise fun a b => ltI a b = true) ∧ ∀ k, i ≤ k → k < L.length → x.at_ < (gI L k).at_
  | 0, _, h => by simp [pF] at h
  | i + 1, hi, h => by
    have hiL : i < L.length := by omega
    have hsi : ∀ a ∈ L.take i, ltI a (gI L i) = true := fun a ha => by
      obtain ⟨j, hj, e⟩ := List.mem_iff_getElem.1 ha
      rw [List.length_take] at hj
      rw [List.getElem_take] at e
      have := List.pairwise_iff_getElem.1 hs j i (by omega) hiL (by omega)
      rw [gI_of hiL, ← e]; exact this
    have hup : ∀ k, i ≤ k → k < L.length → (gI L i).at_ ≤ (gI L k).at_ := fun k hk hkl => by
      by_cases e : k = i
      · subst e; omega
      · have := List.pairwise_iff_getElem.1 hs i k hiL hkl (by omega)
        rw [ltI_iff] at this
        rw [gI_of hiL, gI_of hkl]; omega
    rw [pF] at h ⊢
    split at h
    · rename_i hc
      rw [if_pos hc]
      obtain ⟨h1, h2⟩ := pF_false i (by omega) hc.1
      simp only
      rw [h1, List.take_succ_eq_append_getElem hiL, ← gI_of hiL]
      refine ⟨?_, ?_, fun k hk hkl => by have := hup k (by omega) hkl; have := hc.2; omega⟩
      · rw [List.append_assoc]; exact (List.perm_middle (l₁ := L.take i) (a := x) (l₂ := [gI L i]))
      · rw [List.append_assoc, List.pairwise_append]
        refine ⟨hs.sublist (List.take_sublist _ _), ?_, fun a ha b hb => ?_⟩
        · simp; rw [ltI_iff]; exact .inl hc.2
        · have haL := List.mem_of_mem_take ha
          rw [List.singleton_append, List.mem_cons, List.mem_singleton] at hb
          rcases hb with rfl | rfl
          · rw [ltI_iff]
            have := h2 a ha; have := hx a haL; omega
          · exact hsi a ha
    · rename_i hc
      rw [if_neg hc]
      obtain ⟨h1, h2, h3⟩ := pF_true hs hx i (by omega) h
      simp only
      rw [List.take_succ_eq_append_getElem hiL, ← gI_of hiL]
      refine ⟨?_, ?_, fun k hk hkl => h3 k (by omega) hkl⟩
      · exact (h1.append_right _)
      · rw [List.pairwise_append]
        refine ⟨h2, by simp, fun a ha b hb => ?_⟩
        rw [List.mem_singleton] at hb; subst hb
        rcases List.mem_cons.1 (h1.subset ha) with rfl | ha
        · rw [ltI_iff]; exact .inl (h3 i (Nat.le_refl _) hiL)
        · exact hsi a ha
theorem PSt.push {l L : List It} {nx : Nat} (h : PSt l L nx) (at_ id : Int) : PSt (pushF l ⟨at_, nx, id⟩) (xPush L ⟨at_, nx, id⟩) (nx + 1) := by
  have hx : ∀ y ∈ L, y.seq < (⟨at_, nx, id⟩ : It).seq := h.seq
  obtain ⟨hp, hs⟩ : (xPush L ⟨at_, nx, id⟩).Perm (⟨at_, nx, id⟩ :: L) ∧ (xPush L ⟨at_, nx, id⟩).Pairwise fun a b => ltI a b = true := by
    unfold xPush
    cases hc : (pF L ⟨at_, nx, id⟩ L.length).2 with
    | true =>
      rw [if_pos rfl]
      obtain ⟨h1, h2, -⟩ := pF_true h.srt hx L.length (Nat.le_refl _) hc
      rw [List.take_length] at h1; exact ⟨h1, h2⟩
    | false =>
      rw [if_neg (by simp)]
      obtain ⟨h1, h2⟩ := pF_false L.length (Nat.le_refl _) hc
      rw [List.take_length] at h1 h2
      rw [h1]
      refine ⟨List.perm_append_singleton _ _, ?_⟩
      rw [List.pairwise_append]
      refine ⟨h.srt, by simp, fun a ha b hb => ?_⟩
      rw [List.mem_singleton] at hb; subst hb
      rw [ltI_iff]
      have := h2 a ha; have := hx a ha; simp only at *; omega
  refine ⟨push_heap h.heap, hs, hp.trans ((h.perm.cons _).trans (push_perm _ _).symm), fun y hy => ?_, ?_⟩
  · rcases List.mem_cons.1 (hp.subset hy) with rfl | hy
    · simp only; omega
    · have := h.seq y hy; omega
  · refine (hp.pairwise_iff (fun h => h.symm)).2 (List.pairwise_cons.2 ⟨fun y hy => ?_, h.nod⟩)
    have := h.seq y hy
    simp only; omega
theorem PSt.no {l L : List It} {nx : Nat} (h : PSt l L nx) {s : Int} (hn : ∀ j, j < l.length → (gI l j).seq ≠ s) : xCancel L s = L := by
  unfold xCancel
  rw [List.filter_eq_self]
  intro y hy
  obtain ⟨i, hi, e⟩ := List.mem_iff_getElem.1 (h.perm.subset hy)
  have := hn i hi
  rw [gI_of hi, e] at this
  simpa using this
theorem PSt.yes {l L : List It} {nx : Nat} (h : PSt l L nx) {s : Int} {k : Nat} (hk : k < l.length) (hs : (gI l k).seq = s) : PSt (remF l k) (xCancel L s) nx ∧ (xCancel L s).length < L.length := by
  have hr := rem_perm hk
  have hp : L.Perm (gI l k :: remF l k) := h.perm.trans hr
  have hn : (gI l k :: remF l k).Pairwise fun x y => x.seq ≠ y.seq := (hp.pairwise_iff (fun h => h.symm)).1 h.nod
  rw [List.pairwise_cons] at hn
  have e : (gI l k :: remF l k).filter (fun y => y.seq != s) = remF l k := by
    rw [List.filter_cons_of_neg (by simpa using hs), List.filter_eq_self]
    intro y hy
    have := hn.1 y hy
    rw [hs] at this
    simpa using Ne.symm this
  have hf : (xCancel L s).Perm (remF l k) := by
    have := hp.filter (fun y => y.seq != s)
    rw [e] at this; exact this
  refine ⟨⟨rem_heap hk h.heap, h.srt.sublist List.filter_sublist, hf, fun y hy => h.seq y (List.mem_filter.1 hy).1, h.nod.sublist List.filter_sublist⟩, ?_⟩
  rw [hf.length_eq, remF_len hk, h.len]
  have := h.len; omega
theorem takeWhile_filter {now : Int} : ∀ {L : List It}, (L.Pairwise fun x y => ltI x y = true) → L.filter (fun y => decide (y.at_ ≤ now)) = L.takeWhile fun y => decide (y.at_ ≤ now)
  | [], _ => rfl
  | x :: L, h => by
    rw [List.pairwise_cons] at h
    rw [List.takeWhile_cons]
    rw [List.filter_cons]
    by_cases hx : decide (x.at_ ≤ now) = true
    · rw [if_pos hx, if_pos hx, takeWhile_filter h.2]
    · rw [if_neg hx, if_neg hx, List.filter_eq_nil_iff]
      intro y hy
      have := h.1 y hy
      rw [ltI_iff] at this
      simp at hx ⊢
      omega
theorem take_wakes (L : List It) (now : Int) : L.take (xWakes L now) = L.takeWhile fun y => decide (y.at_ ≤ now) := by
  unfold xWakes
  conv => lhs; arg 2; rw [← List.takeWhile_append_dropWhile (p := fun y => decide (y.at_ ≤ now)) (l := L)]
  rw [List.take_left']
  rfl
theorem PSt.wake {l L : List It} {nx : Nat} (h : PSt l L nx) (now : Int) : (wakes l now).1 = L.take (xWakes L now) ∧ PSt (wakes l now).2 (L.drop (xWakes L now)) nx := by
  obtain ⟨h1, h2, h3, h4, h5⟩ := wakes_all _ l now rfl h.heap
  have ht : (L.take (xWakes L now)).Pairwise fun x y => ltI x y = true := h.srt.sublist (List.take_sublist _ _)
  have hp : (wakes l now).1.Perm (L.take (xWakes L now)) := by
    rw [take_wakes, ← takeWhile_filter h.srt]
    have e : ((wakes l now).1 ++ (wakes l now).2).filter (fun y => decide (y.at_ ≤ now)) = (wakes l now).1 := by
      rw [List.filter_append, List.filter_eq_self.2 (fun y hy => by simpa using h5 y hy), List.filter_eq_nil_iff.2 (fun y hy => by have := h3 y hy; simp; omega), List.append_nil]
    have := (h1.trans h.perm.symm).filter (fun y => decide (y.at_ ≤ now))
    rw [e] at this; exact this
  have he := sorted_is ht hp h2
  refine ⟨he, ⟨h4, h.srt.sublist (List.drop_sublist _ _), ?_, fun y hy => h.seq y (List.mem_of_mem_drop hy), h.nod.sublist (List.drop_sublist _ _)⟩⟩
  have := h1.trans h.perm.symm
  rw [he] at this
  conv at this => rhs; rw [← List.take_append_drop (xWakes L now) L]
  exact ((List.perm_append_left_iff _).1 this).symm
end Go.Proofs.Ytljdckipnbdknaa
