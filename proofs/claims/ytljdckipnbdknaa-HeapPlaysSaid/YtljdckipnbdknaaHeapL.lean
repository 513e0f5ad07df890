/-
  What a heap has, when numbered items go in and out. No program is named here.
-/
import Derived.Test.YtljdckipnbdknaaHeapF
set_option linter.unusedVariables false
namespace Go.Proofs.Ytljdckipnbdknaa
/-- The i-th that goes in. -/
def itZ (z : Nat → Int) (j : Nat) : It := ⟨z j, (j : Int), (j : Int)⟩
def plist (z : Nat → Int) : Nat → List It
  | 0 => []
  | i + 1 => pushF (plist z i) (itZ z i)
theorem plist_len (z : Nat → Int) : ∀ i, (plist z i).length = i
  | 0 => rfl
  | i + 1 => by rw [plist, pushF_len, plist_len z i]
theorem plist_heap (z : Nat → Int) : ∀ i, HeapI (plist z i)
  | 0 => fun i h0 h => by simp [plist] at h
  | i + 1 => push_heap (plist_heap z i)
theorem plist_perm (z : Nat → Int) : ∀ i, (plist z i).Perm ((List.range i).map (itZ z))
  | 0 => by simp [plist]
  | i + 1 => by
    rw [plist, List.range_succ, List.map_append]
    refine (push_perm _ _).trans (((plist_perm z i).cons _).trans ?_)
    exact (List.perm_append_comm (l₁ := [itZ z i]) (l₂ := (List.range i).map (itZ z)))
/-- The heap has just those numbers. -/
def Has (z : Nat → Int) (l : List It) (S : List Nat) : Prop := S.Nodup ∧ l.Perm (S.map (itZ z)) ∧ HeapI l
theorem Has.len {z : Nat → Int} {l : List It} {S : List Nat} (h : Has z l S) : l.length = S.length := by have := h.2.1.length_eq; simpa using this
theorem Has.all {z : Nat → Int} (n : Nat) : Has z (plist z n) (List.range n) := ⟨List.nodup_range, plist_perm z n, plist_heap z n⟩
theorem Has.at {z : Nat → Int} {l : List It} {S : List Nat} (h : Has z l S) {k : Nat} (hk : k < l.length) : ∃ j ∈ S, gI l k = itZ z j := by
  have hm : gI l k ∈ l := by rw [gI_of hk]; exact List.getElem_mem _
  have := h.2.1.subset hm
  obtain ⟨j, hj, e⟩ := List.mem_map.1 this
  exact ⟨j, hj, e.symm⟩
theorem Has.find {z : Nat → Int} {l : List It} {S : List Nat} (h : Has z l S) {i : Nat} (hi : i ∈ S) : ∃ k, k < l.length ∧ (gI l k).seq = (i : Int) := by
  have : itZ z i ∈ l := h.2.1.symm.subset (List.mem_map.2 ⟨i, hi, rfl⟩)
  obtain ⟨k, hk, e⟩ := List.mem_iff_getElem.1 this
  exact ⟨k, hk, by rw [gI_of hk, e]; rfl⟩
theorem Has.none {z : Nat → Int} {l : List It} {S : List Nat} (h : Has z l S) {i : Nat} (hi : i ∉ S) : ∀ k, k < l.length → (gI l k).seq ≠ (i : Int) := fun k hk e => by
  obtain ⟨j, hj, e2⟩ := h.at hk
  rw [e2] at e
  simp only [itZ] at e
  have : j = i := by omega
  subst this; exact hi hj
theorem Has.rem {z : Nat → Int} {l : List It} {S : List Nat} (h : Has z l S) {i k : Nat} (hk : k < l.length) (hs : (gI l k).seq = (i : Int)) : i ∈ S ∧ gI l k = itZ z i ∧ Has z (remF l k) (S.erase i) := by
  obtain ⟨j, hj, e⟩ := h.at hk
  rw [e] at hs
  simp only [itZ] at hs
  have hji : j = i := by omega
  subst hji
  refine ⟨hj, e, h.1.erase _, ?_, rem_heap hk h.2.2⟩
  have h1 := (rem_perm hk).symm.trans (h.2.1.trans ((List.perm_cons_erase hj).map (itZ z)))
  rw [e, List.map_cons] at h1
  exact h1.cons_inv
/-- In order, and no two alike. -/
theorem sorted_strict {z : Nat → Int} {K : List It} {S : List Nat} (hS : S.Nodup) (hp : K.Perm (S.map (itZ z))) (hs : K.Pairwise leI) :
    ∀ i (h : i < K.length) (h0 : 0 < i), (gI K (i - 1)).at_ < (gI K i).at_ ∨ ((gI K (i - 1)).at_ = (gI K i).at_ ∧ (gI K (i - 1)).seq < (gI K i).seq) := by
  intro i h h0
  have h1 : leI (gI K (i - 1)) (gI K i) := by
    rw [gI_of h, gI_of (by omega)]
    exact List.pairwise_iff_getElem.1 hs (i - 1) i (by omega) h (by omega)
  rw [leI_iff] at h1
  have hnd : K.Nodup := by
    refine hp.nodup_iff.2 ?_
    rw [List.Nodup, List.pairwise_map]
    exact hS.imp (fun {a b} hab e => hab (by simp only [itZ, It.mk.injEq] at e; omega))
  have hne : gI K (i - 1) ≠ gI K i := by
    rw [gI_of h, gI_of (by omega)]
    exact List.pairwise_iff_getElem.1 hnd (i - 1) i (by omega) h (by omega)
  have hin : ∀ k, k < K.length → ∃ j, gI K k = itZ z j := fun k hk => by
    have hm : gI K k ∈ K := by rw [gI_of hk]; exact List.getElem_mem _
    obtain ⟨j, hj, e⟩ := List.mem_map.1 (hp.subset hm)
    exact ⟨j, e.symm⟩
  obtain ⟨a, ha⟩ := hin (i - 1) (by omega)
  obtain ⟨b, hb⟩ := hin i h
  rw [ha, hb] at h1 hne ⊢
  simp only [itZ] at h1 ⊢
  rcases h1 with h1 | ⟨h1, h2⟩
  · exact .inl h1
  · refine .inr ⟨h1, ?_⟩
    rcases Int.lt_or_eq_of_le h2 with h3 | h3
    · exact h3
    · exact absurd (by have : a = b := by omega
                       rw [this]) hne
end Go.Proofs.Ytljdckipnbdknaa
