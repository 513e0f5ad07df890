/-
  Regions that draw their order (as SegH.lean), whose operations from the K-th on, which wait for those that S serves, may end what S says: stores into what was read. No program is named here.
-/
import Derived.Test.YtdeilfnfpgjnnaaDoorSegH2
open Go Go.RowKit
set_option linter.unusedVariables false
namespace Go.Proofs.YtdeilfnfpgjnnaaDoor
section
variable {P : Program} {ops : Array Oper} {Q : Exit → Act → World → Prop} {S : World → Prop} {md : Region.Mode}
/-- All from the K-th on wait for it. -/
def waitedB (md : Region.Mode) (ops : Array Oper) (K i : Nat) : Bool := (List.range ops.size).all fun j => decide (j < K) || (match ops[j]? with
  | some o => o.after.any fun e => Region.binds md e && e.on == i
  | none => false)
/-- Whatever order is picked from here on; S is kept by each operation ahead of the K-th. -/
def wpAnyY (P : Program) (md : Region.Mode) (ops : Array Oper) (Q : Exit → Act → World → Prop) (S : World → Prop) (K : Nat) : Nat → Array Bool → Act → World → Prop
  | 0, listed, a, w => Region.ready md ops listed = [] ∧ Q .normal a w
  | fuel + 1, listed, a, w =>
    (Region.ready md ops listed = [] → Q .normal a w) ∧
    ∀ i ∈ Region.ready md ops listed, wpOp P ops Q i (fun a' w' => (K ≤ i ∨ (S w → S w')) ∧ wpAnyY P md ops Q S K fuel (listed.setIfInBounds i true) a' w') a w
theorem wpAny_of_y {K : Nat} : ∀ (fuel : Nat) (listed : Array Bool) (a : Act) (w : World), wpAnyY P md ops Q S K fuel listed a w → wpAny P md ops Q fuel listed a w
  | 0, _, _, _, h => h
  | fuel + 1, _, _, _, h => ⟨h.1, fun i hi => wpOp_mono (fun a' w' h' => wpAny_of_y fuel _ a' w' h'.2) (h.2 i hi)⟩
theorem waited_not {K i j : Nat} {listed : Array Bool} (hj : j ∈ Region.ready md ops listed) (hi : i ∈ Region.ready md ops listed) (hK : K ≤ j) (he : waitedB md ops K i = true) : False := by
  obtain ⟨_, oj, hoj, hall⟩ := mem_ready.1 hj
  have hjl : j < ops.size := (Array.getElem?_eq_some_iff.1 hoj).1
  unfold waitedB at he
  rw [List.all_eq_true] at he
  have h1 := he j (List.mem_range.2 hjl)
  rw [hoj, Bool.or_eq_true] at h1
  rcases h1 with h1 | h1
  · have := of_decide_eq_true h1; omega
  · obtain ⟨e, he1, he2⟩ := Array.any_eq_true'.1 h1
    rw [Bool.and_eq_true] at he2
    have h2 := hall e he1 he2.1
    have h3 : e.on = i := by simpa using he2.2
    rw [h3] at h2
    have h0 := (mem_ready.1 hi).1
    rcases Nat.lt_or_ge i listed.size with h' | h'
    · simp [h'] at h0 h2; rw [h0] at h2; cases h2
    · simp [Array.getElem?_eq_none h'] at h2
/-- T is what its value hangs on: S, if all from the K-th on wait for it; nothing, else. -/
theorem wpAnyY_first {K i : Nat} {oi : Oper} {v : Value} {T : World → Prop} (hi : ops[i]? = some oi) (hsel : ∀ (j : Nat) (o : Oper) cs b, ops[j]? = some o → o.op ≠ .select cs b)
    (hQ : ∀ c a w, Q (.panic c) (a.put oi.dst v) w → Q (.panic c) a w) (hT : (T = S ∧ waitedB md ops K i = true) ∨ ∀ w, T w) :
    ∀ (fuel : Nat) (listed : Array Bool) (a : Act) (w : World),
      (∀ j oj, ops[j]? = some oj → j ≠ i → listed.getD j true = false → (∀ e ∈ oj.after, Region.binds md e = true → e.on ≠ i) → oi.apart ops oj = true) →
      i ∈ Region.ready md ops listed → YieldsIf P ops T oi v a → T w →
      wpAnyY P md ops Q S K fuel (listed.setIfInBounds i true) (a.put oi.dst v) w → wpAnyY P md ops Q S K (fuel + 1) listed a w
  | 0, listed, a, w, _, hr, hy, hS, H => by
    refine ⟨fun h => (by rw [h] at hr; cases hr), fun j hj => ?_⟩
    by_cases hji : j = i
    · subst hji; exact hy.wpOp hi hS ⟨.inr id, H⟩
    · have := ready_mono hj hji
      rw [H.1] at this
      cases this
  | fuel + 1, listed, a, w, hfree, hr, hy, hS, H => by
    refine ⟨fun h => (by rw [h] at hr; cases hr), fun j hj => ?_⟩
    by_cases hji : j = i
    · subst hji; exact hy.wpOp hi hS ⟨.inr id, H⟩
    · have h1 := H.2 j (ready_mono hj hji)
      obtain ⟨hjun, oj, hoj, hall⟩ := mem_ready.1 hj
      have hnot : ∀ e ∈ oj.after, Region.binds md e = true → e.on ≠ i := fun e he hb heq => by
        have h2 := hall e he hb
        have h0 := (mem_ready.1 hr).1
        rw [heq] at h2
        rcases Nat.lt_or_ge i listed.size with h' | h'
        · simp [h'] at h0 h2; rw [h0] at h2; cases h2
        · simp [Array.getElem?_eq_none h'] at h2
      refine wpOp_mono (fun a' w' h3 => ?_) (wpOp_putIf hoj (hfree j oj hoj hji hjun hnot) (fun cs b => hsel i oi cs b hi) (fun cs b => hsel j oj cs b hoj) hQ hy h1)
      have hS' : T w' := by
        rcases hT with ⟨rfl, hw⟩ | hT
        · rcases h3.2.1 with h4 | h4
          · exact (waited_not hj hr h4 hw).elim
          · exact h4 hS
        · exact hT w'
      refine ⟨h3.2.1, wpAnyY_first hi hsel hQ hT fuel (listed.setIfInBounds j true) a' w' (fun k ok hk hki hun hno => hfree k ok hk hki ?_ hno) (ready_mono hr (Ne.symm hji)) h3.1 hS' ?_⟩
      · by_cases hjk : j = k
        · subst hjk; exact hjun
        · rw [getD_set_ne true hjk] at hun; exact hun
      · rw [Array.setIfInBounds_comm _ _ hji]
        exact h3.2.2
theorem wpAnyY_segs {K : Nat} {T : World → Prop} (hs : Region.noSelect ops = true) (hQ : ∀ (d : Option Tmp) (v : Value) c a w, Q (.panic c) (a.put d v) w → Q (.panic c) a w) (fuel : Nat) (w : World) (hS : T w) :
    ∀ (l : List Oper) (k : Nat) (listed : Array Bool) (a : Act), (∀ j, j < l.length → l[j]? = ops[k + j]?) → segB ops l.length k listed = true → (∀ j, j < l.length → (T = S ∧ waitedB .any ops K (k + j) = true) ∨ ∀ w, T w) →
      wpSegH P ops T (fun a' => wpAnyY P .any ops Q S K fuel (marks l.length k listed) a' w) l a → wpAnyY P .any ops Q S K (l.length + fuel) listed a w
  | [], k, listed, a, _, _, _, h => by rw [List.length_nil, Nat.zero_add]; exact h
  | o :: l, k, listed, a, hl, hB, hT, h => by
    have h0 : ops[k]? = some o := by simpa using (hl 0 (by simp)).symm
    simp only [List.length_cons, segB, Bool.and_eq_true] at hB
    obtain ⟨⟨hr, hf⟩, hB⟩ := hB
    have hl' : ∀ j, j < l.length → l[j]? = ops[k + 1 + j]? := fun j hj => by have := hl (j + 1) (by simp; omega); simpa [Nat.add_assoc, Nat.add_comm 1 j] using this
    have hT' : ∀ j, j < l.length → (T = S ∧ waitedB .any ops K (k + 1 + j) = true) ∨ ∀ w, T w := fun j hj => by have := hT (j + 1) (by simp; omega); rwa [show k + (j + 1) = k + 1 + j by omega] at this
    rw [List.length_cons, show l.length + 1 + fuel = (l.length + fuel) + 1 by omega]
    have hr' : k ∈ Region.ready .any ops listed := by simpa using hr
    have hT0 := hT 0 (by simp)
    rw [Nat.add_zero] at hT0
    rcases h with ⟨hw, v, hv, h⟩ | ⟨hw, h⟩
    · exact wpAnyY_first h0 (Region.noSelect_spec hs) (fun c a w => hQ o.dst v c a w) hT0 _ listed a w (Region.free_spec h0 hf) hr' (.inl ⟨hw, hv⟩) hS (wpAnyY_segs hs hQ fuel w hS l (k + 1) _ _ hl' hB hT' h)
    · exact wpAnyY_first h0 (Region.noSelect_spec hs) (fun c a w => hQ o.dst undef c a w) hT0 _ listed a w (Region.free_spec h0 hf) hr' (.inr ⟨hw, rfl⟩) hS (wpAnyY_segs hs hQ fuel w hS l (k + 1) _ _ hl' hB hT' h)
/-- A stretch of n operations from the k-th on, for which all from the K-th on wait. -/
theorem wpAnyY_seg {K : Nat} {l : List Oper} (k n : Nat) (listed listed' : Array Bool) (fuel : Nat) {a : Act} {w : World} (hs : Region.noSelect l.toArray = true) (hQ : ∀ (d : Option Tmp) (v : Value) c a w, Q (.panic c) (a.put d v) w → Q (.panic c) a w) (hS : S w)
    (hB : (segB l.toArray n k listed && decide (k + n ≤ l.length) && (marks n k listed == listed') && (List.range n).all fun j => waitedB .any l.toArray K (k + j)) = true) (h : wpSegH P l.toArray S (fun a' => wpAnyY P .any l.toArray Q S K fuel listed' a' w) ((l.drop k).take n) a) : wpAnyY P .any l.toArray Q S K (n + fuel) listed a w := by
  simp only [Bool.and_eq_true, decide_eq_true_eq, beq_iff_eq] at hB
  obtain ⟨⟨⟨hB, hn⟩, rfl⟩, hw⟩ := hB
  have hln : ((l.drop k).take n).length = n := by rw [List.length_take, List.length_drop]; omega
  have := wpAnyY_segs (P := P) (Q := Q) (S := S) (K := K) hs hQ fuel w hS ((l.drop k).take n) k listed a (fun j hj => by
    rw [hln] at hj
    rw [List.getElem?_take, if_pos hj, List.getElem?_drop]; simp) (by rw [hln]; exact hB) (fun j hj => .inl ⟨rfl, List.all_eq_true.1 hw j (List.mem_range.2 (by rw [hln] at hj; exact hj))⟩) (by rw [hln]; exact h)
  rwa [hln] at this
/-- A stretch of operations that hang on no world. -/
theorem wpAnyY_segT {K : Nat} {l : List Oper} (k n : Nat) (listed listed' : Array Bool) (fuel : Nat) {a : Act} {w : World} (hs : Region.noSelect l.toArray = true) (hQ : ∀ (d : Option Tmp) (v : Value) c a w, Q (.panic c) (a.put d v) w → Q (.panic c) a w)
    (hB : (segB l.toArray n k listed && decide (k + n ≤ l.length) && (marks n k listed == listed')) = true) (h : wpSegH P l.toArray (fun _ => True) (fun a' => wpAnyY P .any l.toArray Q S K fuel listed' a' w) ((l.drop k).take n) a) : wpAnyY P .any l.toArray Q S K (n + fuel) listed a w := by
  simp only [Bool.and_eq_true, decide_eq_true_eq, beq_iff_eq] at hB
  obtain ⟨⟨hB, hn⟩, rfl⟩ := hB
  have hln : ((l.drop k).take n).length = n := by rw [List.length_take, List.length_drop]; omega
  have := wpAnyY_segs (P := P) (Q := Q) (S := S) (K := K) (T := fun _ => True) hs hQ fuel w trivial ((l.drop k).take n) k listed a (fun j hj => by
    rw [hln] at hj
    rw [List.getElem?_take, if_pos hj, List.getElem?_drop]; simp) (by rw [hln]; exact hB) (fun j hj => .inr fun _ => trivial) (by rw [hln]; exact h)
  rwa [hln] at this
theorem headY {l : List Oper} {i : Nat} {a : Act} {w : World} {K : Act → World → Prop} (h1 : headH P l.toArray Q K a w (l.drop i)) : wpOp P l.toArray Q i K a w := by
  cases hd : l.drop i with
  | nil => rw [hd] at h1; exact h1.elim
  | cons o r =>
    rw [hd] at h1
    have h0 : l.toArray[i]? = some o := by
      have : (l.drop i)[0]? = some o := by rw [hd]; rfl
      rw [List.getElem?_drop] at this
      simpa using this
    unfold wpOp
    simp only [h0]
    rw [if_pos h1.1]
    exact .inl h1.2
theorem wpAnyY_one {K0 : Nat} {l : List Oper} (k : Nat) (listed listed' : Array Bool) (fuel : Nat) {a : Act} {w : World} (hB : (decide (Region.ready .any l.toArray listed = [k]) && (listed.setIfInBounds k true == listed')) = true)
    (h : ∀ K : Act → World → Prop, (∀ a' w', S w' → wpAnyY P .any l.toArray Q S K0 fuel listed' a' w' → K a' w') → headH P l.toArray Q K a w (l.drop k)) : wpAnyY P .any l.toArray Q S K0 (fuel + 1) listed a w := by
  simp only [Bool.and_eq_true, decide_eq_true_eq, beq_iff_eq] at hB
  obtain ⟨hr, rfl⟩ := hB
  refine ⟨fun h0 => (by rw [hr] at h0; cases h0), fun i hi => ?_⟩
  rw [hr] at hi
  have hik : i = k := by simpa using hi
  subst hik
  exact headY (h _ (fun a' w' h2 h3 => ⟨.inr fun _ => h2, h3⟩))
theorem wpAnyY_two {K0 : Nat} {l : List Oper} (k k' : Nat) (listed listed' listed'' : Array Bool) (fuel : Nat) {a : Act} {w : World} (hB : (decide (Region.ready .any l.toArray listed = [k, k']) && (listed.setIfInBounds k true == listed') && (listed.setIfInBounds k' true == listed'')) = true)
    (h1 : ∀ K : Act → World → Prop, (∀ a' w', S w' → wpAnyY P .any l.toArray Q S K0 fuel listed' a' w' → K a' w') → headH P l.toArray Q K a w (l.drop k))
    (h2 : ∀ K : Act → World → Prop, (∀ a' w', S w' → wpAnyY P .any l.toArray Q S K0 fuel listed'' a' w' → K a' w') → headH P l.toArray Q K a w (l.drop k')) : wpAnyY P .any l.toArray Q S K0 (fuel + 1) listed a w := by
  simp only [Bool.and_eq_true, decide_eq_true_eq, beq_iff_eq] at hB
  obtain ⟨⟨hr, rfl⟩, rfl⟩ := hB
  refine ⟨fun h0 => (by rw [hr] at h0; cases h0), fun i hi => ?_⟩
  rw [hr] at hi
  have hik : i = k ∨ i = k' := by simpa using hi
  rcases hik with rfl | rfl
  · exact headY (h1 _ (fun a' w' h2 h3 => ⟨.inr fun _ => h2, h3⟩))
  · exact headY (h2 _ (fun a' w' h2 h3 => ⟨.inr fun _ => h2, h3⟩))
/-- One from the K-th on, that may come up alone: S need not hold behind it. -/
theorem wpAnyY_late {K0 : Nat} {l : List Oper} (k : Nat) (listed listed' : Array Bool) (fuel : Nat) {a : Act} {w : World} (hB : (decide (Region.ready .any l.toArray listed = [k]) && (listed.setIfInBounds k true == listed') && decide (K0 ≤ k)) = true)
    (h : ∀ K : Act → World → Prop, (∀ a' w', wpAnyY P .any l.toArray Q S K0 fuel listed' a' w' → K a' w') → headH P l.toArray Q K a w (l.drop k)) : wpAnyY P .any l.toArray Q S K0 (fuel + 1) listed a w := by
  simp only [Bool.and_eq_true, decide_eq_true_eq, beq_iff_eq] at hB
  obtain ⟨⟨hr, rfl⟩, he⟩ := hB
  refine ⟨fun h0 => (by rw [hr] at h0; cases h0), fun i hi => ?_⟩
  rw [hr] at hi
  have hik : i = k := by simpa using hi
  subst hik
  exact headY (h _ (fun a' w' h3 => ⟨.inl he, h3⟩))
theorem wpAnyY_done {K : Nat} {listed : Array Bool} {a : Act} {w : World} (hr : Region.ready md ops listed = []) (h : Q .normal a w) : ∀ fuel, wpAnyY P md ops Q S K fuel listed a w
  | 0 => ⟨hr, h⟩
  | _ + 1 => ⟨fun _ => h, by rw [hr]; simp⟩
/-- The beginning. -/
theorem wp_region_lexY {id : Nat} {a : Act} {w : World} {l : List Oper} (S : World → Prop) (K : Nat) (fuel : Nat) (listed : Array Bool) (hm : P.follows .mixedOrders = true) (hB : (decide (l.length = fuel) && (Array.replicate l.length false == listed)) = true)
    (h : wpAnyY P .any l.toArray (NoPanic Q) S K fuel listed a w.drew) : (Code.region id l.toArray true).wp P Q a w := by
  simp only [Bool.and_eq_true, decide_eq_true_eq, beq_iff_eq] at hB
  obtain ⟨rfl, rfl⟩ := hB
  exact wp_region_noPanic (wp_region_any hm (wpAny_of_y _ _ _ _ (by simpa using h)))
end
end Go.Proofs.YtdeilfnfpgjnnaaDoor
