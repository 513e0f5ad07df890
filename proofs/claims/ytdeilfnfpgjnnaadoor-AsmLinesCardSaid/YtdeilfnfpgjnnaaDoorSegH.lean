/-
  Regions that draw their order, walked in the text's order: stretches of operations that yield the same in every world that meets S, calls among them. No program is named here.
-/
import Derived.Test.YtdeilfnfpgjnnaaDoorBase
import Derived.Deep.RegionHeld3
open Go Go.RowKit
set_option linter.unusedVariables false
namespace Go.Proofs.YtdeilfnfpgjnnaaDoor
section
variable {P : Program} {ops : Array Oper} {Q : Exit → Act → World → Prop} {S : World → Prop}
/-- A stretch of operations, in their order. -/
def wpSegH (P : Program) (ops : Array Oper) (S : World → Prop) (K : Act → Prop) : List Oper → Act → Prop
  | [], a => K a
  | o :: l, a => (Region.wanted o (yielded ops a.tmps) = true ∧ ∃ v, (∀ w, S w → (execOp a.eval o).run P w = .ok (.value v) w) ∧ wpSegH P ops S K l (a.put o.dst v)) ∨
    (Region.wanted o (yielded ops a.tmps) = false ∧ wpSegH P ops S K l (a.put o.dst undef))
theorem wpSegH_nil {K : Act → Prop} {a : Act} (h : K a) : wpSegH P ops S K [] a := h
theorem wpSegH_yes {K : Act → Prop} {a : Act} {o : Oper} {l : List Oper} (hw : Region.wanted o (yielded ops a.tmps) = true) (h : ∃ v, (∀ w, S w → (execOp a.eval o).run P w = .ok (.value v) w) ∧ wpSegH P ops S K l (a.put o.dst v)) : wpSegH P ops S K (o :: l) a := .inl ⟨hw, h⟩
theorem wpSegH_no {K : Act → Prop} {a : Act} {o : Oper} {l : List Oper} (hw : Region.wanted o (yielded ops a.tmps) = false) (h : wpSegH P ops S K l (a.put o.dst undef)) : wpSegH P ops S K (o :: l) a := .inr ⟨hw, h⟩
/-- May they come up so, each taken first? -/
def segB (ops : Array Oper) : Nat → Nat → Array Bool → Bool
  | 0, _, _ => true
  | f + 1, k, listed => (Region.ready .any ops listed).contains k && Region.free .any ops listed k && segB ops f (k + 1) (listed.setIfInBounds k true)
def marks : Nat → Nat → Array Bool → Array Bool
  | 0, _, listed => listed
  | f + 1, k, listed => marks f (k + 1) (listed.setIfInBounds k true)
theorem wpAnyH_segs (hs : Region.noSelect ops = true) (hQ : ∀ (d : Option Tmp) (v : Value) c a w, Q (.panic c) (a.put d v) w → Q (.panic c) a w) (fuel : Nat) (w : World) (hS : S w) :
    ∀ (l : List Oper) (k : Nat) (listed : Array Bool) (a : Act), (∀ j, j < l.length → l[j]? = ops[k + j]?) → segB ops l.length k listed = true →
      wpSegH P ops S (fun a' => wpAnyH P .any ops Q S fuel (marks l.length k listed) a' w) l a → wpAnyH P .any ops Q S (l.length + fuel) listed a w
  | [], k, listed, a, _, _, h => by rw [List.length_nil, Nat.zero_add]; exact h
  | o :: l, k, listed, a, hl, hB, h => by
    have h0 : ops[k]? = some o := by simpa using (hl 0 (by simp)).symm
    simp only [List.length_cons, segB, Bool.and_eq_true] at hB
    obtain ⟨⟨hr, hf⟩, hB⟩ := hB
    have hl' : ∀ j, j < l.length → l[j]? = ops[k + 1 + j]? := fun j hj => by have := hl (j + 1) (by simp; omega); simpa [Nat.add_assoc, Nat.add_comm 1 j] using this
    rw [List.length_cons, show l.length + 1 + fuel = (l.length + fuel) + 1 by omega]
    rcases h with ⟨hw, v, hv, h⟩ | ⟨hw, h⟩
    · exact wpAnyH_take h0 hs hf hr (fun c a w => hQ o.dst v c a w) (.inl ⟨hw, hv⟩) hS (wpAnyH_segs hs hQ fuel w hS l (k + 1) _ _ hl' hB h)
    · exact wpAnyH_take h0 hs hf hr (fun c a w => hQ o.dst undef c a w) (.inr ⟨hw, rfl⟩) hS (wpAnyH_segs hs hQ fuel w hS l (k + 1) _ _ hl' hB h)
/-- A stretch of n operations from the k-th on. -/
theorem wpAnyH_seg {l : List Oper} (k n : Nat) (listed listed' : Array Bool) (fuel : Nat) {a : Act} {w : World} (hs : Region.noSelect l.toArray = true) (hQ : ∀ (d : Option Tmp) (v : Value) c a w, Q (.panic c) (a.put d v) w → Q (.panic c) a w) (hS : S w)
    (hB : (segB l.toArray n k listed && decide (k + n ≤ l.length) && (marks n k listed == listed')) = true) (h : wpSegH P l.toArray S (fun a' => wpAnyH P .any l.toArray Q S fuel listed' a' w) ((l.drop k).take n) a) : wpAnyH P .any l.toArray Q S (n + fuel) listed a w := by
  simp only [Bool.and_eq_true, decide_eq_true_eq, beq_iff_eq] at hB
  obtain ⟨⟨hB, hn⟩, rfl⟩ := hB
  have hln : ((l.drop k).take n).length = n := by rw [List.length_take, List.length_drop]; omega
  have := wpAnyH_segs (P := P) (Q := Q) (S := S) hs hQ fuel w hS ((l.drop k).take n) k listed a (fun j hj => by
    rw [hln] at hj
    rw [List.getElem?_take, if_pos hj, List.getElem?_drop]; simp) (by rw [hln]; exact hB) (by rw [hln]; exact h)
  rwa [hln] at this
/-- The one that may come up alone: what is to be shown of it. -/
def headH (P : Program) (ops : Array Oper) (Q : Exit → Act → World → Prop) (K : Act → World → Prop) (a : Act) (w : World) : List Oper → Prop
  | [] => False
  | o :: _ => Region.wanted o (yielded ops a.tmps) = true ∧ o.wp P a w K Q
theorem headH_mk {K : Act → World → Prop} {a : Act} {w : World} {o : Oper} {l : List Oper} (hw : Region.wanted o (yielded ops a.tmps) = true) (h : o.wp P a w K Q) : headH P ops Q K a w (o :: l) := ⟨hw, h⟩
theorem wpAnyH_one {l : List Oper} (k : Nat) (listed listed' : Array Bool) (fuel : Nat) {a : Act} {w : World} (hB : (decide (Region.ready .any l.toArray listed = [k]) && (listed.setIfInBounds k true == listed')) = true)
    (h : ∀ K : Act → World → Prop, (∀ a' w', S w' → wpAnyH P .any l.toArray Q S fuel listed' a' w' → K a' w') → headH P l.toArray Q K a w (l.drop k)) : wpAnyH P .any l.toArray Q S (fuel + 1) listed a w := by
  simp only [Bool.and_eq_true, decide_eq_true_eq, beq_iff_eq] at hB
  obtain ⟨hr, rfl⟩ := hB
  refine wpAnyH_all hr (by simp) (fun i hi => ?_)
  have hik : i = k := by simpa using hi
  subst hik
  have h1 := h (fun a' w' => S w' ∧ wpAnyH P .any l.toArray Q S fuel (listed.setIfInBounds i true) a' w') (fun a' w' h2 h3 => ⟨h2, h3⟩)
  cases hd : l.drop i with
  | nil => rw [hd] at h1; exact h1.elim
  | cons o r =>
    rw [hd] at h1
    have h0 : l.toArray[i]? = some o := by
      have : (l.drop i)[0]? = some o := by rw [hd]; rfl
      rw [List.getElem?_drop] at this
      simpa using this
    unfold wpOp
    simp only [h0]
    rw [if_pos h1.1]
    exact .inl h1.2
/-- The beginning. -/
theorem wp_region_lexH {id : Nat} {a : Act} {w : World} {l : List Oper} (S : World → Prop) (fuel : Nat) (listed : Array Bool) (hm : P.follows .mixedOrders = true) (hB : (decide (l.length = fuel) && (Array.replicate l.length false == listed)) = true)
    (h : wpAnyH P .any l.toArray (NoPanic Q) S fuel listed a w.drew) : (Code.region id l.toArray true).wp P Q a w := by
  simp only [Bool.and_eq_true, decide_eq_true_eq, beq_iff_eq] at hB
  obtain ⟨rfl, rfl⟩ := hB
  exact wp_region_noPanic (wp_region_held hm (by simpa using h))
theorem noPanic_put (d : Option Tmp) (v : Value) (c : _) (a : Act) (w : World) : NoPanic Q (.panic c) (a.put d v) w → NoPanic Q (.panic c) a w := fun h => h
end
end Go.Proofs.YtdeilfnfpgjnnaaDoor
