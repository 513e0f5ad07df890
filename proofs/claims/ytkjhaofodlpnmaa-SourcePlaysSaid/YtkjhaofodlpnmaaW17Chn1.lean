/-
  The law SourceChains: what its loop keeps.
-/
import Derived.Test.YtkjhaofodlpnmaaWRdr
import Derived.Test.YtkjhaofodlpnmaaNumsIn
import Derived.Test.YtkjhaofodlpnmaaActsIn
import Derived.LoopTactic
open Go Go.RowKit
set_option linter.unusedVariables false
namespace Go.Proofs.Ytkjhaofodlpnmaa
theorem CellsAt.back {w w' : World} {a : Option Addr} {cs : List Value} (h : CellsAt w' a cs) (hb : Below w.heap.size w w') (hl : ∀ x ∈ blk a, x < w.heap.size) : CellsAt w a cs := fun j v hj => by
  obtain ⟨b, off, rfl, h2⟩ := h j v hj
  refine ⟨b, off, rfl, ?_⟩
  rw [← hb.cell (p := ⟨b, off + j, none⟩) (hl b (by simp [blk]))]; exact h2
theorem CellsAt.lt {w : World} {a : Option Addr} {cs : List Value} (h : CellsAt w a cs) (h0 : cs ≠ []) : ∀ x ∈ blk a, x < w.heap.size := by
  cases cs with
  | nil => exact absurd rfl h0
  | cons v t =>
    obtain ⟨b, off, rfl, h2⟩ := h 0 v rfl
    intro x hx
    simp [blk] at hx; subst hx
    exact World.block_lt_of_cell? w _ h2
/-- Numbers in old memory. -/
def OldN (w : World) (a : Option Addr) (l : List Nat) : Prop := l = [] ∨ (CellsAt w a (numc l) ∧ ∀ x ∈ blk a, x < w.heap.size)
theorem OldN.at {w w' : World} {a : Option Addr} {l : List Nat} (h : OldN w a l) (hb : Below w.heap.size w w') : CellsAt w' a (numc l) := by
  rcases h with rfl | ⟨h, _⟩
  · exact CellsAt.nil _ _
  · exact h.below hb
theorem OldN.of {w : World} {a : Option Addr} {l : List Nat} (h : CellsAt w a (numc l)) : OldN w a l := by
  cases l with
  | nil => exact .inl rfl
  | cons x t => exact .inr ⟨h, h.lt (by simp [numc])⟩
theorem OldN.next {w w' : World} {a a' : Option Addr} {l l' : List Nat} (h : OldN w a l) (hb : Below w.heap.size w w') (hc : CellsAt w' a' (numc l')) (hs : ∀ x ∈ blk a', x ∈ blk a) (hl : l = [] → l' = []) : OldN w a' l' := by
  rcases h with h | ⟨_, h2⟩
  · exact .inl (hl h)
  · exact .inr ⟨hc.back hb (fun x hx => h2 x (hs x hx)), fun x hx => h2 x (hs x hx)⟩
/-- The cells of a source of the document's. -/
def rcells (X : RSrc) (na : Option Addr) (nc : Nat) (ta : Option Addr) (tc : Nat) (ka : Option Addr) (kc : Nat) : List Value :=
  [.slice na X.nums.length nc, .slice ta X.tape.length tc, .bool X.is, .bool false, .slice ka X.taken.length kc]
/-- Decisions that are drawn ahead of the numbers behind them. -/
def Chained (L : List Rec) (N : List Nat) (taken : List Rec) (X Y : RSrc) : Prop :=
  taken = X.taken ++ Y.taken ∧ L.length = X.taken.length + X.tape.length ∧ X.tape = L.drop X.taken.length ∧ (X.tape ≠ [] → Y.taken = []) ∧ N.length = Y.taken.length + Y.nums.length ∧ Y.nums = N.drop Y.taken.length ∧ X.nums = [] ∧ Y.tape = [] ∧ X.is = true ∧ Y.is = false
theorem chained0 (L : List Rec) (N : List Nat) : Chained L N [] ⟨[], L, true, []⟩ ⟨N, [], false, []⟩ := ⟨rfl, by simp, by simp, fun _ => rfl, by simp, by simp, rfl, rfl, rfl, rfl⟩
/-- A draw of the one is a draw of the other. -/
theorem Chained.step {L : List Rec} {N : List Nat} {taken : List Rec} {X Y : RSrc} (h : Chained L N taken X Y) {kind n : Int} {S' : Src} {v e : Int} {u : List Value} (hd : LDraw ⟨L, N, taken⟩ kind n S' v e u) :
    ∃ t', S' = ⟨L, N, t'⟩ ∧ (t'.length ≤ taken.length + 1) ∧
      ((X.tape ≠ [] ∧ Chained L N t' (rdraw X kind n).1 Y ∧ v = ((rdraw X kind n).2.1 : Int) ∧ e = (rdraw X kind n).2.2 ∧ (e = 2 → ∃ a1 a2 a3 a4, u = uv ((rdraw X kind n).1.taken.length : Int) a1 a2 a3 a4) ∧ ∃ a0 a1 a2 a3 a4, u = uv a0 a1 a2 a3 a4) ∨
       (X.tape = [] ∧ Chained L N t' X (rdraw Y kind n).1 ∧ v = ((rdraw Y kind n).2.1 : Int) ∧ e = (rdraw Y kind n).2.2 ∧ e ≠ 2 ∧ ∃ a0 a1 a2 a3 a4, u = uv a0 a1 a2 a3 a4)) := by
  obtain ⟨h1, h2, h3, h4, h5, h6, h7, h8, h9, h10⟩ := h
  obtain ⟨xn, xt, xi, xk⟩ := X
  obtain ⟨yn, yt, yi, yk⟩ := Y
  simp only at h1 h2 h3 h4 h5 h6 h7 h8 h9 h10
  subst h7 h8 h9 h10
  cases xt with
  | cons r t =>
    have hy := h4 (by simp)
    subst hy
    rw [List.append_nil] at h1
    subst h1
    have hlt : taken.length < L.length := by simp at h2; omega
    have hq : L[taken.length]? = some r := by
      have := congrArg (fun l => l[0]?) h3
      simpa using this.symm
    have hg : L.getD taken.length (0, 0) = r := by rw [List.getD_eq_getElem?_getD, hq]; rfl
    have hd' : L.drop (taken.length + 1) = t := by
      have := congrArg (List.drop 1) h3
      simpa [List.drop_drop] using this.symm
    by_cases hf : r.1 = kind ∧ r.2 < cnt n
    · have hda : drawAt ⟨L, N, taken⟩ taken.length kind (cnt n) = some r.2 := by unfold drawAt; rw [if_pos hlt, hg, if_pos hf]
      have hr : rdraw ⟨[], r :: t, true, taken⟩ kind n = (⟨[], t, true, taken ++ [(kind, r.2)]⟩, r.2, 0) := by unfold rdraw; simp only [if_true]; rw [if_pos hf]
      rcases hd with ⟨k, _⟩ | ⟨_, k, _⟩ | ⟨_, x, k, k1, k2, k3, k4⟩
      · simp [Src.many] at k; omega
      · simp only at k; rw [hda] at k; cases k
      · simp only at k; rw [hda] at k; cases k
        refine ⟨taken ++ [(kind, r.2)], by rw [k1]; rfl, by simp, .inl ⟨by simp, ?_, by rw [hr, k2], by rw [hr, k3], (by rw [k3]; intro hc; cases hc), ⟨_, _, _, _, _, k4⟩⟩⟩
        rw [hr]
        exact ⟨by simp, by simp at h2 ⊢; omega, by simp [hd'], fun _ => rfl, h5, h6, rfl, rfl, rfl, rfl⟩
    · have hda : drawAt ⟨L, N, taken⟩ taken.length kind (cnt n) = none := by unfold drawAt; rw [if_pos hlt, hg, if_neg hf]
      have hr : rdraw ⟨[], r :: t, true, taken⟩ kind n = (⟨[], r :: t, true, taken⟩, 0, 2) := by unfold rdraw; simp only [if_true]; rw [if_neg hf]
      rcases hd with ⟨k, _⟩ | ⟨_, k, k1, k2, k3, k4⟩ | ⟨_, x, k, _⟩
      · simp [Src.many] at k; omega
      · refine ⟨taken, k1, by omega, .inl ⟨by simp, ?_, by rw [hr, k2]; rfl, by rw [hr, k3], by rw [hr]; intro _; exact ⟨_, _, _, _, k4⟩, ⟨_, _, _, _, _, k4⟩⟩⟩
        rw [hr]
        exact ⟨by simp, h2, h3, fun _ => rfl, h5, h6, rfl, rfl, rfl, rfl⟩
      · simp only at k; rw [hda] at k; cases k
  | nil =>
    have hxl : L.length = xk.length := by simpa using h2
    have htl : taken.length = L.length + yk.length := by rw [h1, List.length_append, hxl]
    cases yn with
    | nil =>
      have hyl : N.length = yk.length := by simpa using h5
      have hm : taken.length = Src.many ⟨L, N, taken⟩ := by simp only [Src.many]; omega
      obtain ⟨k1, k2, k3, k4⟩ := hd.spent hm
      have hr : rdraw ⟨[], [], false, yk⟩ kind n = (⟨[], [], false, yk⟩, 0, 1) := rfl
      refine ⟨taken, k1, by omega, .inr ⟨rfl, ?_, by rw [hr, k2]; rfl, by rw [hr, k3], by rw [k3]; decide, ⟨_, _, _, _, _, k4⟩⟩⟩
      rw [hr]
      exact ⟨h1, h2, h3, h4, h5, h6, rfl, rfl, rfl, rfl⟩
    | cons y t =>
      have hnl : yk.length < N.length := by simp at h5; omega
      have hq : N[yk.length]? = some y := by
        have := congrArg (fun l => l[0]?) h6
        simpa using this.symm
      have hd' : N.drop (yk.length + 1) = t := by
        have := congrArg (List.drop 1) h6
        simpa [List.drop_drop] using this.symm
      have hda : drawAt ⟨L, N, taken⟩ taken.length kind (cnt n) = some (y % cnt n) := by
        unfold drawAt
        rw [if_neg (by simp only; omega)]
        simp only
        rw [show taken.length - L.length = yk.length by omega, List.getD_eq_getElem?_getD, hq]; rfl
      have hr : rdraw ⟨y :: t, [], false, yk⟩ kind n = (⟨t, [], false, yk ++ [(kind, y % cnt n)]⟩, y % cnt n, 0) := rfl
      rcases hd with ⟨k, _⟩ | ⟨_, k, _⟩ | ⟨_, x, k, k1, k2, k3, k4⟩
      · simp only [Src.many] at k; omega
      · simp only at k; rw [hda] at k; cases k
      · simp only at k; rw [hda] at k; cases k
        refine ⟨taken ++ [(kind, y % cnt n)], by rw [k1]; rfl, by simp, .inr ⟨rfl, ?_, by rw [hr, k2], by rw [hr, k3], by rw [k3]; decide, ⟨_, _, _, _, _, k4⟩⟩⟩
        rw [hr]
        exact ⟨by rw [h1]; simp, h2, h3, fun hc => absurd rfl hc, by simp at h5 ⊢; omega, by simp [hd'], rfl, rfl, rfl, rfl⟩
end Go.Proofs.Ytkjhaofodlpnmaa
