/-
  The law SourcePlays: what its loop keeps.
-/
import Derived.Test.YtkjhaofodlpnmaaW17Chn2
import Derived.Test.YtkjhaofodlpnmaaWSrcE3
open Go Go.RowKit
set_option linter.unusedVariables false
namespace Go.Proofs.Ytkjhaofodlpnmaa
/-- A source, and what the document says of it. -/
def Plain (L : List Rec) (N : List Nat) (t : List Rec) (X : RSrc) (tp : Bool) : Prop :=
  X.taken = t ∧ X.is = tp ∧ (tp = true → N = [] ∧ X.nums = [] ∧ X.tape = L.drop t.length ∧ t.length ≤ L.length) ∧ (tp = false → L = [] ∧ X.tape = [] ∧ X.nums = N.drop t.length ∧ t.length ≤ N.length)
theorem Plain.left {L : List Rec} {N : List Nat} {t : List Rec} {X : RSrc} {tp : Bool} (h : Plain L N t X tp) : Src.many ⟨L, N, t⟩ = t.length + X.tape.length + X.nums.length := by
  obtain ⟨h1, h2, h3, h4⟩ := h
  cases tp with
  | true =>
    obtain ⟨rfl, k2, k3, k4⟩ := h3 rfl
    rw [k2, k3]; simp [Src.many]; omega
  | false =>
    obtain ⟨rfl, k2, k3, k4⟩ := h4 rfl
    rw [k2, k3]; simp [Src.many]; omega
theorem Plain.step {L : List Rec} {N : List Nat} {t : List Rec} {X : RSrc} {tp : Bool} (h : Plain L N t X tp) {kind n : Int} {S' : Src} {v e : Int} {u : List Value} (hd : LDraw ⟨L, N, t⟩ kind n S' v e u) :
    ∃ t', S' = ⟨L, N, t'⟩ ∧ t'.length ≤ t.length + 1 ∧ (∃ d, t' = t ++ d) ∧ Plain L N t' (rdraw X kind n).1 tp ∧ v = ((rdraw X kind n).2.1 : Int) ∧ e = (rdraw X kind n).2.2 ∧
      (e = 2 → ∃ r tl, (rdraw X kind n).1.tape = r :: tl ∧ u = uv (t'.length : Int) kind (cnt n : Int) r.1 (r.2 : Int)) ∧ (e ≠ 2 → u = uz) := by
  obtain ⟨xn, xt, xi, xk⟩ := X
  obtain ⟨h1, h2, h3, h4⟩ := h
  simp only at h1 h2 h3 h4
  subst h1 h2
  cases xi with
  | true =>
    obtain ⟨rfl, rfl, hx, hl⟩ := h3 rfl
    cases xt with
    | nil =>
      have hlen : L.length ≤ xk.length := List.drop_eq_nil_iff.1 hx.symm
      obtain ⟨k1, k2, k3, k4⟩ := hd.spent (by simp [Src.many]; omega)
      have hr : rdraw ⟨[], [], true, xk⟩ kind n = (⟨[], [], true, xk⟩, 0, 1) := rfl
      refine ⟨xk, k1, by omega, ⟨[], by simp⟩, ?_, by rw [hr, k2]; rfl, by rw [hr, k3], (fun h => by rw [k3] at h; cases h), fun _ => k4⟩
      rw [hr]
      exact ⟨rfl, rfl, fun _ => ⟨rfl, rfl, hx, hl⟩, fun h => by cases h⟩
    | cons r tl =>
      have hlt : xk.length < L.length := by
        have := congrArg List.length hx
        simp at this; omega
      have hq : L[xk.length]? = some r := by
        have := congrArg (fun l => l[0]?) hx
        simpa using this.symm
      have hg : L.getD xk.length (0, 0) = r := by rw [List.getD_eq_getElem?_getD, hq]; rfl
      have hd' : L.drop (xk.length + 1) = tl := by
        have := congrArg (List.drop 1) hx
        simpa [List.drop_drop] using this.symm
      by_cases hf : r.1 = kind ∧ r.2 < cnt n
      · have hda : drawAt ⟨L, [], xk⟩ xk.length kind (cnt n) = some r.2 := by unfold drawAt; rw [if_pos hlt, hg, if_pos hf]
        have hr : rdraw ⟨[], r :: tl, true, xk⟩ kind n = (⟨[], tl, true, xk ++ [(kind, r.2)]⟩, r.2, 0) := by unfold rdraw; simp only [if_true]; rw [if_pos hf]
        rcases hd with ⟨k, _⟩ | ⟨_, k, _⟩ | ⟨_, x, k, k1, k2, k3, k4⟩
        · simp [Src.many] at k; omega
        · simp only at k; rw [hda] at k; cases k
        · simp only at k; rw [hda] at k; cases k
          refine ⟨xk ++ [(kind, r.2)], by rw [k1]; rfl, by simp, ⟨_, rfl⟩, ?_, by rw [hr, k2], by rw [hr, k3], (fun h => by rw [k3] at h; cases h), fun _ => k4⟩
          rw [hr]
          exact ⟨rfl, rfl, fun _ => ⟨rfl, rfl, by simp [hd'], by simp; omega⟩, fun h => by cases h⟩
      · have hda : drawAt ⟨L, [], xk⟩ xk.length kind (cnt n) = none := by unfold drawAt; rw [if_pos hlt, hg, if_neg hf]
        have hr : rdraw ⟨[], r :: tl, true, xk⟩ kind n = (⟨[], r :: tl, true, xk⟩, 0, 2) := by unfold rdraw; simp only [if_true]; rw [if_neg hf]
        rcases hd with ⟨k, _⟩ | ⟨_, k, k1, k2, k3, k4⟩ | ⟨_, x, k, _⟩
        · simp [Src.many] at k; omega
        · simp only at k4
          rw [hg] at k4
          refine ⟨xk, k1, by omega, ⟨[], by simp⟩, ?_, by rw [hr, k2]; rfl, by rw [hr, k3], fun _ => ⟨r, tl, by rw [hr], k4⟩, fun h => absurd k3 h⟩
          rw [hr]
          exact ⟨rfl, rfl, fun _ => ⟨rfl, rfl, hx, hl⟩, fun h => by cases h⟩
        · simp only at k; rw [hda] at k; cases k
  | false =>
    obtain ⟨rfl, rfl, hx, hl⟩ := h4 rfl
    cases xn with
    | nil =>
      have hlen : N.length ≤ xk.length := List.drop_eq_nil_iff.1 hx.symm
      obtain ⟨k1, k2, k3, k4⟩ := hd.spent (by simp [Src.many]; omega)
      have hr : rdraw ⟨[], [], false, xk⟩ kind n = (⟨[], [], false, xk⟩, 0, 1) := rfl
      refine ⟨xk, k1, by omega, ⟨[], by simp⟩, ?_, by rw [hr, k2]; rfl, by rw [hr, k3], (fun h => by rw [k3] at h; cases h), fun _ => k4⟩
      rw [hr]
      exact ⟨rfl, rfl, (fun h => by cases h), fun _ => ⟨rfl, rfl, hx, hl⟩⟩
    | cons y tl =>
      have hlt : xk.length < N.length := by
        have := congrArg List.length hx
        simp at this; omega
      have hq : N[xk.length]? = some y := by
        have := congrArg (fun l => l[0]?) hx
        simpa using this.symm
      have hd' : N.drop (xk.length + 1) = tl := by
        have := congrArg (List.drop 1) hx
        simpa [List.drop_drop] using this.symm
      obtain ⟨k1, k2, k3, k4⟩ := hd.oracle hlt
      have hg : N.getD xk.length 0 = y := by rw [List.getD_eq_getElem?_getD, hq]; rfl
      rw [hg] at k1 k2
      have hr : rdraw ⟨y :: tl, [], false, xk⟩ kind n = (⟨tl, [], false, xk ++ [(kind, y % cnt n)]⟩, y % cnt n, 0) := rfl
      refine ⟨xk ++ [(kind, y % cnt n)], k1, by simp, ⟨_, rfl⟩, ?_, by rw [hr, k2], by rw [hr, k3], (fun h => by rw [k3] at h; cases h), fun _ => k4⟩
      rw [hr]
      exact ⟨rfl, rfl, (fun h => by cases h), fun _ => ⟨rfl, rfl, by simp [hd'], by simp; omega⟩⟩
theorem recCells_drop (m : Nat) : ∀ l : List Rec, recCells (l.drop m) = (recCells l).drop (m * 2) := by
  induction m with
  | zero => intro l; simp
  | succ m ih =>
    intro l
    cases l with
    | nil => simp [recCells]
    | cons r tl =>
      rw [List.drop_succ_cons, ih, show (m + 1) * 2 = m * 2 + 2 by omega, show recCells (r :: tl) = Value.int .i64 r.1 :: Value.int .u64 (r.2 : Int) :: recCells tl from rfl]
      simp [List.drop_succ_cons]
/-- records[m:]. -/
theorem recs_from {P : Program} {t : TypeId} (ht : P.underlying t = some (.slice (P.elem t))) (hs : ∀ w, (sizeOf (P.elem t)).run P w = .ok 2 w) {w0 : World} {a : Option Addr} {cap m : Nat} {l : List Rec} (h : CellsAt w0 a (recCells l)) (hm : m ≤ l.length) (hc : l.length ≤ cap) :
    ∃ a' c', (∀ w, (Instr.slice t (.slice a l.length cap) (some (.int .i64 (m : Int))) none none).run P w = .ok (.slice a' (l.drop m).length c') w) ∧ CellsAt w0 a' (recCells (l.drop m)) := by
  by_cases hc1 : cap = m
  · refine ⟨a, cap - m, fun w => ?_, ?_⟩
    · rw [run_slice_l (P := P) (t := t) (ht := ht) (kl := .i64) (l := (m : Int)) (h0 := by omega) (h1 := by omega), hs]
      simp [Result.andThen, sliced, hc1]
    · rw [show l.drop m = [] from List.drop_eq_nil_iff.2 (by omega)]
      exact CellsAt.nil _ _
  · refine ⟨a.map (fun x => x.add (m * 2)), cap - m, fun w => ?_, ?_⟩
    · rw [run_slice_l (P := P) (t := t) (ht := ht) (kl := .i64) (l := (m : Int)) (h0 := by omega) (h1 := by omega), hs]
      simp [Result.andThen, sliced, hc1]
    · intro j v hj
      rw [recCells_drop, List.getElem?_drop] at hj
      obtain ⟨b, o, rfl, h2⟩ := h _ _ hj
      exact ⟨b, o + m * 2, by simp [Addr.add], by rw [Nat.add_assoc]; exact h2⟩
end Go.Proofs.Ytkjhaofodlpnmaa
