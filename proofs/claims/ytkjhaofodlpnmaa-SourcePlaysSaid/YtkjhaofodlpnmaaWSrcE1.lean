/-
  Sources: who sees the draws: the law's closure.
-/
import Derived.Test.YtkjhaofodlpnmaaWSrc4
import Derived.Test.YtkjhaofodlpnmaaWSrc6
open Go Go.RowKit
set_option linter.unusedVariables false
namespace Go.Proofs.Ytkjhaofodlpnmaa
/-- The variable that keeps what was seen. -/
def EyeA (bs : Nat) (seen : List Rec) : Asr where
  at_ w F := ∃ sa sc, Sep w [CelA bs [.slice sa seen.length sc], RowGA 2 sa sc seen.length (recCells seen)] F
  lt := by rintro w F ⟨_, _, h⟩; exact h.lt
  chg := by
    rintro w w' F G ⟨sa, sc, h⟩ c hd
    exact ⟨sa, sc, h.chg c hd⟩
theorem Own.eye {w0 w : World} {bs : Nat} {seen : List Rec} {R : List Asr} (h : Own w0 w (EyeA bs seen :: R)) : ∃ sa sc, Own w0 w (CelA bs [.slice sa seen.length sc] :: RowGA 2 sa sc seen.length (recCells seen) :: R) := by
  obtain ⟨As, ⟨sa, sc, rfl⟩, h1⟩ := Own.unfold h (P := fun As => ∃ sa sc, As = [CelA bs [.slice sa seen.length sc], RowGA 2 sa sc seen.length (recCells seen)]) (fun F ⟨sa, sc, h⟩ => ⟨_, ⟨sa, sc, rfl⟩, h⟩)
  exact ⟨sa, sc, h1⟩
theorem Own.eyeBack {w0 w : World} {bs : Nat} {seen : List Rec} {R : List Asr} {sa : Option Addr} {sc : Nat} (h : Own w0 w (CelA bs [.slice sa seen.length sc] :: RowGA 2 sa sc seen.length (recCells seen) :: R)) : Own w0 w (EyeA bs seen :: R) :=
  Own.fold (As := [CelA bs [.slice sa seen.length sc], RowGA 2 sa sc seen.length (recCells seen)]) h (fun F hF => ⟨sa, sc, hF⟩)
set_option maxRecDepth 100000 in
set_option maxHeartbeats 1000000 in
theorem eye_any {w0 w : World} {R : List Asr} {bs : Nat} {seen : List Rec} (h : Own w0 w (EyeA bs seen :: R)) (hl : seen.length ≤ 1000) (kind : Int) (v : Nat) :
    Calls Try.prog 10 #[.agg #[.int .i64 kind, .int .u64 (v : Int)], .pointer (some ⟨bs, 0, none⟩)] w fun r w' => r = .returned (.tuple #[]) ∧ Own w0 w' (EyeA bs (seen ++ [(kind, v)]) :: R) := by
  obtain ⟨sa, sc, h⟩ := h.eye
  obtain ⟨g0, -⟩ := h.cel 0 rfl 0 _ rfl
  have hbl := World.block_lt_of_cell? w _ g0
  obtain ⟨i0, hi0, hz0, hz1, hz2⟩ := info_parts info_rcd
  have Hi := Lib.hid hi0; clear hi0
  have Hz0 := Lib.hid hz0; clear hz0
  have Hz1 := Lib.hid hz1; clear hz1
  have Hz2 := Lib.hid hz2; clear hz2
  have H1 := Lib.hid (h.step (below_alloc1 w (.cells #[.int .i64 kind, .int .u64 (v : Int)] 37)))
  have hrow := (h.rowG 1 rfl)
  obtain ⟨n, hn⟩ : ∃ n, n = seen.length := ⟨_, rfl⟩
  rw [← hn] at H1 g0 hrow hl
  have HN := Lib.hid hn
  have HROW := Lib.hid hrow
  clear h hn hrow
  go_enter Try.func10, Try.ntmps10
  go_wp2_with (at_builtin; refine wpList_append_rowG (m := 1) (n := n) (cs := recCells seen) (ds := recCells [(kind, v)]) rfl _ _ 26 rfl 37 i0 _ Try.underlying26 Hi.out Hz0.out Hz1.out Hz2.out rfl (by omega) (by omega) rfl rfl ((HROW.out.below (below_alloc1 _ _)).below (below_alloc1 _ _)) (CellsAt.new _ (recCells [(kind, v)]) _ (by simp)) rfl (recc_one _) (by omega) ?_)
  intro a1 c1 w4 k1 ch1 f1
  have h5 := Own.rowTurn ((H1.out.step (below_alloc1 _ (.cells (recCells [(kind, v)]).toArray 37))).pick 1 rfl) k1 ch1 (fun x hx => by have := f1 x hx; simpa using this)
  obtain ⟨q0, y0⟩ := h5.cel 1 rfl 0 _ rfl
  have h6 := h5.setAt 1 rfl 0 (.slice a1 (n + 1) c1)
  have hf : Own w0 (w4.setCell ⟨bs, 0, none⟩ (.slice a1 (n + 1) c1)) (EyeA bs (seen ++ [(kind, v)]) :: R) := by
    have e : n + 1 = (seen ++ [(kind, v)]).length := by rw [HN.out]; simp
    have e2 : recCells seen ++ recCells [(kind, v)] = recCells (seen ++ [(kind, v)]) := by unfold recCells; simp
    rw [e2, e] at h6
    rw [e]
    exact Own.eyeBack (h6.pick 1 rfl)
  have HF := Lib.hid hf
  clear hf h6 h5 k1 ch1 f1 g0 hbl
  go_wp2
  first
    | refine bodyPost_ret (results_none rfl _ _ _) rfl ?_
    | refine bodyPost_end (results_none rfl _ _ _) rfl ?_
  exact ⟨rfl, HF.out⟩
end Go.Proofs.Ytkjhaofodlpnmaa
