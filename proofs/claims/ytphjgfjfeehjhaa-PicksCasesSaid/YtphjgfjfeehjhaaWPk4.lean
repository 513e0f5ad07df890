/-
  The walk of the law's awake.
-/
import Derived.Test.YtphjgfjfeehjhaaWPk2
import Derived.Test.YtphjgfjfeehjhaaWPx4
open Go Go.RowKit
set_option linter.unusedVariables false
namespace Go.Proofs.Ytphjgfjfeehjhaa
set_option maxRecDepth 100000 in
set_option maxHeartbeats 4000000 in
theorem awake15_any (w : World) : Calls Try.prog 4 #[] w fun r w' => r = .returned (.bool true) ∧ Below w.heap.size w w' := by
  have he := else_any (w.alloc (.cells #[.int .i64 0, .int .i64 0, .int .i64 0, .int .i64 2, .int .i64 0, .int .i64 0] 34)) (some ⟨w.heap.size, 0, none⟩) 2 2 [(0, 0, 0), (2, 0, 0)] (CellsAt.new w [.int .i64 0, .int .i64 0, .int .i64 0, .int .i64 2, .int .i64 0, .int .i64 0] 34 rfl) rfl (by omega)
  have e1 : elF 0 [(0, 0, 0), (2, 0, 0)] = 1 := rfl
  rw [e1] at he
  simp only [show ¬ ((1 : Int) < 0) by omega, if_false, decide_false, Bool.not_false] at he
  have HE := Lib.hid he
  clear he e1
  go_enter Try.func4, Try.ntmps4
  go_wp2_with fail
  refine HE.out.mono ?_
  rintro r w2 ⟨rfl, b2⟩
  have B2 := Lib.hid (below_on (below_alloc1 w _) b2)
  clear b2 HE
  go_wp2_with fail
  refine (cnew_any (w0 := w) (Own.nil (below_on B2.out (below_alloc1 w2 (.cells #[.int .i64 1, .int .i64 0, .int .i64 0, .int .i64 0, .int .i64 0, .int .i64 0] 34)))) 1).mono ?_
  rintro r w3 ⟨p, rfl, o3, b3⟩
  have e2 : roomC 1 = 1 := rfl
  rw [e2] at o3
  have hO : Own w (w3.alloc (.cells #[.pointer (some ⟨p, 0, none⟩)] 49)) (chs [(p, 1)] [⟨[], [], [], false⟩] ++ RowGA 1 (some ⟨w3.heap.size, 0, none⟩) 1 1 (ptrs [(p, 1)]) :: []) :=
    (o3.add (below_alloc1 w3 (.cells #[.pointer (some ⟨p, 0, none⟩)] 49)) (A := RowGA 1 (some ⟨w3.heap.size, 0, none⟩) 1 1 (ptrs [(p, 1)])) (F := [w3.heap.size]) ⟨rfl, RowG.new 1 1 w3 (ptrs [(p, 1)]) _ rfl (by unfold maxLen; omega) rfl⟩ (fun x hx => by simp at hx; omega)).pick 1 rfl
  have hc : CellsAt (w3.alloc (.cells #[.pointer (some ⟨p, 0, none⟩)] 49)) (some ⟨w2.heap.size, 0, none⟩) (c3s [(1, 0, 0), (0, 0, 0)]) :=
    ((CellsAt.new w2 [.int .i64 1, .int .i64 0, .int .i64 0, .int .i64 0, .int .i64 0, .int .i64 0] 34 rfl).below b3).below (below_alloc1 _ _)
  have hn := enabled_any hO rfl rfl (some ⟨w2.heap.size, 0, none⟩) 2 2 [(1, 0, 0), (0, 0, 0)] hc rfl (by omega) (fun k hk => by simp at hk; rcases hk with rfl | rfl <;> simp)
  have e3 : enF (goesB [(p, 1)] [⟨[], [], [], false⟩]) 0 [(1, 0, 0), (0, 0, 0)] = [0] := by simp [enF, goesB, canR, canS]
  rw [e3] at hn
  have HN := Lib.hid hn
  have HB := Lib.hid hO.bel
  clear o3 b3 hO hc hn e3 e2 B2
  go_wp2_with fail
  refine HN.out.mono ?_
  rintro r w4 ⟨a, c, rfl, k1, -, b4⟩
  obtain ⟨bb, oo, rfl, g0⟩ := k1.cells.int 0 (by simp)
  have g0 : w4.cell? ⟨bb, oo, none⟩ = some (.int .i64 0) := g0
  have B4 := Lib.hid (below_on HB.out b4)
  clear k1 b4 HN HB
  go_wp2_with fail
  go_ret
  exact ⟨rfl, B4.out⟩
end Go.Proofs.Ytphjgfjfeehjhaa
