/-
  The walk of the law SourceGuards.
-/
import Derived.Test.YtnmkkeifdfhpfaaWGrd4
import Derived.Test.YtnmkkeifdfhpfaaWSrcAw
open Go Go.RowKit
set_option linter.unusedVariables false
namespace Go.Proofs.Ytnmkkeifdfhpfaa.sourceGuards
set_option maxRecDepth 100000 in
set_option maxHeartbeats 1000000 in
theorem run_any (w : World) : Calls Try.prog 22 #[] w fun r w' => r = .returned (.tuple #[]) ∧ w' = w := by
  go_enter Try.func22, Try.ntmps22
  go_wp2
  first
    | refine bodyPost_ret (results_none rfl _ _ _) rfl ?_
    | refine bodyPost_end (results_none rfl _ _ _) rfl ?_
  exact ⟨rfl, rfl⟩
set_option maxRecDepth 100000 in
set_option maxHeartbeats 2000000 in
theorem walk (a0 : ByteArray) (w : World) (w0 : a0.size ≤ maxLen) (s0 : a0.size ≤ 140737488351232) :
    Calls Try.prog 5 #[.string a0] w fun e w' => e = .returned (.bool true) ∧ Below w.heap.size w w' := by
  clear w0
  have en : ∀ (args : Array Value) (w : World), (callFunc 22 args).run Try.prog w = .ok (.enter 22 args) w := by intro args w; kernel_rfl
  have hg := fun w1 (hb : Below w.heap.size w w1) => guard_any (Own.nil (w0 := w) hb) 22 #[] en (fun r R' => r = .returned (.tuple #[]) ∧ R' = [])
    (fun w2 g hg => (run_any w2).mono (fun r w3 h => by
      obtain ⟨rfl, rfl⟩ := h
      exact ⟨[], 0, uz, hg, ⟨rfl, rfl⟩, .inl ⟨rfl, rfl, rfl⟩⟩))
  have HG := Lib.hid hg
  have hp := fun w1 => passes_any w1 a0 s0
  have HP := Lib.hid hp
  have heq : ∀ w : World, (binOp .eql 44 (.agg #[.int .i64 0, .int .i64 0, .int .i64 0, .int .i64 0, .int .u64 0]) (.agg #[.int .i64 0, .int .i64 0, .int .i64 0, .int .i64 0, .int .u64 0])).run Try.prog w = .ok (.bool true) w := by intro w; kernel_rfl
  have heg : ∀ w : World, (eqGuard .eql 44 (.tmp 14) (.tmp 15) (.agg #[.int .i64 0, .int .i64 0, .int .i64 0, .int .i64 0, .int .u64 0]) (.agg #[.int .i64 0, .int .i64 0, .int .i64 0, .int .i64 0, .int .u64 0])).run Try.prog w = .ok () w := by intro w; kernel_rfl
  clear hg hp en
  go_enter Try.func5, Try.ntmps5
  go_wp2_with fail
  refine (awake17_any _).mono ?_
  rintro e w2 ⟨rfl, hb⟩
  have HB := Lib.hid hb
  clear hb
  go_wp2_with fail
  refine (HG.out _ HB.out).mono ?_
  rintro r w3 ⟨r', R', k, u, ho, ⟨rfl, rfl⟩, he, rfl⟩
  obtain ⟨rfl, rfl⟩ : k = 0 ∧ u = uz := by
    rcases he with ⟨_, h1, h2⟩ | ⟨h, _⟩ | ⟨_, _, _, _, h, _⟩
    · exact ⟨h1, h2⟩
    · cases h
    · cases h
  have HB3 := Lib.hid (below_on ho.bel (below_alloc1 w3 (.cells uz.toArray 44)))
  clear HG HB he ho
  unfold uz at HB3 ⊢
  go_wp2_with fail
  refine (HP.out _).mono ?_
  rintro r w4 ⟨rfl, hb⟩
  have HB4 := Lib.hid (below_on HB3.out hb)
  clear hb HB3 HP
  go_wp2
  go_ret
  exact ⟨rfl, HB4.out⟩
end Go.Proofs.Ytnmkkeifdfhpfaa.sourceGuards
