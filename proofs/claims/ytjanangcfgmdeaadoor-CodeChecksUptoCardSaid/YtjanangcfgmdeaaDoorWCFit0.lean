/-
  What fit answers.
-/
import Derived.Test.YtjanangcfgmdeaaDoorWCMod
import Derived.StillTailTactics
open Go Go.RowKit
set_option linter.unusedVariables false
namespace Go.Proofs.YtjanangcfgmdeaaDoor
theorem ins_get {w : World} {b : Nat} {o x y z : Int} (h : Blk w b [.int .i64 o, .int .i64 x, .int .i64 y, .int .i64 z]) : (loadVar 43 ⟨b, 0, none⟩).run Tryd.prog w = .ok (.agg #[.int .i64 o, .int .i64 x, .int .i64 y, .int .i64 z]) w := by
  have e0 := (h 0 _ rfl).1
  have e1 := (h 1 _ rfl).1
  have e2 := (h 2 _ rfl).1
  have e3 := (h 3 _ rfl).1
  simp [go_sem, e0, e1, e2, e3]
/-- What fit answers. -/
def FitP (nf nc nk : Nat) (lk : Int) (n : Nat) (w : World) (e : Ending) (w' : World) : Prop := ∃ x : In4, e = .returned (.agg #[.int .i64 x.1, .int .i64 x.2.1, .int .i64 x.2.2.1, .int .i64 x.2.2.2]) ∧ insI nf nc nk lk n x = 0 ∧ i64b x.2.2.1 ∧ Below w.heap.size w w'
theorem FitP.mk {nf nc nk : Nat} {lk : Int} {n : Nat} {w w' : World} (o a b c : Int) (h1 : insI nf nc nk lk n (o, a, b, c) = 0) (h2 : i64b b) (h3 : Below w.heap.size w w') : FitP nf nc nk lk n w (.returned (.agg #[.int .i64 o, .int .i64 a, .int .i64 b, .int .i64 c])) w' := ⟨(o, a, b, c), rfl, h1, h2, h3⟩
theorem insI_zero {nf nc nk : Nat} {lk : Int} {n : Nat} {o a b c : Int} (hb : i64b b) (ho : 0 ≤ o ∧ o ≤ 22) (hk : nk ≤ 1000) (h : goodB nf nc nk lk n (o, a, b, c) = some true) : insI nf nc nk lk n (o, a, b, c) = 0 := by
  obtain ⟨g, h1, h2⟩ := insI_good nf nc nk lk n o a b c hb ho hk
  rw [h] at h1
  cases h1
  rw [h2]; rfl
end Go.Proofs.YtjanangcfgmdeaaDoor
