/-
  Regions that draw their order (as SegH.lean), out of which a call may panic: the body's post of a panic does not hang on the frame's slots. No program is named here.
-/
import Derived.Test.YtkjhaofodlpnmaaSegH2
open Go Go.RowKit
set_option linter.unusedVariables false
namespace Go.Proofs.Ytkjhaofodlpnmaa
section
variable {P : Program} {Q : Exit → Act → World → Prop} {S : World → Prop}
theorem wp_region_lexP {id : Nat} {a : Act} {w : World} {l : List Oper} (S : World → Prop) (fuel : Nat) (listed : Array Bool) (hm : P.follows .mixedOrders = true) (hB : (decide (l.length = fuel) && (Array.replicate l.length false == listed)) = true)
    (h : wpAnyH P .any l.toArray Q S fuel listed a w.drew) : (Code.region id l.toArray true).wp P Q a w := by
  simp only [Bool.and_eq_true, decide_eq_true_eq, beq_iff_eq] at hB
  obtain ⟨rfl, rfl⟩ := hB
  exact wp_region_held hm (by simpa using h)
theorem body_put {K : Act → World → Prop} {fn : Func} {R : Ending → World → Prop} (d : Option Tmp) (v : Value) (c : _) (a : Act) (w : World) : Exit.then K (bodyPost P fn R) (.panic c) (a.put d v) w → Exit.then K (bodyPost P fn R) (.panic c) a w := by
  cases d <;> exact fun h => h
end
end Go.Proofs.Ytkjhaofodlpnmaa
