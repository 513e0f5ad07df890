/-
  What a call on the document's row of channels leaves.
-/
import Derived.Test.YtphjgfjfeehjhaaRfF
open Go Go.RowKit
set_option linter.unusedVariables false
namespace Go.Proofs.Ytphjgfjfeehjhaa
theorem info_xc : (Try.prog.info? 53).map (fun i => (i.zero, i.size, i.bytes)) = some (some (.agg #[.int .i64 0, .slice none 0 0, .slice none 0 0, .slice none 0 0, .bool false]), 5, 88) := by kernel_rfl
/-- Behind it. -/
def XWaited (w0 w : World) (R : List Asr) (rs : List Rw) (n : Nat) (Ns : List Nat) (Cs : List Ch) (r : Ending) (w' : World) : Prop :=
  ∃ a' c' xs' rs', r = .returned (.slice a' n c') ∧ xs'.map (·.N) = Ns ∧ xs'.map (·.C) = Cs ∧ (∀ x ∈ xs', x.In rs') ∧ (∀ q ∈ rs, q ∈ rs') ∧ Own w0 w' (RowGA 5 a' c' n (rfs xs') :: PoolR rs' :: R) ∧ Below w.heap.size w w'
end Go.Proofs.Ytphjgfjfeehjhaa
