/-
  The walk of the reference's Get.
-/
import Derived.Test.YtnpmapmdeldnmaaRows
import Derived.Test.YtnpmapmdeldnmaaWGet
open Go Go.RowKit
set_option linter.unusedVariables false
namespace Go.Proofs.Ytnpmapmdeldnmaa
theorem index_run (s : ByteArray) (i : Nat) (h : i < s.size) (z : Int) (hz : z = i) (w : World) :
    (Instr.index 9 (.string s) (.int .i64 z)).run Try.prog w = .ok (.int .u8 s[i].toNat) w := by
  subst hz
  rw [run_index_string w _ s .i64 _ Try.underlying9, dif_pos ⟨by omega, by omega⟩]; rfl
end Go.Proofs.Ytnpmapmdeldnmaa
