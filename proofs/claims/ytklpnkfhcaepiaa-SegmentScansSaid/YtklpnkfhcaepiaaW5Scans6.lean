/-
  The walk of the law SegmentScans.
-/
import Derived.Test.YtklpnkfhcaepiaaW5Scans4
import Derived.Test.YtklpnkfhcaepiaaW5Scans5
open Go Go.RowKit
namespace Go.Proofs.Ytklpnkfhcaepiaa.segmentScans
theorem walk (a0 : Int) (aa : Option Addr) (len0 cap0 : Nat) (l0 : List ByteArray) (a2 : Int) (a3 : ByteArray) (a4 : Int) (w : World) (v0 : (Lit.int .u64 a0).wf = true) (v1 : IsStrs w aa len0 cap0 l0) (v2 : (Lit.int .i64 a2).wf = true) (v3 : a3.size ≤ maxLen) (v4 : (Lit.int .i64 a4).wf = true) :
    Calls Try.prog 6 #[.int .u64 a0, .slice aa len0 cap0, .int .i64 a2, .string a3, .int .i64 a4] w fun e w' => e = .returned (.bool true) ∧ Below w.heap.size w w' :=
  walk_of see_any a0 aa len0 cap0 l0 a2 a3 a4 w v0 v1 v2 v3 v4
end Go.Proofs.Ytklpnkfhcaepiaa.segmentScans
