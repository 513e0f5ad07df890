/-
  No cell of these rows narrows 'for every input' (looked for: loops, veiled, ifaces, maps, wideKeys, modest, calm, conditions, laid).
  DERIVED. THE GIVEN ROWS OF THIS SEAT. 12 by the template 'for every input the law returns true; each argument reads behind the call as it read before'; 0 by the template 'total and deterministic' (their statements: YtlagjdminknblaaGreatTotals.lean).
  GIVEN WITH THE SEED: the statements are not yours to turn. If you find one false, say at which input.
  Laid BY PROGRAM, IN A SANDBOX (cutbox-rows.mjs): the forced cells as the released guide's own fill.sh prints them over the translation 8156bb25616f958d… (all of the seat's roots in one cut). By AI agents, Wed Nov 11 2026. No macro, syntax, notation, axiom, sorry.
-/
import Derived.Test.YtlagjdminknblaaGreatChecked
import GoSem.Claim
import GoSem.ClaimJoined
import GoSem.ClaimMapViews
import Derived.JoinedTies
import Derived.KernelRfl
namespace Go.Proofs.YtlagjdminknblaaGreat
/- THE CELL 'sum', in the pinned program and in every row, IS THE sha256 OF THE DUMP (.gsa) THAT YtlagjdminknblaaGreatProg.lean LOADS. Nothing in Lean hashes anything: it is a label: what it is worth is what the hold of that sum in a sandbox is worth. -/
noncomputable def Tryz.pinned : Pinned := { name := "ytlagjdminknblaagreat", sum := "8156bb25616f958dab4b2772c5188bdc310e57216f4cde66afc24f199c6a41df", checked := Tryz.checked }
namespace Rows
def none {H : Type} : Left H := { results := [], args := [] }

/-- 'shunterlaw18.SchedChecks': WHATEVER THE INPUT: true; the input reads as it did. -/
def schedChecksSpec : ChangeSpec := { name := "schedChecks", fn := fun _ => fun
  | [d] => { results := [.lit (.bool true)], args := [d] }
  | _ => none }
def schedChecksRow : OpenClaim := { program := "ytlagjdminknblaagreat", sum := "8156bb25616f958dab4b2772c5188bdc310e57216f4cde66afc24f199c6a41df", func := "shunter/shunterlaw18.SchedChecks", spec := "schedChecks", unfollowed := true, recurses := true, apart := false }
def SchedChecksSaid : Prop := schedChecksRow.holds Tryz.pinned (OpenSpec.ofChange schedChecksSpec)

/-- ITS FALSE NEIGHBOUR: 'it returns false'. Refute it at one input. -/
def schedChecksWrong : ChangeSpec := { name := "schedChecks", fn := fun _ => fun
  | [d] => { results := [.lit (.bool false)], args := [d] }
  | _ => none }
def SchedChecksWrongFalsely : Prop := schedChecksRow.holds Tryz.pinned (OpenSpec.ofChange schedChecksWrong)

/-- 'shunterlaw18.SchedLost': WHATEVER THE INPUT: true; the input reads as it did. -/
def schedLostSpec : ChangeSpec := { name := "schedLost", fn := fun _ => fun
  | [d1, d2, d3] => { results := [.lit (.bool true)], args := [d1, d2, d3] }
  | _ => none }
def schedLostRow : OpenClaim := { program := "ytlagjdminknblaagreat", sum := "8156bb25616f958dab4b2772c5188bdc310e57216f4cde66afc24f199c6a41df", func := "shunter/shunterlaw18.SchedLost", spec := "schedLost", unfollowed := true, recurses := true, apart := false }
def SchedLostSaid : Prop := schedLostRow.holds Tryz.pinned (OpenSpec.ofChange schedLostSpec)

/-- ITS FALSE NEIGHBOUR: 'it returns false'. Refute it at one input. -/
def schedLostWrong : ChangeSpec := { name := "schedLost", fn := fun _ => fun
  | [d1, d2, d3] => { results := [.lit (.bool false)], args := [d1, d2, d3] }
  | _ => none }
def SchedLostWrongFalsely : Prop := schedLostRow.holds Tryz.pinned (OpenSpec.ofChange schedLostWrong)

/-- 'shunterlaw18.SchedAgain': WHATEVER THE INPUT: true; the input reads as it did. -/
def schedAgainSpec : ChangeSpec := { name := "schedAgain", fn := fun _ => fun
  | [d1, d2, d3] => { results := [.lit (.bool true)], args := [d1, d2, d3] }
  | _ => none }
def schedAgainRow : OpenClaim := { program := "ytlagjdminknblaagreat", sum := "8156bb25616f958dab4b2772c5188bdc310e57216f4cde66afc24f199c6a41df", func := "shunter/shunterlaw18.SchedAgain", spec := "schedAgain", unfollowed := true, recurses := true, apart := false }
def SchedAgainSaid : Prop := schedAgainRow.holds Tryz.pinned (OpenSpec.ofChange schedAgainSpec)

/-- ITS FALSE NEIGHBOUR: 'it returns false'. Refute it at one input. -/
def schedAgainWrong : ChangeSpec := { name := "schedAgain", fn := fun _ => fun
  | [d1, d2, d3] => { results := [.lit (.bool false)], args := [d1, d2, d3] }
  | _ => none }
def SchedAgainWrongFalsely : Prop := schedAgainRow.holds Tryz.pinned (OpenSpec.ofChange schedAgainWrong)

/-- 'shunterlaw18.SchedAlone': WHATEVER THE INPUT: true; the input reads as it did. -/
def schedAloneSpec : ChangeSpec := { name := "schedAlone", fn := fun _ => fun
  | [d1, d2, d3] => { results := [.lit (.bool true)], args := [d1, d2, d3] }
  | _ => none }
def schedAloneRow : OpenClaim := { program := "ytlagjdminknblaagreat", sum := "8156bb25616f958dab4b2772c5188bdc310e57216f4cde66afc24f199c6a41df", func := "shunter/shunterlaw18.SchedAlone", spec := "schedAlone", unfollowed := true, recurses := true, apart := false }
def SchedAloneSaid : Prop := schedAloneRow.holds Tryz.pinned (OpenSpec.ofChange schedAloneSpec)

/-- ITS FALSE NEIGHBOUR: 'it returns false'. Refute it at one input. -/
def schedAloneWrong : ChangeSpec := { name := "schedAlone", fn := fun _ => fun
  | [d1, d2, d3] => { results := [.lit (.bool false)], args := [d1, d2, d3] }
  | _ => none }
def SchedAloneWrongFalsely : Prop := schedAloneRow.holds Tryz.pinned (OpenSpec.ofChange schedAloneWrong)

/-- 'shunterlaw18.SchedWakes': WHATEVER THE INPUT: true; the input reads as it did. -/
def schedWakesSpec : ChangeSpec := { name := "schedWakes", fn := fun _ => fun
  | [d1, d2] => { results := [.lit (.bool true)], args := [d1, d2] }
  | _ => none }
def schedWakesRow : OpenClaim := { program := "ytlagjdminknblaagreat", sum := "8156bb25616f958dab4b2772c5188bdc310e57216f4cde66afc24f199c6a41df", func := "shunter/shunterlaw18.SchedWakes", spec := "schedWakes", unfollowed := true, recurses := true, apart := false }
def SchedWakesSaid : Prop := schedWakesRow.holds Tryz.pinned (OpenSpec.ofChange schedWakesSpec)

/-- ITS FALSE NEIGHBOUR: 'it returns false'. Refute it at one input. -/
def schedWakesWrong : ChangeSpec := { name := "schedWakes", fn := fun _ => fun
  | [d1, d2] => { results := [.lit (.bool false)], args := [d1, d2] }
  | _ => none }
def SchedWakesWrongFalsely : Prop := schedWakesRow.holds Tryz.pinned (OpenSpec.ofChange schedWakesWrong)

/-- 'shunterlaw18.SchedSteals': WHATEVER THE INPUT: true; the input reads as it did. -/
def schedStealsSpec : ChangeSpec := { name := "schedSteals", fn := fun _ => fun
  | [d] => { results := [.lit (.bool true)], args := [d] }
  | _ => none }
def schedStealsRow : OpenClaim := { program := "ytlagjdminknblaagreat", sum := "8156bb25616f958dab4b2772c5188bdc310e57216f4cde66afc24f199c6a41df", func := "shunter/shunterlaw18.SchedSteals", spec := "schedSteals", unfollowed := true, recurses := true, apart := false }
def SchedStealsSaid : Prop := schedStealsRow.holds Tryz.pinned (OpenSpec.ofChange schedStealsSpec)

/-- ITS FALSE NEIGHBOUR: 'it returns false'. Refute it at one input. -/
def schedStealsWrong : ChangeSpec := { name := "schedSteals", fn := fun _ => fun
  | [d] => { results := [.lit (.bool false)], args := [d] }
  | _ => none }
def SchedStealsWrongFalsely : Prop := schedStealsRow.holds Tryz.pinned (OpenSpec.ofChange schedStealsWrong)

/-- 'shunterlaw19.SnapAlike': WHATEVER THE INPUT: true; the input reads as it did. -/
def snapAlikeSpec : ChangeSpec := { name := "snapAlike", fn := fun _ => fun
  | [d1, d2, d3] => { results := [.lit (.bool true)], args := [d1, d2, d3] }
  | _ => none }
def snapAlikeRow : OpenClaim := { program := "ytlagjdminknblaagreat", sum := "8156bb25616f958dab4b2772c5188bdc310e57216f4cde66afc24f199c6a41df", func := "shunter/shunterlaw19.SnapAlike", spec := "snapAlike", inPlace := ["internal/abi.NoEscape"], unfollowed := true, recurses := true, apart := false }
def SnapAlikeSaid : Prop := snapAlikeRow.holds Tryz.pinned (OpenSpec.ofChange snapAlikeSpec)

/-- ITS FALSE NEIGHBOUR: 'it returns false'. Refute it at one input. -/
def snapAlikeWrong : ChangeSpec := { name := "snapAlike", fn := fun _ => fun
  | [d1, d2, d3] => { results := [.lit (.bool false)], args := [d1, d2, d3] }
  | _ => none }
def SnapAlikeWrongFalsely : Prop := snapAlikeRow.holds Tryz.pinned (OpenSpec.ofChange snapAlikeWrong)

/-- 'shunterlaw20.TraceSeen': WHATEVER THE INPUT: true; the input reads as it did. -/
def traceSeenSpec : ChangeSpec := { name := "traceSeen", fn := fun _ => fun
  | [d1, d2, d3, d4] => { results := [.lit (.bool true)], args := [d1, d2, d3, d4] }
  | _ => none }
def traceSeenRow : OpenClaim := { program := "ytlagjdminknblaagreat", sum := "8156bb25616f958dab4b2772c5188bdc310e57216f4cde66afc24f199c6a41df", func := "shunter/shunterlaw20.TraceSeen", spec := "traceSeen", unfollowed := true, recurses := true, apart := false }
def TraceSeenSaid : Prop := traceSeenRow.holds Tryz.pinned (OpenSpec.ofChange traceSeenSpec)

/-- ITS FALSE NEIGHBOUR: 'it returns false'. Refute it at one input. -/
def traceSeenWrong : ChangeSpec := { name := "traceSeen", fn := fun _ => fun
  | [d1, d2, d3, d4] => { results := [.lit (.bool false)], args := [d1, d2, d3, d4] }
  | _ => none }
def TraceSeenWrongFalsely : Prop := traceSeenRow.holds Tryz.pinned (OpenSpec.ofChange traceSeenWrong)

/-- 'shuntertop.ShunterSum': WHATEVER THE INPUT: true; the input reads as it did. -/
def shunterSumSpec : ChangeSpec := { name := "shunterSum", fn := fun _ => fun
  | [d1, d2, d3, d4] => { results := [.lit (.bool true)], args := [d1, d2, d3, d4] }
  | _ => none }
def shunterSumRow : OpenClaim := { program := "ytlagjdminknblaagreat", sum := "8156bb25616f958dab4b2772c5188bdc310e57216f4cde66afc24f199c6a41df", func := "shunter/shuntertop.ShunterSum", spec := "shunterSum", unfollowed := true, recurses := true, apart := false }
def ShunterSumSaid : Prop := shunterSumRow.holds Tryz.pinned (OpenSpec.ofChange shunterSumSpec)

/-- ITS FALSE NEIGHBOUR: 'it returns false'. Refute it at one input. -/
def shunterSumWrong : ChangeSpec := { name := "shunterSum", fn := fun _ => fun
  | [d1, d2, d3, d4] => { results := [.lit (.bool false)], args := [d1, d2, d3, d4] }
  | _ => none }
def ShunterSumWrongFalsely : Prop := shunterSumRow.holds Tryz.pinned (OpenSpec.ofChange shunterSumWrong)

/-- 'shuntertop.ShunterLocked': WHATEVER THE INPUT: true; the input reads as it did. -/
def shunterLockedSpec : ChangeSpec := { name := "shunterLocked", fn := fun _ => fun
  | [d1, d2, d3] => { results := [.lit (.bool true)], args := [d1, d2, d3] }
  | _ => none }
def shunterLockedRow : OpenClaim := { program := "ytlagjdminknblaagreat", sum := "8156bb25616f958dab4b2772c5188bdc310e57216f4cde66afc24f199c6a41df", func := "shunter/shuntertop.ShunterLocked", spec := "shunterLocked", unfollowed := true, recurses := true, apart := false }
def ShunterLockedSaid : Prop := shunterLockedRow.holds Tryz.pinned (OpenSpec.ofChange shunterLockedSpec)

/-- ITS FALSE NEIGHBOUR: 'it returns false'. Refute it at one input. -/
def shunterLockedWrong : ChangeSpec := { name := "shunterLocked", fn := fun _ => fun
  | [d1, d2, d3] => { results := [.lit (.bool false)], args := [d1, d2, d3] }
  | _ => none }
def ShunterLockedWrongFalsely : Prop := shunterLockedRow.holds Tryz.pinned (OpenSpec.ofChange shunterLockedWrong)

/-- 'shuntertop.ShunterPipe': WHATEVER THE INPUT: true; the input reads as it did. -/
def shunterPipeSpec : ChangeSpec := { name := "shunterPipe", fn := fun _ => fun
  | [d1, d2, d3, d4, d5] => { results := [.lit (.bool true)], args := [d1, d2, d3, d4, d5] }
  | _ => none }
def shunterPipeRow : OpenClaim := { program := "ytlagjdminknblaagreat", sum := "8156bb25616f958dab4b2772c5188bdc310e57216f4cde66afc24f199c6a41df", func := "shunter/shuntertop.ShunterPipe", spec := "shunterPipe", unfollowed := true, recurses := true, apart := false }
def ShunterPipeSaid : Prop := shunterPipeRow.holds Tryz.pinned (OpenSpec.ofChange shunterPipeSpec)

/-- ITS FALSE NEIGHBOUR: 'it returns false'. Refute it at one input. -/
def shunterPipeWrong : ChangeSpec := { name := "shunterPipe", fn := fun _ => fun
  | [d1, d2, d3, d4, d5] => { results := [.lit (.bool false)], args := [d1, d2, d3, d4, d5] }
  | _ => none }
def ShunterPipeWrongFalsely : Prop := shunterPipeRow.holds Tryz.pinned (OpenSpec.ofChange shunterPipeWrong)

/-- 'shuntertop.ShunterMachines': WHATEVER THE INPUT: true; the input reads as it did. -/
def shunterMachinesSpec : ChangeSpec := { name := "shunterMachines", fn := fun _ => fun
  | [d1, d2, d3] => { results := [.lit (.bool true)], args := [d1, d2, d3] }
  | _ => none }
def shunterMachinesRow : OpenClaim := { program := "ytlagjdminknblaagreat", sum := "8156bb25616f958dab4b2772c5188bdc310e57216f4cde66afc24f199c6a41df", func := "shunter/shuntertop.ShunterMachines", spec := "shunterMachines", unfollowed := true, recurses := true, apart := false }
def ShunterMachinesSaid : Prop := shunterMachinesRow.holds Tryz.pinned (OpenSpec.ofChange shunterMachinesSpec)

/-- ITS FALSE NEIGHBOUR: 'it returns false'. Refute it at one input. -/
def shunterMachinesWrong : ChangeSpec := { name := "shunterMachines", fn := fun _ => fun
  | [d1, d2, d3] => { results := [.lit (.bool false)], args := [d1, d2, d3] }
  | _ => none }
def ShunterMachinesWrongFalsely : Prop := shunterMachinesRow.holds Tryz.pinned (OpenSpec.ofChange shunterMachinesWrong)

/- THE SECOND FORM. 'bulk': how many values and letters a reading holds, each counted each time it is reached (what is shared counts as often as it is met; a slice's spare places count too). A statement '..UptoSaid' is the law's where the arguments, and the package variables that the reading takes, are together of bulk at most 1048576: NARROWER than '..Said'. Prove '..Said' where nothing that the law and all that it calls make is longer than what came in: it says more and counts as full. Else prove '..UptoSaid'. A law counts once. -/
mutual
def uptoBulk {H : Type} : DataW H → Nat
  | .lit (.string bytes) => bytes.length + 1
  | .lit _ => 1
  | .nil => 1
  | .ptr d => uptoBulk d + 1
  | .slice elems spare => uptoBulkAll elems + uptoBulkAll spare + 1
  | .agg parts => uptoBulkAll parts + 1
  | .iface _ d => uptoBulk d + 1
  | .map entries => uptoBulkEntries entries + 1
  | .held _ => 1
def uptoBulkAll {H : Type} : List (DataW H) → Nat
  | [] => 0
  | d :: r => uptoBulk d + uptoBulkAll r
def uptoBulkEntries {H : Type} : List (Lit × DataW H) → Nat
  | [] => 0
  | x :: r => uptoBulkEntry x + uptoBulkEntries r
def uptoBulkEntry {H : Type} : Lit × DataW H → Nat
  | (.string bytes, d) => bytes.length + uptoBulk d + 1
  | (_, d) => uptoBulk d + 1
 end
def uptoSmall : (H : Type) → List (DataW H) → Bool := fun _ ds => decide (uptoBulkAll ds ≤ 1048576)
def OpenSpec.upto (s : _root_.Go.ChangeSpec) : _root_.Go.OpenSpec := { _root_.Go.OpenSpec.ofChange s with cond := some uptoSmall }

/-- 'shunterlaw18.SchedChecks', WHERE WHAT IT READS IS OF BULK AT MOST 1048576: true; the input reads as it did. -/
def schedChecksUptoRow : OpenClaim := { program := "ytlagjdminknblaagreat", sum := "8156bb25616f958dab4b2772c5188bdc310e57216f4cde66afc24f199c6a41df", func := "shunter/shunterlaw18.SchedChecks", spec := "schedChecks", unfollowed := true, recurses := true, apart := false, narrowed := true }
def SchedChecksUptoSaid : Prop := schedChecksUptoRow.holds Tryz.pinned (OpenSpec.upto schedChecksSpec)

/-- 'shunterlaw18.SchedLost', WHERE WHAT IT READS IS OF BULK AT MOST 1048576: true; the input reads as it did. -/
def schedLostUptoRow : OpenClaim := { program := "ytlagjdminknblaagreat", sum := "8156bb25616f958dab4b2772c5188bdc310e57216f4cde66afc24f199c6a41df", func := "shunter/shunterlaw18.SchedLost", spec := "schedLost", unfollowed := true, recurses := true, apart := false, narrowed := true }
def SchedLostUptoSaid : Prop := schedLostUptoRow.holds Tryz.pinned (OpenSpec.upto schedLostSpec)

/-- 'shunterlaw18.SchedAgain', WHERE WHAT IT READS IS OF BULK AT MOST 1048576: true; the input reads as it did. -/
def schedAgainUptoRow : OpenClaim := { program := "ytlagjdminknblaagreat", sum := "8156bb25616f958dab4b2772c5188bdc310e57216f4cde66afc24f199c6a41df", func := "shunter/shunterlaw18.SchedAgain", spec := "schedAgain", unfollowed := true, recurses := true, apart := false, narrowed := true }
def SchedAgainUptoSaid : Prop := schedAgainUptoRow.holds Tryz.pinned (OpenSpec.upto schedAgainSpec)

/-- 'shunterlaw18.SchedAlone', WHERE WHAT IT READS IS OF BULK AT MOST 1048576: true; the input reads as it did. -/
def schedAloneUptoRow : OpenClaim := { program := "ytlagjdminknblaagreat", sum := "8156bb25616f958dab4b2772c5188bdc310e57216f4cde66afc24f199c6a41df", func := "shunter/shunterlaw18.SchedAlone", spec := "schedAlone", unfollowed := true, recurses := true, apart := false, narrowed := true }
def SchedAloneUptoSaid : Prop := schedAloneUptoRow.holds Tryz.pinned (OpenSpec.upto schedAloneSpec)

/-- 'shunterlaw18.SchedWakes', WHERE WHAT IT READS IS OF BULK AT MOST 1048576: true; the input reads as it did. -/
def schedWakesUptoRow : OpenClaim := { program := "ytlagjdminknblaagreat", sum := "8156bb25616f958dab4b2772c5188bdc310e57216f4cde66afc24f199c6a41df", func := "shunter/shunterlaw18.SchedWakes", spec := "schedWakes", unfollowed := true, recurses := true, apart := false, narrowed := true }
def SchedWakesUptoSaid : Prop := schedWakesUptoRow.holds Tryz.pinned (OpenSpec.upto schedWakesSpec)

/-- 'shunterlaw18.SchedSteals', WHERE WHAT IT READS IS OF BULK AT MOST 1048576: true; the input reads as it did. -/
def schedStealsUptoRow : OpenClaim := { program := "ytlagjdminknblaagreat", sum := "8156bb25616f958dab4b2772c5188bdc310e57216f4cde66afc24f199c6a41df", func := "shunter/shunterlaw18.SchedSteals", spec := "schedSteals", unfollowed := true, recurses := true, apart := false, narrowed := true }
def SchedStealsUptoSaid : Prop := schedStealsUptoRow.holds Tryz.pinned (OpenSpec.upto schedStealsSpec)

/-- 'shunterlaw19.SnapAlike', WHERE WHAT IT READS IS OF BULK AT MOST 1048576: true; the input reads as it did. -/
def snapAlikeUptoRow : OpenClaim := { program := "ytlagjdminknblaagreat", sum := "8156bb25616f958dab4b2772c5188bdc310e57216f4cde66afc24f199c6a41df", func := "shunter/shunterlaw19.SnapAlike", spec := "snapAlike", inPlace := ["internal/abi.NoEscape"], unfollowed := true, recurses := true, apart := false, narrowed := true }
def SnapAlikeUptoSaid : Prop := snapAlikeUptoRow.holds Tryz.pinned (OpenSpec.upto snapAlikeSpec)

/-- 'shunterlaw20.TraceSeen', WHERE WHAT IT READS IS OF BULK AT MOST 1048576: true; the input reads as it did. -/
def traceSeenUptoRow : OpenClaim := { program := "ytlagjdminknblaagreat", sum := "8156bb25616f958dab4b2772c5188bdc310e57216f4cde66afc24f199c6a41df", func := "shunter/shunterlaw20.TraceSeen", spec := "traceSeen", unfollowed := true, recurses := true, apart := false, narrowed := true }
def TraceSeenUptoSaid : Prop := traceSeenUptoRow.holds Tryz.pinned (OpenSpec.upto traceSeenSpec)

/-- 'shuntertop.ShunterSum', WHERE WHAT IT READS IS OF BULK AT MOST 1048576: true; the input reads as it did. -/
def shunterSumUptoRow : OpenClaim := { program := "ytlagjdminknblaagreat", sum := "8156bb25616f958dab4b2772c5188bdc310e57216f4cde66afc24f199c6a41df", func := "shunter/shuntertop.ShunterSum", spec := "shunterSum", unfollowed := true, recurses := true, apart := false, narrowed := true }
def ShunterSumUptoSaid : Prop := shunterSumUptoRow.holds Tryz.pinned (OpenSpec.upto shunterSumSpec)

/-- 'shuntertop.ShunterLocked', WHERE WHAT IT READS IS OF BULK AT MOST 1048576: true; the input reads as it did. -/
def shunterLockedUptoRow : OpenClaim := { program := "ytlagjdminknblaagreat", sum := "8156bb25616f958dab4b2772c5188bdc310e57216f4cde66afc24f199c6a41df", func := "shunter/shuntertop.ShunterLocked", spec := "shunterLocked", unfollowed := true, recurses := true, apart := false, narrowed := true }
def ShunterLockedUptoSaid : Prop := shunterLockedUptoRow.holds Tryz.pinned (OpenSpec.upto shunterLockedSpec)

/-- 'shuntertop.ShunterPipe', WHERE WHAT IT READS IS OF BULK AT MOST 1048576: true; the input reads as it did. -/
def shunterPipeUptoRow : OpenClaim := { program := "ytlagjdminknblaagreat", sum := "8156bb25616f958dab4b2772c5188bdc310e57216f4cde66afc24f199c6a41df", func := "shunter/shuntertop.ShunterPipe", spec := "shunterPipe", unfollowed := true, recurses := true, apart := false, narrowed := true }
def ShunterPipeUptoSaid : Prop := shunterPipeUptoRow.holds Tryz.pinned (OpenSpec.upto shunterPipeSpec)

/-- 'shuntertop.ShunterMachines', WHERE WHAT IT READS IS OF BULK AT MOST 1048576: true; the input reads as it did. -/
def shunterMachinesUptoRow : OpenClaim := { program := "ytlagjdminknblaagreat", sum := "8156bb25616f958dab4b2772c5188bdc310e57216f4cde66afc24f199c6a41df", func := "shunter/shuntertop.ShunterMachines", spec := "shunterMachines", unfollowed := true, recurses := true, apart := false, narrowed := true }
def ShunterMachinesUptoSaid : Prop := shunterMachinesUptoRow.holds Tryz.pinned (OpenSpec.upto shunterMachinesSpec)

end Rows
end Go.Proofs.YtlagjdminknblaaGreat
