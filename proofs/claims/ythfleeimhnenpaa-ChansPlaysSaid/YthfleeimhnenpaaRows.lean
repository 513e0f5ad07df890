/-
  No cell of these rows narrows 'for every input' (looked for: loops, veiled, ifaces, maps, wideKeys, modest, calm, conditions, laid).
  DERIVED. THE GIVEN ROWS OF THIS SEAT. 7 by the template 'for every input the law returns true; each argument reads behind the call as it read before'; 0 by the template 'total and deterministic' (their statements: YthfleeimhnenpaaTotals.lean).
  GIVEN WITH THE SEED: the statements are not yours to turn. If you find one false, say at which input.
  Laid BY PROGRAM, IN A SANDBOX (cutbox-rows.mjs): the forced cells as the released guide's own fill.sh prints them over the translation 312c742cdd4cfc52… (all of the seat's roots in one cut). By AI agents, Wed Nov 11 2026. No macro, syntax, notation, axiom, sorry.
-/
import Derived.Test.YthfleeimhnenpaaChecked
import GoSem.Claim
import GoSem.ClaimJoined
import GoSem.ClaimMapViews
import Derived.JoinedTies
import Derived.KernelRfl
namespace Go.Proofs.Ythfleeimhnenpaa
/- THE CELL 'sum', in the pinned program and in every row, IS THE sha256 OF THE DUMP (.gsa) THAT YthfleeimhnenpaaProg.lean LOADS. Nothing in Lean hashes anything: it is a label: what it is worth is what the hold of that sum in a sandbox is worth. -/
noncomputable def Try.pinned : Pinned := { name := "ythfleeimhnenpaa", sum := "312c742cdd4cfc5242573f955fd6c6573fc76cb70c888fce7bd790ad3fb49bc5", checked := Try.checked }
namespace Rows
def none {H : Type} : Left H := { results := [], args := [] }

/-- 'shunterlaw13.ChansPlays': WHATEVER THE INPUT: true; the input reads as it did. -/
def chansPlaysSpec : ChangeSpec := { name := "chansPlays", fn := fun _ => fun
  | [d1, d2, d3] => { results := [.lit (.bool true)], args := [d1, d2, d3] }
  | _ => none }
def chansPlaysRow : OpenClaim := { program := "ythfleeimhnenpaa", sum := "312c742cdd4cfc5242573f955fd6c6573fc76cb70c888fce7bd790ad3fb49bc5", func := "shunter/shunterlaw13.ChansPlays", spec := "chansPlays", unfollowed := true, recurses := true, apart := false }
def ChansPlaysSaid : Prop := chansPlaysRow.holds Try.pinned (OpenSpec.ofChange chansPlaysSpec)

/-- ITS FALSE NEIGHBOUR: 'it returns false'. Refute it at one input. -/
def chansPlaysWrong : ChangeSpec := { name := "chansPlays", fn := fun _ => fun
  | [d1, d2, d3] => { results := [.lit (.bool false)], args := [d1, d2, d3] }
  | _ => none }
def ChansPlaysWrongFalsely : Prop := chansPlaysRow.holds Try.pinned (OpenSpec.ofChange chansPlaysWrong)

/-- 'shunterlaw13.ChansOrder': WHATEVER THE INPUT: true; the input reads as it did. -/
def chansOrderSpec : ChangeSpec := { name := "chansOrder", fn := fun _ => fun
  | [d1, d2] => { results := [.lit (.bool true)], args := [d1, d2] }
  | _ => none }
def chansOrderRow : OpenClaim := { program := "ythfleeimhnenpaa", sum := "312c742cdd4cfc5242573f955fd6c6573fc76cb70c888fce7bd790ad3fb49bc5", func := "shunter/shunterlaw13.ChansOrder", spec := "chansOrder", apart := false }
def ChansOrderSaid : Prop := chansOrderRow.holds Try.pinned (OpenSpec.ofChange chansOrderSpec)

/-- ITS FALSE NEIGHBOUR: 'it returns false'. Refute it at one input. -/
def chansOrderWrong : ChangeSpec := { name := "chansOrder", fn := fun _ => fun
  | [d1, d2] => { results := [.lit (.bool false)], args := [d1, d2] }
  | _ => none }
def ChansOrderWrongFalsely : Prop := chansOrderRow.holds Try.pinned (OpenSpec.ofChange chansOrderWrong)

/-- 'shunterlaw13.ChansDrain': WHATEVER THE INPUT: true; the input reads as it did. -/
def chansDrainSpec : ChangeSpec := { name := "chansDrain", fn := fun _ => fun
  | [d1, d2, d3] => { results := [.lit (.bool true)], args := [d1, d2, d3] }
  | _ => none }
def chansDrainRow : OpenClaim := { program := "ythfleeimhnenpaa", sum := "312c742cdd4cfc5242573f955fd6c6573fc76cb70c888fce7bd790ad3fb49bc5", func := "shunter/shunterlaw13.ChansDrain", spec := "chansDrain", apart := false }
def ChansDrainSaid : Prop := chansDrainRow.holds Try.pinned (OpenSpec.ofChange chansDrainSpec)

/-- ITS FALSE NEIGHBOUR: 'it returns false'. Refute it at one input. -/
def chansDrainWrong : ChangeSpec := { name := "chansDrain", fn := fun _ => fun
  | [d1, d2, d3] => { results := [.lit (.bool false)], args := [d1, d2, d3] }
  | _ => none }
def ChansDrainWrongFalsely : Prop := chansDrainRow.holds Try.pinned (OpenSpec.ofChange chansDrainWrong)

/-- 'shunterlaw13.ChansMeet': WHATEVER THE INPUT: true; the input reads as it did. -/
def chansMeetSpec : ChangeSpec := { name := "chansMeet", fn := fun _ => fun
  | [d1, d2, d3] => { results := [.lit (.bool true)], args := [d1, d2, d3] }
  | _ => none }
def chansMeetRow : OpenClaim := { program := "ythfleeimhnenpaa", sum := "312c742cdd4cfc5242573f955fd6c6573fc76cb70c888fce7bd790ad3fb49bc5", func := "shunter/shunterlaw13.ChansMeet", spec := "chansMeet", apart := false }
def ChansMeetSaid : Prop := chansMeetRow.holds Try.pinned (OpenSpec.ofChange chansMeetSpec)

/-- ITS FALSE NEIGHBOUR: 'it returns false'. Refute it at one input. -/
def chansMeetWrong : ChangeSpec := { name := "chansMeet", fn := fun _ => fun
  | [d1, d2, d3] => { results := [.lit (.bool false)], args := [d1, d2, d3] }
  | _ => none }
def ChansMeetWrongFalsely : Prop := chansMeetRow.holds Try.pinned (OpenSpec.ofChange chansMeetWrong)

/-- 'shunterlaw14.LocksPlays': WHATEVER THE INPUT: true; the input reads as it did. -/
def locksPlaysSpec : ChangeSpec := { name := "locksPlays", fn := fun _ => fun
  | [d1, d2, d3] => { results := [.lit (.bool true)], args := [d1, d2, d3] }
  | _ => none }
def locksPlaysRow : OpenClaim := { program := "ythfleeimhnenpaa", sum := "312c742cdd4cfc5242573f955fd6c6573fc76cb70c888fce7bd790ad3fb49bc5", func := "shunter/shunterlaw14.LocksPlays", spec := "locksPlays", apart := false }
def LocksPlaysSaid : Prop := locksPlaysRow.holds Try.pinned (OpenSpec.ofChange locksPlaysSpec)

/-- ITS FALSE NEIGHBOUR: 'it returns false'. Refute it at one input. -/
def locksPlaysWrong : ChangeSpec := { name := "locksPlays", fn := fun _ => fun
  | [d1, d2, d3] => { results := [.lit (.bool false)], args := [d1, d2, d3] }
  | _ => none }
def LocksPlaysWrongFalsely : Prop := locksPlaysRow.holds Try.pinned (OpenSpec.ofChange locksPlaysWrong)

/-- 'shunterlaw14.LocksOne': WHATEVER THE INPUT: true; the input reads as it did. -/
def locksOneSpec : ChangeSpec := { name := "locksOne", fn := fun _ => fun
  | [d1, d2] => { results := [.lit (.bool true)], args := [d1, d2] }
  | _ => none }
def locksOneRow : OpenClaim := { program := "ythfleeimhnenpaa", sum := "312c742cdd4cfc5242573f955fd6c6573fc76cb70c888fce7bd790ad3fb49bc5", func := "shunter/shunterlaw14.LocksOne", spec := "locksOne", apart := false }
def LocksOneSaid : Prop := locksOneRow.holds Try.pinned (OpenSpec.ofChange locksOneSpec)

/-- ITS FALSE NEIGHBOUR: 'it returns false'. Refute it at one input. -/
def locksOneWrong : ChangeSpec := { name := "locksOne", fn := fun _ => fun
  | [d1, d2] => { results := [.lit (.bool false)], args := [d1, d2] }
  | _ => none }
def LocksOneWrongFalsely : Prop := locksOneRow.holds Try.pinned (OpenSpec.ofChange locksOneWrong)

/-- 'shunterlaw14.LocksMany': WHATEVER THE INPUT: true; the input reads as it did. -/
def locksManySpec : ChangeSpec := { name := "locksMany", fn := fun _ => fun
  | [d1, d2] => { results := [.lit (.bool true)], args := [d1, d2] }
  | _ => none }
def locksManyRow : OpenClaim := { program := "ythfleeimhnenpaa", sum := "312c742cdd4cfc5242573f955fd6c6573fc76cb70c888fce7bd790ad3fb49bc5", func := "shunter/shunterlaw14.LocksMany", spec := "locksMany", apart := false }
def LocksManySaid : Prop := locksManyRow.holds Try.pinned (OpenSpec.ofChange locksManySpec)

/-- ITS FALSE NEIGHBOUR: 'it returns false'. Refute it at one input. -/
def locksManyWrong : ChangeSpec := { name := "locksMany", fn := fun _ => fun
  | [d1, d2] => { results := [.lit (.bool false)], args := [d1, d2] }
  | _ => none }
def LocksManyWrongFalsely : Prop := locksManyRow.holds Try.pinned (OpenSpec.ofChange locksManyWrong)

/- THE SECOND FORM. 'bulk': how many values and letters a reading holds, each counted each time it is reached (what is shared counts as often as it is met; a slice's spare places count too). A statement '..UptoSaid' is the law's where the arguments, and the package variables that the reading takes, are together of bulk at most 1048576: NARROWER than '..Said'. Prove '..Said' where nothing that the law and all that it calls make is longer than what came in: it says more and counts as full. Else prove '..UptoSaid'. A law counts once. -/
mutual
def uptoBulk {H : Type} : DataW H → Nat
  | .lit (.string bytes) => bytes.length + 1
  | .lit _ => 1
  | .nil => 1
  | .ptr d => uptoBulk d + 1
  | .slice elems spare => uptoBulkAll elems + uptoBulkAll spare + 1
  | .agg parts => uptoBulkAll parts + 1
  | .iface _ d => uptoBulk d + 1
  | .map entries => uptoBulkEntries entries + 1
  | .held _ => 1
def uptoBulkAll {H : Type} : List (DataW H) → Nat
  | [] => 0
  | d :: r => uptoBulk d + uptoBulkAll r
def uptoBulkEntries {H : Type} : List (Lit × DataW H) → Nat
  | [] => 0
  | x :: r => uptoBulkEntry x + uptoBulkEntries r
def uptoBulkEntry {H : Type} : Lit × DataW H → Nat
  | (.string bytes, d) => bytes.length + uptoBulk d + 1
  | (_, d) => uptoBulk d + 1
 end
def uptoSmall : (H : Type) → List (DataW H) → Bool := fun _ ds => decide (uptoBulkAll ds ≤ 1048576)
def OpenSpec.upto (s : _root_.Go.ChangeSpec) : _root_.Go.OpenSpec := { _root_.Go.OpenSpec.ofChange s with cond := some uptoSmall }

/-- 'shunterlaw13.ChansPlays', WHERE WHAT IT READS IS OF BULK AT MOST 1048576: true; the input reads as it did. -/
def chansPlaysUptoRow : OpenClaim := { program := "ythfleeimhnenpaa", sum := "312c742cdd4cfc5242573f955fd6c6573fc76cb70c888fce7bd790ad3fb49bc5", func := "shunter/shunterlaw13.ChansPlays", spec := "chansPlays", unfollowed := true, recurses := true, apart := false, narrowed := true }
def ChansPlaysUptoSaid : Prop := chansPlaysUptoRow.holds Try.pinned (OpenSpec.upto chansPlaysSpec)

/-- 'shunterlaw13.ChansOrder', WHERE WHAT IT READS IS OF BULK AT MOST 1048576: true; the input reads as it did. -/
def chansOrderUptoRow : OpenClaim := { program := "ythfleeimhnenpaa", sum := "312c742cdd4cfc5242573f955fd6c6573fc76cb70c888fce7bd790ad3fb49bc5", func := "shunter/shunterlaw13.ChansOrder", spec := "chansOrder", apart := false, narrowed := true }
def ChansOrderUptoSaid : Prop := chansOrderUptoRow.holds Try.pinned (OpenSpec.upto chansOrderSpec)

/-- 'shunterlaw13.ChansDrain', WHERE WHAT IT READS IS OF BULK AT MOST 1048576: true; the input reads as it did. -/
def chansDrainUptoRow : OpenClaim := { program := "ythfleeimhnenpaa", sum := "312c742cdd4cfc5242573f955fd6c6573fc76cb70c888fce7bd790ad3fb49bc5", func := "shunter/shunterlaw13.ChansDrain", spec := "chansDrain", apart := false, narrowed := true }
def ChansDrainUptoSaid : Prop := chansDrainUptoRow.holds Try.pinned (OpenSpec.upto chansDrainSpec)

/-- 'shunterlaw13.ChansMeet', WHERE WHAT IT READS IS OF BULK AT MOST 1048576: true; the input reads as it did. -/
def chansMeetUptoRow : OpenClaim := { program := "ythfleeimhnenpaa", sum := "312c742cdd4cfc5242573f955fd6c6573fc76cb70c888fce7bd790ad3fb49bc5", func := "shunter/shunterlaw13.ChansMeet", spec := "chansMeet", apart := false, narrowed := true }
def ChansMeetUptoSaid : Prop := chansMeetUptoRow.holds Try.pinned (OpenSpec.upto chansMeetSpec)

/-- 'shunterlaw14.LocksPlays', WHERE WHAT IT READS IS OF BULK AT MOST 1048576: true; the input reads as it did. -/
def locksPlaysUptoRow : OpenClaim := { program := "ythfleeimhnenpaa", sum := "312c742cdd4cfc5242573f955fd6c6573fc76cb70c888fce7bd790ad3fb49bc5", func := "shunter/shunterlaw14.LocksPlays", spec := "locksPlays", apart := false, narrowed := true }
def LocksPlaysUptoSaid : Prop := locksPlaysUptoRow.holds Try.pinned (OpenSpec.upto locksPlaysSpec)

/-- 'shunterlaw14.LocksOne', WHERE WHAT IT READS IS OF BULK AT MOST 1048576: true; the input reads as it did. -/
def locksOneUptoRow : OpenClaim := { program := "ythfleeimhnenpaa", sum := "312c742cdd4cfc5242573f955fd6c6573fc76cb70c888fce7bd790ad3fb49bc5", func := "shunter/shunterlaw14.LocksOne", spec := "locksOne", apart := false, narrowed := true }
def LocksOneUptoSaid : Prop := locksOneUptoRow.holds Try.pinned (OpenSpec.upto locksOneSpec)

/-- 'shunterlaw14.LocksMany', WHERE WHAT IT READS IS OF BULK AT MOST 1048576: true; the input reads as it did. -/
def locksManyUptoRow : OpenClaim := { program := "ythfleeimhnenpaa", sum := "312c742cdd4cfc5242573f955fd6c6573fc76cb70c888fce7bd790ad3fb49bc5", func := "shunter/shunterlaw14.LocksMany", spec := "locksMany", apart := false, narrowed := true }
def LocksManyUptoSaid : Prop := locksManyUptoRow.holds Try.pinned (OpenSpec.upto locksManySpec)

end Rows
end Go.Proofs.Ythfleeimhnenpaa
