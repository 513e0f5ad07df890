/-
  No cell of these rows narrows 'for every input' (looked for: loops, veiled, ifaces, maps, wideKeys, modest, calm, conditions, laid).
  DERIVED. THE GIVEN ROWS OF THIS SEAT. 3 by the template 'for every input the law returns true; each argument reads behind the call as it read before'; 0 by the template 'total and deterministic' (their statements: YtlkjheheofgdgaaGreatTotals.lean).
  GIVEN WITH THE SEED: the statements are not yours to turn. If you find one false, say at which input.
  Laid BY PROGRAM, IN A SANDBOX (cutbox-rows.mjs): the forced cells as the released guide's own fill.sh prints them over the translation c14d0f964a3f1079… (all of the seat's roots in one cut). By AI agents, Wed Nov 11 2026. No macro, syntax, notation, axiom, sorry.
-/
import Derived.Test.YtlkjheheofgdgaaGreatChecked
import GoSem.Claim
import GoSem.ClaimJoined
import GoSem.ClaimMapViews
import Derived.JoinedTies
import Derived.KernelRfl
namespace Go.Proofs.YtlkjheheofgdgaaGreat
/- THE CELL 'sum', in the pinned program and in every row, IS THE sha256 OF THE DUMP (.gsa) THAT YtlkjheheofgdgaaGreatProg.lean LOADS. Nothing in Lean hashes anything: it is a label: what it is worth is what the hold of that sum in a sandbox is worth. -/
noncomputable def Tryz.pinned : Pinned := { name := "ytlkjheheofgdgaagreat", sum := "c14d0f964a3f1079d6dadfb6d56f96bdd957eed7d14aed5cba820cc0d62ac2d7", checked := Tryz.checked }
namespace Rows
def none {H : Type} : Left H := { results := [], args := [] }

/-- 'shunterlaw18.SchedLost': WHATEVER THE INPUT: true; the input reads as it did. -/
def schedLostSpec : ChangeSpec := { name := "schedLost", fn := fun _ => fun
  | [d1, d2, d3] => { results := [.lit (.bool true)], args := [d1, d2, d3] }
  | _ => none }
def schedLostRow : OpenClaim := { program := "ytlkjheheofgdgaagreat", sum := "c14d0f964a3f1079d6dadfb6d56f96bdd957eed7d14aed5cba820cc0d62ac2d7", func := "shunter/shunterlaw18.SchedLost", spec := "schedLost", unfollowed := true, recurses := true, apart := false }
def SchedLostSaid : Prop := schedLostRow.holds Tryz.pinned (OpenSpec.ofChange schedLostSpec)

/-- ITS FALSE NEIGHBOUR: 'it returns false'. Refute it at one input. -/
def schedLostWrong : ChangeSpec := { name := "schedLost", fn := fun _ => fun
  | [d1, d2, d3] => { results := [.lit (.bool false)], args := [d1, d2, d3] }
  | _ => none }
def SchedLostWrongFalsely : Prop := schedLostRow.holds Tryz.pinned (OpenSpec.ofChange schedLostWrong)

/-- 'shunterlaw18.SchedAgain': WHATEVER THE INPUT: true; the input reads as it did. -/
def schedAgainSpec : ChangeSpec := { name := "schedAgain", fn := fun _ => fun
  | [d1, d2, d3] => { results := [.lit (.bool true)], args := [d1, d2, d3] }
  | _ => none }
def schedAgainRow : OpenClaim := { program := "ytlkjheheofgdgaagreat", sum := "c14d0f964a3f1079d6dadfb6d56f96bdd957eed7d14aed5cba820cc0d62ac2d7", func := "shunter/shunterlaw18.SchedAgain", spec := "schedAgain", unfollowed := true, recurses := true, apart := false }
def SchedAgainSaid : Prop := schedAgainRow.holds Tryz.pinned (OpenSpec.ofChange schedAgainSpec)

/-- ITS FALSE NEIGHBOUR: 'it returns false'. Refute it at one input. -/
def schedAgainWrong : ChangeSpec := { name := "schedAgain", fn := fun _ => fun
  | [d1, d2, d3] => { results := [.lit (.bool false)], args := [d1, d2, d3] }
  | _ => none }
def SchedAgainWrongFalsely : Prop := schedAgainRow.holds Tryz.pinned (OpenSpec.ofChange schedAgainWrong)

/-- 'shuntertop.ShunterMachines': WHATEVER THE INPUT: true; the input reads as it did. -/
def shunterMachinesSpec : ChangeSpec := { name := "shunterMachines", fn := fun _ => fun
  | [d1, d2, d3] => { results := [.lit (.bool true)], args := [d1, d2, d3] }
  | _ => none }
def shunterMachinesRow : OpenClaim := { program := "ytlkjheheofgdgaagreat", sum := "c14d0f964a3f1079d6dadfb6d56f96bdd957eed7d14aed5cba820cc0d62ac2d7", func := "shunter/shuntertop.ShunterMachines", spec := "shunterMachines", unfollowed := true, recurses := true, apart := false }
def ShunterMachinesSaid : Prop := shunterMachinesRow.holds Tryz.pinned (OpenSpec.ofChange shunterMachinesSpec)

/-- ITS FALSE NEIGHBOUR: 'it returns false'. Refute it at one input. -/
def shunterMachinesWrong : ChangeSpec := { name := "shunterMachines", fn := fun _ => fun
  | [d1, d2, d3] => { results := [.lit (.bool false)], args := [d1, d2, d3] }
  | _ => none }
def ShunterMachinesWrongFalsely : Prop := shunterMachinesRow.holds Tryz.pinned (OpenSpec.ofChange shunterMachinesWrong)

/- THE SECOND FORM. 'bulk': how many values and letters a reading holds, each counted each time it is reached (what is shared counts as often as it is met; a slice's spare places count too). A statement '..UptoSaid' is the law's where the arguments, and the package variables that the reading takes, are together of bulk at most 1048576: NARROWER than '..Said'. Prove '..Said' where nothing that the law and all that it calls make is longer than what came in: it says more and counts as full. Else prove '..UptoSaid'. A law counts once. -/
mutual
def uptoBulk {H : Type} : DataW H → Nat
  | .lit (.string bytes) => bytes.length + 1
  | .lit _ => 1
  | .nil => 1
  | .ptr d => uptoBulk d + 1
  | .slice elems spare => uptoBulkAll elems + uptoBulkAll spare + 1
  | .agg parts => uptoBulkAll parts + 1
  | .iface _ d => uptoBulk d + 1
  | .map entries => uptoBulkEntries entries + 1
  | .held _ => 1
def uptoBulkAll {H : Type} : List (DataW H) → Nat
  | [] => 0
  | d :: r => uptoBulk d + uptoBulkAll r
def uptoBulkEntries {H : Type} : List (Lit × DataW H) → Nat
  | [] => 0
  | x :: r => uptoBulkEntry x + uptoBulkEntries r
def uptoBulkEntry {H : Type} : Lit × DataW H → Nat
  | (.string bytes, d) => bytes.length + uptoBulk d + 1
  | (_, d) => uptoBulk d + 1
 end
def uptoSmall : (H : Type) → List (DataW H) → Bool := fun _ ds => decide (uptoBulkAll ds ≤ 1048576)
def OpenSpec.upto (s : _root_.Go.ChangeSpec) : _root_.Go.OpenSpec := { _root_.Go.OpenSpec.ofChange s with cond := some uptoSmall }

/-- 'shunterlaw18.SchedLost', WHERE WHAT IT READS IS OF BULK AT MOST 1048576: true; the input reads as it did. -/
def schedLostUptoRow : OpenClaim := { program := "ytlkjheheofgdgaagreat", sum := "c14d0f964a3f1079d6dadfb6d56f96bdd957eed7d14aed5cba820cc0d62ac2d7", func := "shunter/shunterlaw18.SchedLost", spec := "schedLost", unfollowed := true, recurses := true, apart := false, narrowed := true }
def SchedLostUptoSaid : Prop := schedLostUptoRow.holds Tryz.pinned (OpenSpec.upto schedLostSpec)

/-- 'shunterlaw18.SchedAgain', WHERE WHAT IT READS IS OF BULK AT MOST 1048576: true; the input reads as it did. -/
def schedAgainUptoRow : OpenClaim := { program := "ytlkjheheofgdgaagreat", sum := "c14d0f964a3f1079d6dadfb6d56f96bdd957eed7d14aed5cba820cc0d62ac2d7", func := "shunter/shunterlaw18.SchedAgain", spec := "schedAgain", unfollowed := true, recurses := true, apart := false, narrowed := true }
def SchedAgainUptoSaid : Prop := schedAgainUptoRow.holds Tryz.pinned (OpenSpec.upto schedAgainSpec)

/-- 'shuntertop.ShunterMachines', WHERE WHAT IT READS IS OF BULK AT MOST 1048576: true; the input reads as it did. -/
def shunterMachinesUptoRow : OpenClaim := { program := "ytlkjheheofgdgaagreat", sum := "c14d0f964a3f1079d6dadfb6d56f96bdd957eed7d14aed5cba820cc0d62ac2d7", func := "shunter/shuntertop.ShunterMachines", spec := "shunterMachines", unfollowed := true, recurses := true, apart := false, narrowed := true }
def ShunterMachinesUptoSaid : Prop := shunterMachinesUptoRow.holds Tryz.pinned (OpenSpec.upto shunterMachinesSpec)

end Rows
end Go.Proofs.YtlkjheheofgdgaaGreat
