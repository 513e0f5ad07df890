/-
  No cell of these rows narrows 'for every input' (looked for: loops, veiled, ifaces, maps, wideKeys, modest, calm, conditions, laid).
  DERIVED. THE GIVEN ROWS OF THIS SEAT. 5 by the template 'for every input the law returns true; each argument reads behind the call as it read before'; 0 by the template 'total and deterministic' (their statements: YtjidcagklakjaaaGreatTotals.lean).
  GIVEN WITH THE SEED: the statements are not yours to turn. If you find one false, say at which input.
  Laid BY PROGRAM, IN A SANDBOX (cutbox-rows.mjs): the forced cells as the released guide's own fill.sh prints them over the translation 4ddffc9af92145a5… (all of the seat's roots in one cut). By AI agents, Wed Nov 11 2026. No macro, syntax, notation, axiom, sorry.
-/
import Derived.Test.YtjidcagklakjaaaGreatChecked
import GoSem.Claim
import GoSem.ClaimJoined
import GoSem.ClaimMapViews
import Derived.JoinedTies
import Derived.KernelRfl
namespace Go.Proofs.YtjidcagklakjaaaGreat
/- THE CELL 'sum', in the pinned program and in every row, IS THE sha256 OF THE DUMP (.gsa) THAT YtjidcagklakjaaaGreatProg.lean LOADS. Nothing in Lean hashes anything: it is a label: what it is worth is what the hold of that sum in a sandbox is worth. -/
noncomputable def Tryz.pinned : Pinned := { name := "ytjidcagklakjaaagreat", sum := "4ddffc9af92145a546ca5b9faebfd17510c28fd5093dc67b60701130352684fe", checked := Tryz.checked }
namespace Rows
def none {H : Type} : Left H := { results := [], args := [] }

/-- 'shunterlaw16.WorldDry': WHATEVER THE INPUT: true; the input reads as it did. -/
def worldDrySpec : ChangeSpec := { name := "worldDry", fn := fun _ => fun
  | [d1, d2] => { results := [.lit (.bool true)], args := [d1, d2] }
  | _ => none }
def worldDryRow : OpenClaim := { program := "ytjidcagklakjaaagreat", sum := "4ddffc9af92145a546ca5b9faebfd17510c28fd5093dc67b60701130352684fe", func := "shunter/shunterlaw16.WorldDry", spec := "worldDry", unfollowed := true, recurses := true, apart := false }
def WorldDrySaid : Prop := worldDryRow.holds Tryz.pinned (OpenSpec.ofChange worldDrySpec)

/-- ITS FALSE NEIGHBOUR: 'it returns false'. Refute it at one input. -/
def worldDryWrong : ChangeSpec := { name := "worldDry", fn := fun _ => fun
  | [d1, d2] => { results := [.lit (.bool false)], args := [d1, d2] }
  | _ => none }
def WorldDryWrongFalsely : Prop := worldDryRow.holds Tryz.pinned (OpenSpec.ofChange worldDryWrong)

/-- 'shunterlaw16.WorldEnds': WHATEVER THE INPUT: true; the input reads as it did. -/
def worldEndsSpec : ChangeSpec := { name := "worldEnds", fn := fun _ => fun
  | [d1, d2, d3] => { results := [.lit (.bool true)], args := [d1, d2, d3] }
  | _ => none }
def worldEndsRow : OpenClaim := { program := "ytjidcagklakjaaagreat", sum := "4ddffc9af92145a546ca5b9faebfd17510c28fd5093dc67b60701130352684fe", func := "shunter/shunterlaw16.WorldEnds", spec := "worldEnds", unfollowed := true, recurses := true, apart := false }
def WorldEndsSaid : Prop := worldEndsRow.holds Tryz.pinned (OpenSpec.ofChange worldEndsSpec)

/-- ITS FALSE NEIGHBOUR: 'it returns false'. Refute it at one input. -/
def worldEndsWrong : ChangeSpec := { name := "worldEnds", fn := fun _ => fun
  | [d1, d2, d3] => { results := [.lit (.bool false)], args := [d1, d2, d3] }
  | _ => none }
def WorldEndsWrongFalsely : Prop := worldEndsRow.holds Tryz.pinned (OpenSpec.ofChange worldEndsWrong)

/-- 'shunterlaw16.WorldSleeps': WHATEVER THE INPUT: true; the input reads as it did. -/
def worldSleepsSpec : ChangeSpec := { name := "worldSleeps", fn := fun _ => fun
  | [d] => { results := [.lit (.bool true)], args := [d] }
  | _ => none }
def worldSleepsRow : OpenClaim := { program := "ytjidcagklakjaaagreat", sum := "4ddffc9af92145a546ca5b9faebfd17510c28fd5093dc67b60701130352684fe", func := "shunter/shunterlaw16.WorldSleeps", spec := "worldSleeps", unfollowed := true, recurses := true, apart := false }
def WorldSleepsSaid : Prop := worldSleepsRow.holds Tryz.pinned (OpenSpec.ofChange worldSleepsSpec)

/-- ITS FALSE NEIGHBOUR: 'it returns false'. Refute it at one input. -/
def worldSleepsWrong : ChangeSpec := { name := "worldSleeps", fn := fun _ => fun
  | [d] => { results := [.lit (.bool false)], args := [d] }
  | _ => none }
def WorldSleepsWrongFalsely : Prop := worldSleepsRow.holds Tryz.pinned (OpenSpec.ofChange worldSleepsWrong)

/-- 'shunterlaw16.WorldSelects': WHATEVER THE INPUT: true; the input reads as it did. -/
def worldSelectsSpec : ChangeSpec := { name := "worldSelects", fn := fun _ => fun
  | [d1, d2, d3] => { results := [.lit (.bool true)], args := [d1, d2, d3] }
  | _ => none }
def worldSelectsRow : OpenClaim := { program := "ytjidcagklakjaaagreat", sum := "4ddffc9af92145a546ca5b9faebfd17510c28fd5093dc67b60701130352684fe", func := "shunter/shunterlaw16.WorldSelects", spec := "worldSelects", unfollowed := true, recurses := true, apart := false }
def WorldSelectsSaid : Prop := worldSelectsRow.holds Tryz.pinned (OpenSpec.ofChange worldSelectsSpec)

/-- ITS FALSE NEIGHBOUR: 'it returns false'. Refute it at one input. -/
def worldSelectsWrong : ChangeSpec := { name := "worldSelects", fn := fun _ => fun
  | [d1, d2, d3] => { results := [.lit (.bool false)], args := [d1, d2, d3] }
  | _ => none }
def WorldSelectsWrongFalsely : Prop := worldSelectsRow.holds Tryz.pinned (OpenSpec.ofChange worldSelectsWrong)

/-- 'shunterlaw16.WorldCloses': WHATEVER THE INPUT: true; the input reads as it did. -/
def worldClosesSpec : ChangeSpec := { name := "worldCloses", fn := fun _ => fun
  | [d1, d2] => { results := [.lit (.bool true)], args := [d1, d2] }
  | _ => none }
def worldClosesRow : OpenClaim := { program := "ytjidcagklakjaaagreat", sum := "4ddffc9af92145a546ca5b9faebfd17510c28fd5093dc67b60701130352684fe", func := "shunter/shunterlaw16.WorldCloses", spec := "worldCloses", unfollowed := true, recurses := true, apart := false }
def WorldClosesSaid : Prop := worldClosesRow.holds Tryz.pinned (OpenSpec.ofChange worldClosesSpec)

/-- ITS FALSE NEIGHBOUR: 'it returns false'. Refute it at one input. -/
def worldClosesWrong : ChangeSpec := { name := "worldCloses", fn := fun _ => fun
  | [d1, d2] => { results := [.lit (.bool false)], args := [d1, d2] }
  | _ => none }
def WorldClosesWrongFalsely : Prop := worldClosesRow.holds Tryz.pinned (OpenSpec.ofChange worldClosesWrong)

/- THE SECOND FORM. 'bulk': how many values and letters a reading holds, each counted each time it is reached (what is shared counts as often as it is met; a slice's spare places count too). A statement '..UptoSaid' is the law's where the arguments, and the package variables that the reading takes, are together of bulk at most 1048576: NARROWER than '..Said'. Prove '..Said' where nothing that the law and all that it calls make is longer than what came in: it says more and counts as full. Else prove '..UptoSaid'. A law counts once. -/
mutual
def uptoBulk {H : Type} : DataW H → Nat
  | .lit (.string bytes) => bytes.length + 1
  | .lit _ => 1
  | .nil => 1
  | .ptr d => uptoBulk d + 1
  | .slice elems spare => uptoBulkAll elems + uptoBulkAll spare + 1
  | .agg parts => uptoBulkAll parts + 1
  | .iface _ d => uptoBulk d + 1
  | .map entries => uptoBulkEntries entries + 1
  | .held _ => 1
def uptoBulkAll {H : Type} : List (DataW H) → Nat
  | [] => 0
  | d :: r => uptoBulk d + uptoBulkAll r
def uptoBulkEntries {H : Type} : List (Lit × DataW H) → Nat
  | [] => 0
  | x :: r => uptoBulkEntry x + uptoBulkEntries r
def uptoBulkEntry {H : Type} : Lit × DataW H → Nat
  | (.string bytes, d) => bytes.length + uptoBulk d + 1
  | (_, d) => uptoBulk d + 1
 end
def uptoSmall : (H : Type) → List (DataW H) → Bool := fun _ ds => decide (uptoBulkAll ds ≤ 1048576)
def OpenSpec.upto (s : _root_.Go.ChangeSpec) : _root_.Go.OpenSpec := { _root_.Go.OpenSpec.ofChange s with cond := some uptoSmall }

/-- 'shunterlaw16.WorldDry', WHERE WHAT IT READS IS OF BULK AT MOST 1048576: true; the input reads as it did. -/
def worldDryUptoRow : OpenClaim := { program := "ytjidcagklakjaaagreat", sum := "4ddffc9af92145a546ca5b9faebfd17510c28fd5093dc67b60701130352684fe", func := "shunter/shunterlaw16.WorldDry", spec := "worldDry", unfollowed := true, recurses := true, apart := false, narrowed := true }
def WorldDryUptoSaid : Prop := worldDryUptoRow.holds Tryz.pinned (OpenSpec.upto worldDrySpec)

/-- 'shunterlaw16.WorldEnds', WHERE WHAT IT READS IS OF BULK AT MOST 1048576: true; the input reads as it did. -/
def worldEndsUptoRow : OpenClaim := { program := "ytjidcagklakjaaagreat", sum := "4ddffc9af92145a546ca5b9faebfd17510c28fd5093dc67b60701130352684fe", func := "shunter/shunterlaw16.WorldEnds", spec := "worldEnds", unfollowed := true, recurses := true, apart := false, narrowed := true }
def WorldEndsUptoSaid : Prop := worldEndsUptoRow.holds Tryz.pinned (OpenSpec.upto worldEndsSpec)

/-- 'shunterlaw16.WorldSleeps', WHERE WHAT IT READS IS OF BULK AT MOST 1048576: true; the input reads as it did. -/
def worldSleepsUptoRow : OpenClaim := { program := "ytjidcagklakjaaagreat", sum := "4ddffc9af92145a546ca5b9faebfd17510c28fd5093dc67b60701130352684fe", func := "shunter/shunterlaw16.WorldSleeps", spec := "worldSleeps", unfollowed := true, recurses := true, apart := false, narrowed := true }
def WorldSleepsUptoSaid : Prop := worldSleepsUptoRow.holds Tryz.pinned (OpenSpec.upto worldSleepsSpec)

/-- 'shunterlaw16.WorldSelects', WHERE WHAT IT READS IS OF BULK AT MOST 1048576: true; the input reads as it did. -/
def worldSelectsUptoRow : OpenClaim := { program := "ytjidcagklakjaaagreat", sum := "4ddffc9af92145a546ca5b9faebfd17510c28fd5093dc67b60701130352684fe", func := "shunter/shunterlaw16.WorldSelects", spec := "worldSelects", unfollowed := true, recurses := true, apart := false, narrowed := true }
def WorldSelectsUptoSaid : Prop := worldSelectsUptoRow.holds Tryz.pinned (OpenSpec.upto worldSelectsSpec)

/-- 'shunterlaw16.WorldCloses', WHERE WHAT IT READS IS OF BULK AT MOST 1048576: true; the input reads as it did. -/
def worldClosesUptoRow : OpenClaim := { program := "ytjidcagklakjaaagreat", sum := "4ddffc9af92145a546ca5b9faebfd17510c28fd5093dc67b60701130352684fe", func := "shunter/shunterlaw16.WorldCloses", spec := "worldCloses", unfollowed := true, recurses := true, apart := false, narrowed := true }
def WorldClosesUptoSaid : Prop := worldClosesUptoRow.holds Tryz.pinned (OpenSpec.upto worldClosesSpec)

end Rows
end Go.Proofs.YtjidcagklakjaaaGreat
