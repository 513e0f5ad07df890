/-
  What a program is held against: its numbers alone. No program is named here.
-/
import Derived.Test.YtdeilfnfpgjnnaaDoorIRow
open Go Go.RowKit
set_option linter.unusedVariables false
namespace Go.Proofs.YtdeilfnfpgjnnaaDoor
abbrev In4 := Int × Int × Int × Int
abbrev Ca3 := Int × Int × Int
/-- A program: its functions, its channels' rooms, how many locks, its cases. -/
structure PD where
  fs : List (List In4)
  cs : List Int
  lk : Int
  ks : List Ca3
/-- from low up to high. -/
def wit (v lo hi : Int) : Bool := decide (lo ≤ v) && decide (v ≤ hi)
/-- from low up to below high. -/
def inn (v lo hi : Int) : Bool := decide (lo ≤ v) && decide (v < hi)
/-- What each op has. -/
def shapeL : List Nat := [0, 0, 0, 2, 1, 0, 2, 2, 0, 2, 2, 2, 2, 2, 2, 2, 2, 2, 2, 2, 2, 3, 0, 0, 2, 3, 0, 4, 2, 2, 2, 0, 0, 4, 2, 2, 0, 0, 0, 5, 2, 0, 5, 2, 2, 5, 0, 0, 7, 8, 2, 2, 0, 0, 6, 0, 0, 6, 0, 0, 2, 0, 0, 2, 9, 0, 10, 0, 0]
/-- The lowest and the highest of a field. -/
def loh (f : Nat) (nf nc nk : Nat) (lk a : Int) (n : Nat) : Int × Int :=
  match f with
  | 1 => (-9223372036854775808, 9223372036854775807)
  | 2 => (0, 7)
  | 3 => (0, (n : Int) - 1)
  | 4 => (0, (nf : Int) - 1)
  | 5 => (0, (nc : Int) - 1)
  | 6 => (0, lk - 1)
  | 7 => (0, (nk : Int) - 1)
  | 8 => (1, IntKind.i64.wrap ((nk : Int) - a))
  | 9 => (1, 1099511627775)
  | 10 => (0, 1048575)
  | _ => (0, 0)
/-- May an instruction be? the error's number. -/
def insI (nf nc nk : Nat) (lk : Int) (n : Nat) (x : In4) : Int :=
  if wit x.1 0 22 then
    if wit x.2.1 (loh (shapeL.getD (x.1.toNat * 3) 0) nf nc nk lk x.2.1 n).1 (loh (shapeL.getD (x.1.toNat * 3) 0) nf nc nk lk x.2.1 n).2 then
      if wit x.2.2.1 (loh (shapeL.getD (x.1.toNat * 3 + 1) 0) nf nc nk lk x.2.1 n).1 (loh (shapeL.getD (x.1.toNat * 3 + 1) 0) nf nc nk lk x.2.1 n).2 then
        if wit x.2.2.2 (loh (shapeL.getD (x.1.toNat * 3 + 2) 0) nf nc nk lk x.2.1 n).1 (loh (shapeL.getD (x.1.toNat * 3 + 2) 0) nf nc nk lk x.2.1 n).2 then 0 else 4
      else 4
    else 4
  else 9
/-- May a case be? -/
def casI (nc : Nat) (c : Ca3) : Bool := if c.1 = 0 ∨ c.1 = 1 then wit c.2.1 0 ((nc : Int) - 1) && wit c.2.2 0 7 else c.1 == 2
def i64b (n : Int) : Prop := -9223372036854775808 ≤ n ∧ n ≤ 9223372036854775807
/-- The same, op by op. -/
def goodB (nf nc nk : Nat) (lk : Int) (n : Nat) (x : In4) : Option Bool :=
  let a := x.2.1; let b := x.2.2.1; let c := x.2.2.2
  match x.1.toNat with
  | 0 | 12 => some (a == 0 && b == 0 && c == 0)
  | 1 => some (inn a 0 8 && c == 0)
  | 2 => some (inn a 0 8 && inn b 0 8 && c == 0)
  | 3 | 4 | 5 | 6 => some (inn a 0 8 && inn b 0 8 && inn c 0 8)
  | 7 => some (inn a 0 n && b == 0 && c == 0)
  | 8 => some (inn a 0 8 && inn b 0 n && c == 0)
  | 9 | 11 => some (inn a 0 nf && inn b 0 8 && inn c 0 8)
  | 10 | 17 | 20 => some (inn a 0 8 && b == 0 && c == 0)
  | 13 => some (inn a 0 nc && inn b 0 8 && c == 0)
  | 14 => some (inn a 0 nc && inn b 0 8 && inn c 0 8)
  | 15 => some (inn a 0 nc && b == 0 && c == 0)
  | 16 => some (inn a 0 nk && inn b 1 ((nk : Int) - a + 1) && inn c 0 8)
  | 18 | 19 => some (inn a 0 lk && b == 0 && c == 0)
  | 21 => some (inn a 0 8 && inn b 1 1099511627776 && c == 0)
  | 22 => some (inn a 0 1048576 && b == 0 && c == 0)
  | _ => none
theorem insI_good (nf nc nk : Nat) (lk : Int) (n : Nat) (o a b c : Int) (hb : i64b b) (ho : 0 ≤ o ∧ o ≤ 22) (hk : nk ≤ 1000) : ∃ g, goodB nf nc nk lk n (o, a, b, c) = some g ∧ insI nf nc nk lk n (o, a, b, c) = if g then 0 else 4 := by
  obtain ⟨k, rfl⟩ : ∃ k : Nat, o = (k : Int) := ⟨o.toNat, by omega⟩
  have hk22 : k ≤ 22 := by omega
  obtain ⟨hb1, hb2⟩ := hb
  have hw : (k : Int) ≤ 22 := by omega
  have hwr : 0 ≤ a → a < nk → IntKind.i64.wrap ((nk : Int) - a) = (nk : Int) - a := fun h1 h2 => by rw [IntKind.wrap_i64]; omega
  have hkk : k = 0 ∨ k = 1 ∨ k = 2 ∨ k = 3 ∨ k = 4 ∨ k = 5 ∨ k = 6 ∨ k = 7 ∨ k = 8 ∨ k = 9 ∨ k = 10 ∨ k = 11 ∨ k = 12 ∨ k = 13 ∨ k = 14 ∨ k = 15 ∨ k = 16 ∨ k = 17 ∨ k = 18 ∨ k = 19 ∨ k = 20 ∨ k = 21 ∨ k = 22 := by omega
  clear ho hw hk22
  rcases hkk with rfl | rfl | rfl | rfl | rfl | rfl | rfl | rfl | rfl | rfl | rfl | rfl | rfl | rfl | rfl | rfl | rfl | rfl | rfl | rfl | rfl | rfl | rfl
  all_goals refine ⟨_, rfl, ?_⟩
  all_goals simp only [insI, wit, inn, loh, shapeL, Int.toNat_natCast, List.getD_eq_getElem?_getD]
  case inr.inr.inr.inr.inr.inr.inr.inr.inr.inr.inr.inr.inr.inr.inr.inr.inl =>
    by_cases h1 : 0 ≤ a
    · by_cases h2 : a < nk
      · simp only [List.getElem?_cons_succ, List.getElem?_cons_zero, Option.getD_some, hwr h1 h2]
        by_cases h3 : 1 ≤ b <;> by_cases h4 : b < (nk : Int) - a + 1 <;> by_cases h5 : 0 ≤ c <;> by_cases h6 : c < 8 <;>
        simp [h1, h2, h3, h4, h5, h6, show a ≤ (nk : Int) - 1 by omega] <;> omega
      · simp [h1, h2, show ¬ a ≤ (nk : Int) - 1 by omega]
    · simp [h1]
  all_goals
    simp
    (repeat' split) <;> simp_all <;> omega
end Go.Proofs.YtdeilfnfpgjnnaaDoor
