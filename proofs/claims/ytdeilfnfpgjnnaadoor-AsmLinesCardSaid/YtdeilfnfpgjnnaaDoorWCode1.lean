/-
  The walks of the program's own checks, leaves first.
-/
import Derived.Test.YtdeilfnfpgjnnaaDoorRows
import Derived.Test.YtdeilfnfpgjnnaaDoorCodeF
import Derived.Deep.QuietTactic
import Derived.BigQuiet
import Derived.WalkSmall
import Derived.Deep.DeepCutAuto
import Derived.RegionTactic
import Derived.Deep.RegionHeld3
import Derived.Deep.RegionWith
import Derived.Deep.RegionLaw
open Go Go.RowKit
set_option linter.unusedVariables false
namespace Go.Proofs.YtdeilfnfpgjnnaaDoor
set_option maxRecDepth 100000 in
set_option maxHeartbeats 2000000 in
theorem within_any (v lo hi : Int) (w : World) : Calls Tryd.prog 44 #[.int .i64 v, .int .i64 lo, .int .i64 hi] w fun e w' => e = .returned (.bool (wit v lo hi)) ∧ w' = w := by
  unfold wit
  by_cases h1 : lo ≤ v
  · by_cases h2 : v ≤ hi
    · simp only [h1, h2, decide_true, Bool.and_self]
      go_enter Tryd.func44, Tryd.ntmps44
      go_wp2_with fail
      go_ret
      exact ⟨rfl, rfl⟩
    · simp only [h1, h2, decide_true, decide_false, Bool.and_false]
      go_enter Tryd.func44, Tryd.ntmps44
      go_wp2_with fail
      go_ret
      exact ⟨rfl, rfl⟩
  · simp only [h1, decide_false, Bool.false_and]
    go_enter Tryd.func44, Tryd.ntmps44
    go_wp2_with fail
    go_ret
    exact ⟨rfl, rfl⟩
/-- A program by value. -/
def pv (fa : Option Addr) (nf fc : Nat) (ca : Option Addr) (nc cc : Nat) (lk : Int) (ka : Option Addr) (nk kc : Nat) : Value := .agg #[.slice fa nf fc, .slice ca nc cc, .int .i64 lk, .slice ka nk kc]
set_option maxRecDepth 100000 in
set_option maxHeartbeats 4000000 in
theorem bounds_any (f : Nat) (hf : f ≤ 10) (fa : Option Addr) (nf fc : Nat) (ca : Option Addr) (nc cc : Nat) (lk : Int) (ka : Option Addr) (nk kc : Nat) (o a b c : Int) (n : Nat) (w : World) (h1 : nf ≤ 1000) (h2 : nc ≤ 1000) (h3 : nk ≤ 1000) (h4 : 0 ≤ lk ∧ lk ≤ 1000) (h5 : n ≤ 1000) :
    Calls Tryd.prog 53 #[pv fa nf fc ca nc cc lk ka nk kc, .int .i64 (f : Int), .agg #[.int .i64 o, .int .i64 a, .int .i64 b, .int .i64 c], .int .i64 (n : Int)] w
      fun e w' => e = .returned (.tuple #[.int .i64 (loh f nf nc nk lk a n).1, .int .i64 (loh f nf nc nk lk a n).2]) ∧ Below w.heap.size w w' := by
  have e1 : IntKind.i64.wrap ((nf : Int) - 1) = (nf : Int) - 1 := by rw [IntKind.wrap_i64]; omega
  unfold pv
  have hkk : f = 0 ∨ f = 1 ∨ f = 2 ∨ f = 3 ∨ f = 4 ∨ f = 5 ∨ f = 6 ∨ f = 7 ∨ f = 8 ∨ f = 9 ∨ f = 10 := by omega
  clear hf
  rcases hkk with rfl | rfl | rfl | rfl | rfl | rfl | rfl | rfl | rfl | rfl | rfl
  all_goals
    unfold loh
    go_enter Tryd.func53, Tryd.ntmps53
    go_wp2_with fail
    try (go_quiet (fail); go_wp2_with fail)
    go_ret2
    refine ⟨?_, ?_⟩
    · first | rfl | (simp; omega) | (simp; rfl) | (simp; rw [IntKind.wrap_i64]; unfold wrap64; omega) | (simp; rw [IntKind.wrap_i64]; unfold wrap64; rfl)
    · repeat (first | exact Below.refl _ _ | refine Below.drew ?_ | refine below_drewN ?_ _ | exact (Below.refl _ _).alloc (by simp) _ | refine Below.alloc ?_ (by simp) _)
set_option maxRecDepth 100000 in
set_option maxHeartbeats 4000000 in
theorem allows_any (fa : Option Addr) (nf fc : Nat) (ca : Option Addr) (nc cc : Nat) (lk : Int) (ka : Option Addr) (nk kc : Nat) (y ch rg : Int) (w : World) (h2 : nc ≤ 1000) :
    Calls Tryd.prog 45 #[pv fa nf fc ca nc cc lk ka nk kc, .agg #[.int .i64 y, .int .i64 ch, .int .i64 rg]] w
      fun e w' => e = .returned (.bool (casI nc (y, ch, rg))) ∧ Below w.heap.size w w' := by
  have hi : casI nc (y, ch, rg) = if y = 0 ∨ y = 1 then wit ch 0 ((nc : Int) - 1) && wit rg 0 7 else y == 2 := rfl
  generalize casI nc (y, ch, rg) = r at hi ⊢
  unfold pv
  by_cases h0 : y = 0 ∨ y = 1
  · rw [if_pos h0] at hi
    obtain ⟨p, hp⟩ : ∃ p, wit ch 0 ((nc : Int) - 1) = p := ⟨_, rfl⟩
    obtain ⟨q, hq⟩ : ∃ q, wit rg 0 7 = q := ⟨_, rfl⟩
    rw [hp, hq] at hi
    have HP := Lib.hid hp
    have HQ := Lib.hid hq
    clear hp hq
    rcases h0 with rfl | rfl
    all_goals
      cases p
      all_goals
        simp at hi
        subst hi
        go_enter Tryd.func45, Tryd.ntmps45
        go_wp2_with fail
        refine (within_any _ _ _ _).mono ?_
        rintro e w1 ⟨rfl, rfl⟩
        rw [HP.out]
        go_wp2_with fail
        try
          refine (within_any _ _ _ _).mono ?_
          rintro e w1 ⟨rfl, rfl⟩
          rw [HQ.out]
          go_wp2_with fail
        go_ret
        refine ⟨rfl, ?_⟩
        repeat (first | exact Below.refl _ _ | refine Below.drew ?_ | refine below_drewN ?_ _ | exact (Below.refl _ _).alloc (by simp) _ | refine Below.alloc ?_ (by simp) _)
  · rw [if_neg h0] at hi
    have y0 : ¬ y = 0 := fun h => h0 (.inl h)
    have y1 : ¬ y = 1 := fun h => h0 (.inr h)
    by_cases y2 : y = 2
    · subst y2
      simp at hi
      subst hi
      clear h0 y0 y1
      go_enter Tryd.func45, Tryd.ntmps45
      go_wp2_with fail
      go_ret
      refine ⟨rfl, ?_⟩
      repeat (first | exact Below.refl _ _ | refine Below.drew ?_ | refine below_drewN ?_ _ | exact (Below.refl _ _).alloc (by simp) _ | refine Below.alloc ?_ (by simp) _)
    · have hi' : r = false := by rw [hi]; simpa using y2
      subst hi'
      clear h0 hi
      go_enter Tryd.func45, Tryd.ntmps45
      go_wp2_with fail
      go_ret
      refine ⟨rfl, ?_⟩
      repeat (first | exact Below.refl _ _ | refine Below.drew ?_ | refine below_drewN ?_ _ | exact (Below.refl _ _).alloc (by simp) _ | refine Below.alloc ?_ (by simp) _)
end Go.Proofs.YtdeilfnfpgjnnaaDoor
