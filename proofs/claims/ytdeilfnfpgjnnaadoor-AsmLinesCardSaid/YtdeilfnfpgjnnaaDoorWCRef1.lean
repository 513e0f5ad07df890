/-
  The walks of the document's answer for one instruction.
-/
import Derived.Test.YtdeilfnfpgjnnaaDoorWCRef0
open Go Go.RowKit
set_option linter.unusedVariables false
namespace Go.Proofs.YtdeilfnfpgjnnaaDoor
set_option maxRecDepth 100000 in
set_option maxHeartbeats 4000000 in
theorem good_0 (fa : Option Addr) (nf fc : Nat) (ca : Option Addr) (nc cc : Nat) (lk : Int) (ka : Option Addr) (nk kc : Nat) (a0 : Option Addr) (n cap : Nat) (a b c : Int) (w : World) (hb : i64b b) (h1 : nf ≤ 1000) (h2 : nc ≤ 1000) (h3 : nk ≤ 1000) (h5 : n ≤ 1000) :
    Calls Tryd.prog 38 #[pv fa nf fc ca nc cc lk ka nk kc, .slice a0 n cap, .agg #[.int .i64 0, .int .i64 a, .int .i64 b, .int .i64 c]] w fun e w' => e = .returned (.int .i64 (insI nf nc nk lk n (0, a, b, c))) ∧ Below w.heap.size w w' := by
  obtain ⟨g, hg1, hg2⟩ := insI_good nf nc nk lk n 0 a b c hb (by omega) h3
  have hg : some ((a == 0) && (b == 0) && (c == 0)) = some g := hg1
  rw [hg2]
  clear hg1 hg2 hb
  unfold pv
  by_cases z0 : a = 0
  · subst z0
    by_cases z1 : b = 0
    · subst z1
      by_cases z2 : c = 0
      · subst z2
        simp at hg
        subst hg
        go_enter Tryd.func38, Tryd.ntmps38
        go_wp2_with fail
        go_ret
        exact ⟨rfl, (below_alloc1 _ _).alloc (by simp) _⟩
      · have y2 : (c == 0) = false := by simpa using z2
        rw [y2] at hg
        simp at hg
        subst hg
        go_enter Tryd.func38, Tryd.ntmps38
        go_wp2_with fail
        go_ret
        exact ⟨rfl, (below_alloc1 _ _).alloc (by simp) _⟩
    · have y1 : (b == 0) = false := by simpa using z1
      rw [y1] at hg
      simp at hg
      subst hg
      go_enter Tryd.func38, Tryd.ntmps38
      go_wp2_with fail
      go_ret
      exact ⟨rfl, (below_alloc1 _ _).alloc (by simp) _⟩
  · have y0 : (a == 0) = false := by simpa using z0
    rw [y0] at hg
    simp at hg
    subst hg
    go_enter Tryd.func38, Tryd.ntmps38
    go_wp2_with fail
    go_ret
    exact ⟨rfl, (below_alloc1 _ _).alloc (by simp) _⟩
set_option maxRecDepth 100000 in
set_option maxHeartbeats 4000000 in
theorem good_1 (fa : Option Addr) (nf fc : Nat) (ca : Option Addr) (nc cc : Nat) (lk : Int) (ka : Option Addr) (nk kc : Nat) (a0 : Option Addr) (n cap : Nat) (a b c : Int) (w : World) (hb : i64b b) (h1 : nf ≤ 1000) (h2 : nc ≤ 1000) (h3 : nk ≤ 1000) (h5 : n ≤ 1000) :
    Calls Tryd.prog 38 #[pv fa nf fc ca nc cc lk ka nk kc, .slice a0 n cap, .agg #[.int .i64 1, .int .i64 a, .int .i64 b, .int .i64 c]] w fun e w' => e = .returned (.int .i64 (insI nf nc nk lk n (1, a, b, c))) ∧ Below w.heap.size w w' := by
  obtain ⟨g, hg1, hg2⟩ := insI_good nf nc nk lk n 1 a b c hb (by omega) h3
  have hg : some (inn a 0 8 && (c == 0)) = some g := hg1
  rw [hg2]
  clear hg1 hg2 hb
  unfold pv
  obtain ⟨p0, hp0⟩ : ∃ p, inn a 0 8 = p := ⟨_, rfl⟩
  rw [hp0] at hg
  have HP0 := Lib.hid hp0
  clear hp0
  cases p0
  · skip
    simp at hg
    subst hg
    go_enter Tryd.func38, Tryd.ntmps38
    go_wp2_with fail
    refine (reg_any _ _).mono ?_
    rintro e w1 ⟨rfl, rfl⟩
    rw [HP0.out]
    go_wp2_with fail
    go_ret
    exact ⟨rfl, (below_alloc1 _ _).alloc (by simp) _⟩
  · skip
    by_cases z1 : c = 0
    · subst z1
      simp at hg
      subst hg
      go_enter Tryd.func38, Tryd.ntmps38
      go_wp2_with fail
      refine (reg_any _ _).mono ?_
      rintro e w1 ⟨rfl, rfl⟩
      rw [HP0.out]
      go_wp2_with fail
      go_ret
      exact ⟨rfl, (below_alloc1 _ _).alloc (by simp) _⟩
    · have y1 : (c == 0) = false := by simpa using z1
      rw [y1] at hg
      simp at hg
      subst hg
      go_enter Tryd.func38, Tryd.ntmps38
      go_wp2_with fail
      refine (reg_any _ _).mono ?_
      rintro e w1 ⟨rfl, rfl⟩
      rw [HP0.out]
      go_wp2_with fail
      go_ret
      exact ⟨rfl, (below_alloc1 _ _).alloc (by simp) _⟩
set_option maxRecDepth 100000 in
set_option maxHeartbeats 4000000 in
theorem good_2 (fa : Option Addr) (nf fc : Nat) (ca : Option Addr) (nc cc : Nat) (lk : Int) (ka : Option Addr) (nk kc : Nat) (a0 : Option Addr) (n cap : Nat) (a b c : Int) (w : World) (hb : i64b b) (h1 : nf ≤ 1000) (h2 : nc ≤ 1000) (h3 : nk ≤ 1000) (h5 : n ≤ 1000) :
    Calls Tryd.prog 38 #[pv fa nf fc ca nc cc lk ka nk kc, .slice a0 n cap, .agg #[.int .i64 2, .int .i64 a, .int .i64 b, .int .i64 c]] w fun e w' => e = .returned (.int .i64 (insI nf nc nk lk n (2, a, b, c))) ∧ Below w.heap.size w w' := by
  obtain ⟨g, hg1, hg2⟩ := insI_good nf nc nk lk n 2 a b c hb (by omega) h3
  have hg : some (inn a 0 8 && inn b 0 8 && (c == 0)) = some g := hg1
  rw [hg2]
  clear hg1 hg2 hb
  unfold pv
  obtain ⟨p0, hp0⟩ : ∃ p, inn a 0 8 = p := ⟨_, rfl⟩
  rw [hp0] at hg
  have HP0 := Lib.hid hp0
  clear hp0
  cases p0
  · skip
    simp at hg
    subst hg
    go_enter Tryd.func38, Tryd.ntmps38
    go_wp2_with fail
    refine (reg_any _ _).mono ?_
    rintro e w1 ⟨rfl, rfl⟩
    rw [HP0.out]
    go_wp2_with fail
    go_ret
    exact ⟨rfl, (below_alloc1 _ _).alloc (by simp) _⟩
  · skip
    obtain ⟨p1, hp1⟩ : ∃ p, inn b 0 8 = p := ⟨_, rfl⟩
    rw [hp1] at hg
    have HP1 := Lib.hid hp1
    clear hp1
    cases p1
    · skip
      simp at hg
      subst hg
      go_enter Tryd.func38, Tryd.ntmps38
      go_wp2_with fail
      refine (reg_any _ _).mono ?_
      rintro e w1 ⟨rfl, rfl⟩
      rw [HP0.out]
      go_wp2_with fail
      refine (reg_any _ _).mono ?_
      rintro e w1 ⟨rfl, rfl⟩
      rw [HP1.out]
      go_wp2_with fail
      go_ret
      exact ⟨rfl, (below_alloc1 _ _).alloc (by simp) _⟩
    · skip
      by_cases z2 : c = 0
      · subst z2
        simp at hg
        subst hg
        go_enter Tryd.func38, Tryd.ntmps38
        go_wp2_with fail
        refine (reg_any _ _).mono ?_
        rintro e w1 ⟨rfl, rfl⟩
        rw [HP0.out]
        go_wp2_with fail
        refine (reg_any _ _).mono ?_
        rintro e w1 ⟨rfl, rfl⟩
        rw [HP1.out]
        go_wp2_with fail
        go_ret
        exact ⟨rfl, (below_alloc1 _ _).alloc (by simp) _⟩
      · have y2 : (c == 0) = false := by simpa using z2
        rw [y2] at hg
        simp at hg
        subst hg
        go_enter Tryd.func38, Tryd.ntmps38
        go_wp2_with fail
        refine (reg_any _ _).mono ?_
        rintro e w1 ⟨rfl, rfl⟩
        rw [HP0.out]
        go_wp2_with fail
        refine (reg_any _ _).mono ?_
        rintro e w1 ⟨rfl, rfl⟩
        rw [HP1.out]
        go_wp2_with fail
        go_ret
        exact ⟨rfl, (below_alloc1 _ _).alloc (by simp) _⟩
set_option maxRecDepth 100000 in
set_option maxHeartbeats 4000000 in
theorem good_3 (fa : Option Addr) (nf fc : Nat) (ca : Option Addr) (nc cc : Nat) (lk : Int) (ka : Option Addr) (nk kc : Nat) (a0 : Option Addr) (n cap : Nat) (a b c : Int) (w : World) (hb : i64b b) (h1 : nf ≤ 1000) (h2 : nc ≤ 1000) (h3 : nk ≤ 1000) (h5 : n ≤ 1000) :
    Calls Tryd.prog 38 #[pv fa nf fc ca nc cc lk ka nk kc, .slice a0 n cap, .agg #[.int .i64 3, .int .i64 a, .int .i64 b, .int .i64 c]] w fun e w' => e = .returned (.int .i64 (insI nf nc nk lk n (3, a, b, c))) ∧ Below w.heap.size w w' := by
  obtain ⟨g, hg1, hg2⟩ := insI_good nf nc nk lk n 3 a b c hb (by omega) h3
  have hg : some (inn a 0 8 && inn b 0 8 && inn c 0 8) = some g := hg1
  rw [hg2]
  clear hg1 hg2 hb
  unfold pv
  obtain ⟨p0, hp0⟩ : ∃ p, inn a 0 8 = p := ⟨_, rfl⟩
  rw [hp0] at hg
  have HP0 := Lib.hid hp0
  clear hp0
  cases p0
  · skip
    simp at hg
    subst hg
    go_enter Tryd.func38, Tryd.ntmps38
    go_wp2_with fail
    refine (reg_any _ _).mono ?_
    rintro e w1 ⟨rfl, rfl⟩
    rw [HP0.out]
    go_wp2_with fail
    go_ret
    exact ⟨rfl, (below_alloc1 _ _).alloc (by simp) _⟩
  · skip
    obtain ⟨p1, hp1⟩ : ∃ p, inn b 0 8 = p := ⟨_, rfl⟩
    rw [hp1] at hg
    have HP1 := Lib.hid hp1
    clear hp1
    cases p1
    · skip
      simp at hg
      subst hg
      go_enter Tryd.func38, Tryd.ntmps38
      go_wp2_with fail
      refine (reg_any _ _).mono ?_
      rintro e w1 ⟨rfl, rfl⟩
      rw [HP0.out]
      go_wp2_with fail
      refine (reg_any _ _).mono ?_
      rintro e w1 ⟨rfl, rfl⟩
      rw [HP1.out]
      go_wp2_with fail
      go_ret
      exact ⟨rfl, (below_alloc1 _ _).alloc (by simp) _⟩
    · skip
      obtain ⟨p2, hp2⟩ : ∃ p, inn c 0 8 = p := ⟨_, rfl⟩
      rw [hp2] at hg
      have HP2 := Lib.hid hp2
      clear hp2
      cases p2
      · skip
        simp at hg
        subst hg
        go_enter Tryd.func38, Tryd.ntmps38
        go_wp2_with fail
        refine (reg_any _ _).mono ?_
        rintro e w1 ⟨rfl, rfl⟩
        rw [HP0.out]
        go_wp2_with fail
        refine (reg_any _ _).mono ?_
        rintro e w1 ⟨rfl, rfl⟩
        rw [HP1.out]
        go_wp2_with fail
        refine (reg_any _ _).mono ?_
        rintro e w1 ⟨rfl, rfl⟩
        rw [HP2.out]
        go_wp2_with fail
        go_ret
        exact ⟨rfl, (below_alloc1 _ _).alloc (by simp) _⟩
      · skip
        simp at hg
        subst hg
        go_enter Tryd.func38, Tryd.ntmps38
        go_wp2_with fail
        refine (reg_any _ _).mono ?_
        rintro e w1 ⟨rfl, rfl⟩
        rw [HP0.out]
        go_wp2_with fail
        refine (reg_any _ _).mono ?_
        rintro e w1 ⟨rfl, rfl⟩
        rw [HP1.out]
        go_wp2_with fail
        refine (reg_any _ _).mono ?_
        rintro e w1 ⟨rfl, rfl⟩
        rw [HP2.out]
        go_wp2_with fail
        go_ret
        exact ⟨rfl, (below_alloc1 _ _).alloc (by simp) _⟩
set_option maxRecDepth 100000 in
set_option maxHeartbeats 4000000 in
theorem good_4 (fa : Option Addr) (nf fc : Nat) (ca : Option Addr) (nc cc : Nat) (lk : Int) (ka : Option Addr) (nk kc : Nat) (a0 : Option Addr) (n cap : Nat) (a b c : Int) (w : World) (hb : i64b b) (h1 : nf ≤ 1000) (h2 : nc ≤ 1000) (h3 : nk ≤ 1000) (h5 : n ≤ 1000) :
    Calls Tryd.prog 38 #[pv fa nf fc ca nc cc lk ka nk kc, .slice a0 n cap, .agg #[.int .i64 4, .int .i64 a, .int .i64 b, .int .i64 c]] w fun e w' => e = .returned (.int .i64 (insI nf nc nk lk n (4, a, b, c))) ∧ Below w.heap.size w w' := by
  obtain ⟨g, hg1, hg2⟩ := insI_good nf nc nk lk n 4 a b c hb (by omega) h3
  have hg : some (inn a 0 8 && inn b 0 8 && inn c 0 8) = some g := hg1
  rw [hg2]
  clear hg1 hg2 hb
  unfold pv
  obtain ⟨p0, hp0⟩ : ∃ p, inn a 0 8 = p := ⟨_, rfl⟩
  rw [hp0] at hg
  have HP0 := Lib.hid hp0
  clear hp0
  cases p0
  · skip
    simp at hg
    subst hg
    go_enter Tryd.func38, Tryd.ntmps38
    go_wp2_with fail
    refine (reg_any _ _).mono ?_
    rintro e w1 ⟨rfl, rfl⟩
    rw [HP0.out]
    go_wp2_with fail
    go_ret
    exact ⟨rfl, (below_alloc1 _ _).alloc (by simp) _⟩
  · skip
    obtain ⟨p1, hp1⟩ : ∃ p, inn b 0 8 = p := ⟨_, rfl⟩
    rw [hp1] at hg
    have HP1 := Lib.hid hp1
    clear hp1
    cases p1
    · skip
      simp at hg
      subst hg
      go_enter Tryd.func38, Tryd.ntmps38
      go_wp2_with fail
      refine (reg_any _ _).mono ?_
      rintro e w1 ⟨rfl, rfl⟩
      rw [HP0.out]
      go_wp2_with fail
      refine (reg_any _ _).mono ?_
      rintro e w1 ⟨rfl, rfl⟩
      rw [HP1.out]
      go_wp2_with fail
      go_ret
      exact ⟨rfl, (below_alloc1 _ _).alloc (by simp) _⟩
    · skip
      obtain ⟨p2, hp2⟩ : ∃ p, inn c 0 8 = p := ⟨_, rfl⟩
      rw [hp2] at hg
      have HP2 := Lib.hid hp2
      clear hp2
      cases p2
      · skip
        simp at hg
        subst hg
        go_enter Tryd.func38, Tryd.ntmps38
        go_wp2_with fail
        refine (reg_any _ _).mono ?_
        rintro e w1 ⟨rfl, rfl⟩
        rw [HP0.out]
        go_wp2_with fail
        refine (reg_any _ _).mono ?_
        rintro e w1 ⟨rfl, rfl⟩
        rw [HP1.out]
        go_wp2_with fail
        refine (reg_any _ _).mono ?_
        rintro e w1 ⟨rfl, rfl⟩
        rw [HP2.out]
        go_wp2_with fail
        go_ret
        exact ⟨rfl, (below_alloc1 _ _).alloc (by simp) _⟩
      · skip
        simp at hg
        subst hg
        go_enter Tryd.func38, Tryd.ntmps38
        go_wp2_with fail
        refine (reg_any _ _).mono ?_
        rintro e w1 ⟨rfl, rfl⟩
        rw [HP0.out]
        go_wp2_with fail
        refine (reg_any _ _).mono ?_
        rintro e w1 ⟨rfl, rfl⟩
        rw [HP1.out]
        go_wp2_with fail
        refine (reg_any _ _).mono ?_
        rintro e w1 ⟨rfl, rfl⟩
        rw [HP2.out]
        go_wp2_with fail
        go_ret
        exact ⟨rfl, (below_alloc1 _ _).alloc (by simp) _⟩
set_option maxRecDepth 100000 in
set_option maxHeartbeats 4000000 in
theorem good_5 (fa : Option Addr) (nf fc : Nat) (ca : Option Addr) (nc cc : Nat) (lk : Int) (ka : Option Addr) (nk kc : Nat) (a0 : Option Addr) (n cap : Nat) (a b c : Int) (w : World) (hb : i64b b) (h1 : nf ≤ 1000) (h2 : nc ≤ 1000) (h3 : nk ≤ 1000) (h5 : n ≤ 1000) :
    Calls Tryd.prog 38 #[pv fa nf fc ca nc cc lk ka nk kc, .slice a0 n cap, .agg #[.int .i64 5, .int .i64 a, .int .i64 b, .int .i64 c]] w fun e w' => e = .returned (.int .i64 (insI nf nc nk lk n (5, a, b, c))) ∧ Below w.heap.size w w' := by
  obtain ⟨g, hg1, hg2⟩ := insI_good nf nc nk lk n 5 a b c hb (by omega) h3
  have hg : some (inn a 0 8 && inn b 0 8 && inn c 0 8) = some g := hg1
  rw [hg2]
  clear hg1 hg2 hb
  unfold pv
  obtain ⟨p0, hp0⟩ : ∃ p, inn a 0 8 = p := ⟨_, rfl⟩
  rw [hp0] at hg
  have HP0 := Lib.hid hp0
  clear hp0
  cases p0
  · skip
    simp at hg
    subst hg
    go_enter Tryd.func38, Tryd.ntmps38
    go_wp2_with fail
    refine (reg_any _ _).mono ?_
    rintro e w1 ⟨rfl, rfl⟩
    rw [HP0.out]
    go_wp2_with fail
    go_ret
    exact ⟨rfl, (below_alloc1 _ _).alloc (by simp) _⟩
  · skip
    obtain ⟨p1, hp1⟩ : ∃ p, inn b 0 8 = p := ⟨_, rfl⟩
    rw [hp1] at hg
    have HP1 := Lib.hid hp1
    clear hp1
    cases p1
    · skip
      simp at hg
      subst hg
      go_enter Tryd.func38, Tryd.ntmps38
      go_wp2_with fail
      refine (reg_any _ _).mono ?_
      rintro e w1 ⟨rfl, rfl⟩
      rw [HP0.out]
      go_wp2_with fail
      refine (reg_any _ _).mono ?_
      rintro e w1 ⟨rfl, rfl⟩
      rw [HP1.out]
      go_wp2_with fail
      go_ret
      exact ⟨rfl, (below_alloc1 _ _).alloc (by simp) _⟩
    · skip
      obtain ⟨p2, hp2⟩ : ∃ p, inn c 0 8 = p := ⟨_, rfl⟩
      rw [hp2] at hg
      have HP2 := Lib.hid hp2
      clear hp2
      cases p2
      · skip
        simp at hg
        subst hg
        go_enter Tryd.func38, Tryd.ntmps38
        go_wp2_with fail
        refine (reg_any _ _).mono ?_
        rintro e w1 ⟨rfl, rfl⟩
        rw [HP0.out]
        go_wp2_with fail
        refine (reg_any _ _).mono ?_
        rintro e w1 ⟨rfl, rfl⟩
        rw [HP1.out]
        go_wp2_with fail
        refine (reg_any _ _).mono ?_
        rintro e w1 ⟨rfl, rfl⟩
        rw [HP2.out]
        go_wp2_with fail
        go_ret
        exact ⟨rfl, (below_alloc1 _ _).alloc (by simp) _⟩
      · skip
        simp at hg
        subst hg
        go_enter Tryd.func38, Tryd.ntmps38
        go_wp2_with fail
        refine (reg_any _ _).mono ?_
        rintro e w1 ⟨rfl, rfl⟩
        rw [HP0.out]
        go_wp2_with fail
        refine (reg_any _ _).mono ?_
        rintro e w1 ⟨rfl, rfl⟩
        rw [HP1.out]
        go_wp2_with fail
        refine (reg_any _ _).mono ?_
        rintro e w1 ⟨rfl, rfl⟩
        rw [HP2.out]
        go_wp2_with fail
        go_ret
        exact ⟨rfl, (below_alloc1 _ _).alloc (by simp) _⟩
set_option maxRecDepth 100000 in
set_option maxHeartbeats 4000000 in
theorem good_6 (fa : Option Addr) (nf fc : Nat) (ca : Option Addr) (nc cc : Nat) (lk : Int) (ka : Option Addr) (nk kc : Nat) (a0 : Option Addr) (n cap : Nat) (a b c : Int) (w : World) (hb : i64b b) (h1 : nf ≤ 1000) (h2 : nc ≤ 1000) (h3 : nk ≤ 1000) (h5 : n ≤ 1000) :
    Calls Tryd.prog 38 #[pv fa nf fc ca nc cc lk ka nk kc, .slice a0 n cap, .agg #[.int .i64 6, .int .i64 a, .int .i64 b, .int .i64 c]] w fun e w' => e = .returned (.int .i64 (insI nf nc nk lk n (6, a, b, c))) ∧ Below w.heap.size w w' := by
  obtain ⟨g, hg1, hg2⟩ := insI_good nf nc nk lk n 6 a b c hb (by omega) h3
  have hg : some (inn a 0 8 && inn b 0 8 && inn c 0 8) = some g := hg1
  rw [hg2]
  clear hg1 hg2 hb
  unfold pv
  obtain ⟨p0, hp0⟩ : ∃ p, inn a 0 8 = p := ⟨_, rfl⟩
  rw [hp0] at hg
  have HP0 := Lib.hid hp0
  clear hp0
  cases p0
  · skip
    simp at hg
    subst hg
    go_enter Tryd.func38, Tryd.ntmps38
    go_wp2_with fail
    refine (reg_any _ _).mono ?_
    rintro e w1 ⟨rfl, rfl⟩
    rw [HP0.out]
    go_wp2_with fail
    go_ret
    exact ⟨rfl, (below_alloc1 _ _).alloc (by simp) _⟩
  · skip
    obtain ⟨p1, hp1⟩ : ∃ p, inn b 0 8 = p := ⟨_, rfl⟩
    rw [hp1] at hg
    have HP1 := Lib.hid hp1
    clear hp1
    cases p1
    · skip
      simp at hg
      subst hg
      go_enter Tryd.func38, Tryd.ntmps38
      go_wp2_with fail
      refine (reg_any _ _).mono ?_
      rintro e w1 ⟨rfl, rfl⟩
      rw [HP0.out]
      go_wp2_with fail
      refine (reg_any _ _).mono ?_
      rintro e w1 ⟨rfl, rfl⟩
      rw [HP1.out]
      go_wp2_with fail
      go_ret
      exact ⟨rfl, (below_alloc1 _ _).alloc (by simp) _⟩
    · skip
      obtain ⟨p2, hp2⟩ : ∃ p, inn c 0 8 = p := ⟨_, rfl⟩
      rw [hp2] at hg
      have HP2 := Lib.hid hp2
      clear hp2
      cases p2
      · skip
        simp at hg
        subst hg
        go_enter Tryd.func38, Tryd.ntmps38
        go_wp2_with fail
        refine (reg_any _ _).mono ?_
        rintro e w1 ⟨rfl, rfl⟩
        rw [HP0.out]
        go_wp2_with fail
        refine (reg_any _ _).mono ?_
        rintro e w1 ⟨rfl, rfl⟩
        rw [HP1.out]
        go_wp2_with fail
        refine (reg_any _ _).mono ?_
        rintro e w1 ⟨rfl, rfl⟩
        rw [HP2.out]
        go_wp2_with fail
        go_ret
        exact ⟨rfl, (below_alloc1 _ _).alloc (by simp) _⟩
      · skip
        simp at hg
        subst hg
        go_enter Tryd.func38, Tryd.ntmps38
        go_wp2_with fail
        refine (reg_any _ _).mono ?_
        rintro e w1 ⟨rfl, rfl⟩
        rw [HP0.out]
        go_wp2_with fail
        refine (reg_any _ _).mono ?_
        rintro e w1 ⟨rfl, rfl⟩
        rw [HP1.out]
        go_wp2_with fail
        refine (reg_any _ _).mono ?_
        rintro e w1 ⟨rfl, rfl⟩
        rw [HP2.out]
        go_wp2_with fail
        go_ret
        exact ⟨rfl, (below_alloc1 _ _).alloc (by simp) _⟩
end Go.Proofs.YtdeilfnfpgjnnaaDoor
