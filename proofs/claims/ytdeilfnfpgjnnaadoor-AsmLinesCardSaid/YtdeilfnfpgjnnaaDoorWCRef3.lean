/-
  The walks of the document's answer for one instruction.
-/
import Derived.Test.YtdeilfnfpgjnnaaDoorWCRef0
open Go Go.RowKit
set_option linter.unusedVariables false
namespace Go.Proofs.YtdeilfnfpgjnnaaDoor
set_option maxRecDepth 100000 in
set_option maxHeartbeats 4000000 in
theorem good_15 (fa : Option Addr) (nf fc : Nat) (ca : Option Addr) (nc cc : Nat) (lk : Int) (ka : Option Addr) (nk kc : Nat) (a0 : Option Addr) (n cap : Nat) (a b c : Int) (w : World) (hb : i64b b) (h1 : nf ≤ 1000) (h2 : nc ≤ 1000) (h3 : nk ≤ 1000) (h5 : n ≤ 1000) :
    Calls Tryd.prog 38 #[pv fa nf fc ca nc cc lk ka nk kc, .slice a0 n cap, .agg #[.int .i64 15, .int .i64 a, .int .i64 b, .int .i64 c]] w fun e w' => e = .returned (.int .i64 (insI nf nc nk lk n (15, a, b, c))) ∧ Below w.heap.size w w' := by
  obtain ⟨g, hg1, hg2⟩ := insI_good nf nc nk lk n 15 a b c hb (by omega) h3
  have hg : some (inn a 0 (nc : Int) && (b == 0) && (c == 0)) = some g := hg1
  rw [hg2]
  clear hg1 hg2 hb
  unfold pv
  obtain ⟨p0, hp0⟩ : ∃ p, inn a 0 (nc : Int) = p := ⟨_, rfl⟩
  rw [hp0] at hg
  have HP0 := Lib.hid hp0
  clear hp0
  cases p0
  · skip
    simp at hg
    subst hg
    go_enter Tryd.func38, Tryd.ntmps38
    go_wp2_with fail
    refine (in_any _ _ _ _).mono ?_
    rintro e w1 ⟨rfl, rfl⟩
    rw [HP0.out]
    go_wp2_with fail
    go_ret
    exact ⟨rfl, (below_alloc1 _ _).alloc (by simp) _⟩
  · skip
    by_cases z1 : b = 0
    · subst z1
      by_cases z2 : c = 0
      · subst z2
        simp at hg
        subst hg
        go_enter Tryd.func38, Tryd.ntmps38
        go_wp2_with fail
        refine (in_any _ _ _ _).mono ?_
        rintro e w1 ⟨rfl, rfl⟩
        rw [HP0.out]
        go_wp2_with fail
        go_ret
        exact ⟨rfl, (below_alloc1 _ _).alloc (by simp) _⟩
      · have y2 : (c == 0) = false := by simpa using z2
        rw [y2] at hg
        simp at hg
        subst hg
        go_enter Tryd.func38, Tryd.ntmps38
        go_wp2_with fail
        refine (in_any _ _ _ _).mono ?_
        rintro e w1 ⟨rfl, rfl⟩
        rw [HP0.out]
        go_wp2_with fail
        go_ret
        exact ⟨rfl, (below_alloc1 _ _).alloc (by simp) _⟩
    · have y1 : (b == 0) = false := by simpa using z1
      rw [y1] at hg
      simp at hg
      subst hg
      go_enter Tryd.func38, Tryd.ntmps38
      go_wp2_with fail
      refine (in_any _ _ _ _).mono ?_
      rintro e w1 ⟨rfl, rfl⟩
      rw [HP0.out]
      go_wp2_with fail
      go_ret
      exact ⟨rfl, (below_alloc1 _ _).alloc (by simp) _⟩
set_option maxRecDepth 100000 in
set_option maxHeartbeats 4000000 in
theorem good_16 (fa : Option Addr) (nf fc : Nat) (ca : Option Addr) (nc cc : Nat) (lk : Int) (ka : Option Addr) (nk kc : Nat) (a0 : Option Addr) (n cap : Nat) (a b c : Int) (w : World) (hb : i64b b) (h1 : nf ≤ 1000) (h2 : nc ≤ 1000) (h3 : nk ≤ 1000) (h5 : n ≤ 1000) :
    Calls Tryd.prog 38 #[pv fa nf fc ca nc cc lk ka nk kc, .slice a0 n cap, .agg #[.int .i64 16, .int .i64 a, .int .i64 b, .int .i64 c]] w fun e w' => e = .returned (.int .i64 (insI nf nc nk lk n (16, a, b, c))) ∧ Below w.heap.size w w' := by
  obtain ⟨g, hg1, hg2⟩ := insI_good nf nc nk lk n 16 a b c hb (by omega) h3
  have hg : some (inn a 0 (nk : Int) && inn b 1 ((nk : Int) - a + 1) && inn c 0 8) = some g := hg1
  rw [hg2]
  clear hg1 hg2 hb
  unfold pv
  obtain ⟨p0, hp0⟩ : ∃ p, inn a 0 (nk : Int) = p := ⟨_, rfl⟩
  rw [hp0] at hg
  have HP0 := Lib.hid hp0
  have hq : p0 = true → 0 ≤ a ∧ a < nk := fun h => by rw [← hp0] at h; simpa [inn] using h
  clear hp0
  cases p0
  · clear hq
    simp at hg
    subst hg
    go_enter Tryd.func38, Tryd.ntmps38
    go_wp2_with fail
    refine (in_any _ _ _ _).mono ?_
    rintro e w1 ⟨rfl, rfl⟩
    rw [HP0.out]
    go_wp2_with fail
    go_ret
    exact ⟨rfl, (below_alloc1 _ _).alloc (by simp) _⟩
  · obtain ⟨hq1, hq2⟩ := hq rfl
    clear hq
    obtain ⟨p1, hp1⟩ : ∃ p, inn b 1 ((nk : Int) - a + 1) = p := ⟨_, rfl⟩
    rw [hp1] at hg
    have HP1 := Lib.hid hp1
    clear hp1
    cases p1
    · skip
      simp at hg
      subst hg
      go_enter Tryd.func38, Tryd.ntmps38
      go_wp2_with fail
      refine (in_any _ _ _ _).mono ?_
      rintro e w1 ⟨rfl, rfl⟩
      rw [HP0.out]
      go_wp2_with fail
      refine (in_any _ _ _ _).mono ?_
      rintro e w1 ⟨rfl, rfl⟩
      rw [HP1.out]
      go_wp2_with fail
      go_ret
      exact ⟨rfl, (below_alloc1 _ _).alloc (by simp) _⟩
    · skip
      obtain ⟨p2, hp2⟩ : ∃ p, inn c 0 8 = p := ⟨_, rfl⟩
      rw [hp2] at hg
      have HP2 := Lib.hid hp2
      clear hp2
      cases p2
      · skip
        simp at hg
        subst hg
        go_enter Tryd.func38, Tryd.ntmps38
        go_wp2_with fail
        refine (in_any _ _ _ _).mono ?_
        rintro e w1 ⟨rfl, rfl⟩
        rw [HP0.out]
        go_wp2_with fail
        refine (in_any _ _ _ _).mono ?_
        rintro e w1 ⟨rfl, rfl⟩
        rw [HP1.out]
        go_wp2_with fail
        refine (reg_any _ _).mono ?_
        rintro e w1 ⟨rfl, rfl⟩
        rw [HP2.out]
        go_wp2_with fail
        go_ret
        exact ⟨rfl, (below_alloc1 _ _).alloc (by simp) _⟩
      · skip
        simp at hg
        subst hg
        go_enter Tryd.func38, Tryd.ntmps38
        go_wp2_with fail
        refine (in_any _ _ _ _).mono ?_
        rintro e w1 ⟨rfl, rfl⟩
        rw [HP0.out]
        go_wp2_with fail
        refine (in_any _ _ _ _).mono ?_
        rintro e w1 ⟨rfl, rfl⟩
        rw [HP1.out]
        go_wp2_with fail
        refine (reg_any _ _).mono ?_
        rintro e w1 ⟨rfl, rfl⟩
        rw [HP2.out]
        go_wp2_with fail
        go_ret
        exact ⟨rfl, (below_alloc1 _ _).alloc (by simp) _⟩
set_option maxRecDepth 100000 in
set_option maxHeartbeats 4000000 in
theorem good_17 (fa : Option Addr) (nf fc : Nat) (ca : Option Addr) (nc cc : Nat) (lk : Int) (ka : Option Addr) (nk kc : Nat) (a0 : Option Addr) (n cap : Nat) (a b c : Int) (w : World) (hb : i64b b) (h1 : nf ≤ 1000) (h2 : nc ≤ 1000) (h3 : nk ≤ 1000) (h5 : n ≤ 1000) :
    Calls Tryd.prog 38 #[pv fa nf fc ca nc cc lk ka nk kc, .slice a0 n cap, .agg #[.int .i64 17, .int .i64 a, .int .i64 b, .int .i64 c]] w fun e w' => e = .returned (.int .i64 (insI nf nc nk lk n (17, a, b, c))) ∧ Below w.heap.size w w' := by
  obtain ⟨g, hg1, hg2⟩ := insI_good nf nc nk lk n 17 a b c hb (by omega) h3
  have hg : some (inn a 0 8 && (b == 0) && (c == 0)) = some g := hg1
  rw [hg2]
  clear hg1 hg2 hb
  unfold pv
  obtain ⟨p0, hp0⟩ : ∃ p, inn a 0 8 = p := ⟨_, rfl⟩
  rw [hp0] at hg
  have HP0 := Lib.hid hp0
  clear hp0
  cases p0
  · skip
    simp at hg
    subst hg
    go_enter Tryd.func38, Tryd.ntmps38
    go_wp2_with fail
    refine (reg_any _ _).mono ?_
    rintro e w1 ⟨rfl, rfl⟩
    rw [HP0.out]
    go_wp2_with fail
    go_ret
    exact ⟨rfl, (below_alloc1 _ _).alloc (by simp) _⟩
  · skip
    by_cases z1 : b = 0
    · subst z1
      by_cases z2 : c = 0
      · subst z2
        simp at hg
        subst hg
        go_enter Tryd.func38, Tryd.ntmps38
        go_wp2_with fail
        refine (reg_any _ _).mono ?_
        rintro e w1 ⟨rfl, rfl⟩
        rw [HP0.out]
        go_wp2_with fail
        go_ret
        exact ⟨rfl, (below_alloc1 _ _).alloc (by simp) _⟩
      · have y2 : (c == 0) = false := by simpa using z2
        rw [y2] at hg
        simp at hg
        subst hg
        go_enter Tryd.func38, Tryd.ntmps38
        go_wp2_with fail
        refine (reg_any _ _).mono ?_
        rintro e w1 ⟨rfl, rfl⟩
        rw [HP0.out]
        go_wp2_with fail
        go_ret
        exact ⟨rfl, (below_alloc1 _ _).alloc (by simp) _⟩
    · have y1 : (b == 0) = false := by simpa using z1
      rw [y1] at hg
      simp at hg
      subst hg
      go_enter Tryd.func38, Tryd.ntmps38
      go_wp2_with fail
      refine (reg_any _ _).mono ?_
      rintro e w1 ⟨rfl, rfl⟩
      rw [HP0.out]
      go_wp2_with fail
      go_ret
      exact ⟨rfl, (below_alloc1 _ _).alloc (by simp) _⟩
set_option maxRecDepth 100000 in
set_option maxHeartbeats 4000000 in
theorem good_18 (fa : Option Addr) (nf fc : Nat) (ca : Option Addr) (nc cc : Nat) (lk : Int) (ka : Option Addr) (nk kc : Nat) (a0 : Option Addr) (n cap : Nat) (a b c : Int) (w : World) (hb : i64b b) (h1 : nf ≤ 1000) (h2 : nc ≤ 1000) (h3 : nk ≤ 1000) (h5 : n ≤ 1000) :
    Calls Tryd.prog 38 #[pv fa nf fc ca nc cc lk ka nk kc, .slice a0 n cap, .agg #[.int .i64 18, .int .i64 a, .int .i64 b, .int .i64 c]] w fun e w' => e = .returned (.int .i64 (insI nf nc nk lk n (18, a, b, c))) ∧ Below w.heap.size w w' := by
  obtain ⟨g, hg1, hg2⟩ := insI_good nf nc nk lk n 18 a b c hb (by omega) h3
  have hg : some (inn a 0 lk && (b == 0) && (c == 0)) = some g := hg1
  rw [hg2]
  clear hg1 hg2 hb
  unfold pv
  obtain ⟨p0, hp0⟩ : ∃ p, inn a 0 lk = p := ⟨_, rfl⟩
  rw [hp0] at hg
  have HP0 := Lib.hid hp0
  clear hp0
  cases p0
  · skip
    simp at hg
    subst hg
    go_enter Tryd.func38, Tryd.ntmps38
    go_wp2_with fail
    refine (in_any _ _ _ _).mono ?_
    rintro e w1 ⟨rfl, rfl⟩
    rw [HP0.out]
    go_wp2_with fail
    go_ret
    exact ⟨rfl, (below_alloc1 _ _).alloc (by simp) _⟩
  · skip
    by_cases z1 : b = 0
    · subst z1
      by_cases z2 : c = 0
      · subst z2
        simp at hg
        subst hg
        go_enter Tryd.func38, Tryd.ntmps38
        go_wp2_with fail
        refine (in_any _ _ _ _).mono ?_
        rintro e w1 ⟨rfl, rfl⟩
        rw [HP0.out]
        go_wp2_with fail
        go_ret
        exact ⟨rfl, (below_alloc1 _ _).alloc (by simp) _⟩
      · have y2 : (c == 0) = false := by simpa using z2
        rw [y2] at hg
        simp at hg
        subst hg
        go_enter Tryd.func38, Tryd.ntmps38
        go_wp2_with fail
        refine (in_any _ _ _ _).mono ?_
        rintro e w1 ⟨rfl, rfl⟩
        rw [HP0.out]
        go_wp2_with fail
        go_ret
        exact ⟨rfl, (below_alloc1 _ _).alloc (by simp) _⟩
    · have y1 : (b == 0) = false := by simpa using z1
      rw [y1] at hg
      simp at hg
      subst hg
      go_enter Tryd.func38, Tryd.ntmps38
      go_wp2_with fail
      refine (in_any _ _ _ _).mono ?_
      rintro e w1 ⟨rfl, rfl⟩
      rw [HP0.out]
      go_wp2_with fail
      go_ret
      exact ⟨rfl, (below_alloc1 _ _).alloc (by simp) _⟩
set_option maxRecDepth 100000 in
set_option maxHeartbeats 4000000 in
theorem good_19 (fa : Option Addr) (nf fc : Nat) (ca : Option Addr) (nc cc : Nat) (lk : Int) (ka : Option Addr) (nk kc : Nat) (a0 : Option Addr) (n cap : Nat) (a b c : Int) (w : World) (hb : i64b b) (h1 : nf ≤ 1000) (h2 : nc ≤ 1000) (h3 : nk ≤ 1000) (h5 : n ≤ 1000) :
    Calls Tryd.prog 38 #[pv fa nf fc ca nc cc lk ka nk kc, .slice a0 n cap, .agg #[.int .i64 19, .int .i64 a, .int .i64 b, .int .i64 c]] w fun e w' => e = .returned (.int .i64 (insI nf nc nk lk n (19, a, b, c))) ∧ Below w.heap.size w w' := by
  obtain ⟨g, hg1, hg2⟩ := insI_good nf nc nk lk n 19 a b c hb (by omega) h3
  have hg : some (inn a 0 lk && (b == 0) && (c == 0)) = some g := hg1
  rw [hg2]
  clear hg1 hg2 hb
  unfold pv
  obtain ⟨p0, hp0⟩ : ∃ p, inn a 0 lk = p := ⟨_, rfl⟩
  rw [hp0] at hg
  have HP0 := Lib.hid hp0
  clear hp0
  cases p0
  · skip
    simp at hg
    subst hg
    go_enter Tryd.func38, Tryd.ntmps38
    go_wp2_with fail
    refine (in_any _ _ _ _).mono ?_
    rintro e w1 ⟨rfl, rfl⟩
    rw [HP0.out]
    go_wp2_with fail
    go_ret
    exact ⟨rfl, (below_alloc1 _ _).alloc (by simp) _⟩
  · skip
    by_cases z1 : b = 0
    · subst z1
      by_cases z2 : c = 0
      · subst z2
        simp at hg
        subst hg
        go_enter Tryd.func38, Tryd.ntmps38
        go_wp2_with fail
        refine (in_any _ _ _ _).mono ?_
        rintro e w1 ⟨rfl, rfl⟩
        rw [HP0.out]
        go_wp2_with fail
        go_ret
        exact ⟨rfl, (below_alloc1 _ _).alloc (by simp) _⟩
      · have y2 : (c == 0) = false := by simpa using z2
        rw [y2] at hg
        simp at hg
        subst hg
        go_enter Tryd.func38, Tryd.ntmps38
        go_wp2_with fail
        refine (in_any _ _ _ _).mono ?_
        rintro e w1 ⟨rfl, rfl⟩
        rw [HP0.out]
        go_wp2_with fail
        go_ret
        exact ⟨rfl, (below_alloc1 _ _).alloc (by simp) _⟩
    · have y1 : (b == 0) = false := by simpa using z1
      rw [y1] at hg
      simp at hg
      subst hg
      go_enter Tryd.func38, Tryd.ntmps38
      go_wp2_with fail
      refine (in_any _ _ _ _).mono ?_
      rintro e w1 ⟨rfl, rfl⟩
      rw [HP0.out]
      go_wp2_with fail
      go_ret
      exact ⟨rfl, (below_alloc1 _ _).alloc (by simp) _⟩
set_option maxRecDepth 100000 in
set_option maxHeartbeats 4000000 in
theorem good_20 (fa : Option Addr) (nf fc : Nat) (ca : Option Addr) (nc cc : Nat) (lk : Int) (ka : Option Addr) (nk kc : Nat) (a0 : Option Addr) (n cap : Nat) (a b c : Int) (w : World) (hb : i64b b) (h1 : nf ≤ 1000) (h2 : nc ≤ 1000) (h3 : nk ≤ 1000) (h5 : n ≤ 1000) :
    Calls Tryd.prog 38 #[pv fa nf fc ca nc cc lk ka nk kc, .slice a0 n cap, .agg #[.int .i64 20, .int .i64 a, .int .i64 b, .int .i64 c]] w fun e w' => e = .returned (.int .i64 (insI nf nc nk lk n (20, a, b, c))) ∧ Below w.heap.size w w' := by
  obtain ⟨g, hg1, hg2⟩ := insI_good nf nc nk lk n 20 a b c hb (by omega) h3
  have hg : some (inn a 0 8 && (b == 0) && (c == 0)) = some g := hg1
  rw [hg2]
  clear hg1 hg2 hb
  unfold pv
  obtain ⟨p0, hp0⟩ : ∃ p, inn a 0 8 = p := ⟨_, rfl⟩
  rw [hp0] at hg
  have HP0 := Lib.hid hp0
  clear hp0
  cases p0
  · skip
    simp at hg
    subst hg
    go_enter Tryd.func38, Tryd.ntmps38
    go_wp2_with fail
    refine (reg_any _ _).mono ?_
    rintro e w1 ⟨rfl, rfl⟩
    rw [HP0.out]
    go_wp2_with fail
    go_ret
    exact ⟨rfl, (below_alloc1 _ _).alloc (by simp) _⟩
  · skip
    by_cases z1 : b = 0
    · subst z1
      by_cases z2 : c = 0
      · subst z2
        simp at hg
        subst hg
        go_enter Tryd.func38, Tryd.ntmps38
        go_wp2_with fail
        refine (reg_any _ _).mono ?_
        rintro e w1 ⟨rfl, rfl⟩
        rw [HP0.out]
        go_wp2_with fail
        go_ret
        exact ⟨rfl, (below_alloc1 _ _).alloc (by simp) _⟩
      · have y2 : (c == 0) = false := by simpa using z2
        rw [y2] at hg
        simp at hg
        subst hg
        go_enter Tryd.func38, Tryd.ntmps38
        go_wp2_with fail
        refine (reg_any _ _).mono ?_
        rintro e w1 ⟨rfl, rfl⟩
        rw [HP0.out]
        go_wp2_with fail
        go_ret
        exact ⟨rfl, (below_alloc1 _ _).alloc (by simp) _⟩
    · have y1 : (b == 0) = false := by simpa using z1
      rw [y1] at hg
      simp at hg
      subst hg
      go_enter Tryd.func38, Tryd.ntmps38
      go_wp2_with fail
      refine (reg_any _ _).mono ?_
      rintro e w1 ⟨rfl, rfl⟩
      rw [HP0.out]
      go_wp2_with fail
      go_ret
      exact ⟨rfl, (below_alloc1 _ _).alloc (by simp) _⟩
set_option maxRecDepth 100000 in
set_option maxHeartbeats 4000000 in
theorem good_21 (fa : Option Addr) (nf fc : Nat) (ca : Option Addr) (nc cc : Nat) (lk : Int) (ka : Option Addr) (nk kc : Nat) (a0 : Option Addr) (n cap : Nat) (a b c : Int) (w : World) (hb : i64b b) (h1 : nf ≤ 1000) (h2 : nc ≤ 1000) (h3 : nk ≤ 1000) (h5 : n ≤ 1000) :
    Calls Tryd.prog 38 #[pv fa nf fc ca nc cc lk ka nk kc, .slice a0 n cap, .agg #[.int .i64 21, .int .i64 a, .int .i64 b, .int .i64 c]] w fun e w' => e = .returned (.int .i64 (insI nf nc nk lk n (21, a, b, c))) ∧ Below w.heap.size w w' := by
  obtain ⟨g, hg1, hg2⟩ := insI_good nf nc nk lk n 21 a b c hb (by omega) h3
  have hg : some (inn a 0 8 && inn b 1 1099511627776 && (c == 0)) = some g := hg1
  rw [hg2]
  clear hg1 hg2 hb
  unfold pv
  obtain ⟨p0, hp0⟩ : ∃ p, inn a 0 8 = p := ⟨_, rfl⟩
  rw [hp0] at hg
  have HP0 := Lib.hid hp0
  clear hp0
  cases p0
  · skip
    simp at hg
    subst hg
    go_enter Tryd.func38, Tryd.ntmps38
    go_wp2_with fail
    refine (reg_any _ _).mono ?_
    rintro e w1 ⟨rfl, rfl⟩
    rw [HP0.out]
    go_wp2_with fail
    go_ret
    exact ⟨rfl, (below_alloc1 _ _).alloc (by simp) _⟩
  · skip
    obtain ⟨p1, hp1⟩ : ∃ p, inn b 1 1099511627776 = p := ⟨_, rfl⟩
    rw [hp1] at hg
    have HP1 := Lib.hid hp1
    clear hp1
    cases p1
    · skip
      simp at hg
      subst hg
      go_enter Tryd.func38, Tryd.ntmps38
      go_wp2_with fail
      refine (reg_any _ _).mono ?_
      rintro e w1 ⟨rfl, rfl⟩
      rw [HP0.out]
      go_wp2_with fail
      refine (in_any _ _ _ _).mono ?_
      rintro e w1 ⟨rfl, rfl⟩
      rw [HP1.out]
      go_wp2_with fail
      go_ret
      exact ⟨rfl, (below_alloc1 _ _).alloc (by simp) _⟩
    · skip
      by_cases z2 : c = 0
      · subst z2
        simp at hg
        subst hg
        go_enter Tryd.func38, Tryd.ntmps38
        go_wp2_with fail
        refine (reg_any _ _).mono ?_
        rintro e w1 ⟨rfl, rfl⟩
        rw [HP0.out]
        go_wp2_with fail
        refine (in_any _ _ _ _).mono ?_
        rintro e w1 ⟨rfl, rfl⟩
        rw [HP1.out]
        go_wp2_with fail
        go_ret
        exact ⟨rfl, (below_alloc1 _ _).alloc (by simp) _⟩
      · have y2 : (c == 0) = false := by simpa using z2
        rw [y2] at hg
        simp at hg
        subst hg
        go_enter Tryd.func38, Tryd.ntmps38
        go_wp2_with fail
        refine (reg_any _ _).mono ?_
        rintro e w1 ⟨rfl, rfl⟩
        rw [HP0.out]
        go_wp2_with fail
        refine (in_any _ _ _ _).mono ?_
        rintro e w1 ⟨rfl, rfl⟩
        rw [HP1.out]
        go_wp2_with fail
        go_ret
        exact ⟨rfl, (below_alloc1 _ _).alloc (by simp) _⟩
set_option maxRecDepth 100000 in
set_option maxHeartbeats 4000000 in
theorem good_22 (fa : Option Addr) (nf fc : Nat) (ca : Option Addr) (nc cc : Nat) (lk : Int) (ka : Option Addr) (nk kc : Nat) (a0 : Option Addr) (n cap : Nat) (a b c : Int) (w : World) (hb : i64b b) (h1 : nf ≤ 1000) (h2 : nc ≤ 1000) (h3 : nk ≤ 1000) (h5 : n ≤ 1000) :
    Calls Tryd.prog 38 #[pv fa nf fc ca nc cc lk ka nk kc, .slice a0 n cap, .agg #[.int .i64 22, .int .i64 a, .int .i64 b, .int .i64 c]] w fun e w' => e = .returned (.int .i64 (insI nf nc nk lk n (22, a, b, c))) ∧ Below w.heap.size w w' := by
  obtain ⟨g, hg1, hg2⟩ := insI_good nf nc nk lk n 22 a b c hb (by omega) h3
  have hg : some (inn a 0 1048576 && (b == 0) && (c == 0)) = some g := hg1
  rw [hg2]
  clear hg1 hg2 hb
  unfold pv
  obtain ⟨p0, hp0⟩ : ∃ p, inn a 0 1048576 = p := ⟨_, rfl⟩
  rw [hp0] at hg
  have HP0 := Lib.hid hp0
  clear hp0
  cases p0
  · skip
    simp at hg
    subst hg
    go_enter Tryd.func38, Tryd.ntmps38
    go_wp2_with fail
    refine (in_any _ _ _ _).mono ?_
    rintro e w1 ⟨rfl, rfl⟩
    rw [HP0.out]
    go_wp2_with fail
    go_ret
    exact ⟨rfl, (below_alloc1 _ _).alloc (by simp) _⟩
  · skip
    by_cases z1 : b = 0
    · subst z1
      by_cases z2 : c = 0
      · subst z2
        simp at hg
        subst hg
        go_enter Tryd.func38, Tryd.ntmps38
        go_wp2_with fail
        refine (in_any _ _ _ _).mono ?_
        rintro e w1 ⟨rfl, rfl⟩
        rw [HP0.out]
        go_wp2_with fail
        go_ret
        exact ⟨rfl, (below_alloc1 _ _).alloc (by simp) _⟩
      · have y2 : (c == 0) = false := by simpa using z2
        rw [y2] at hg
        simp at hg
        subst hg
        go_enter Tryd.func38, Tryd.ntmps38
        go_wp2_with fail
        refine (in_any _ _ _ _).mono ?_
        rintro e w1 ⟨rfl, rfl⟩
        rw [HP0.out]
        go_wp2_with fail
        go_ret
        exact ⟨rfl, (below_alloc1 _ _).alloc (by simp) _⟩
    · have y1 : (b == 0) = false := by simpa using z1
      rw [y1] at hg
      simp at hg
      subst hg
      go_enter Tryd.func38, Tryd.ntmps38
      go_wp2_with fail
      refine (in_any _ _ _ _).mono ?_
      rintro e w1 ⟨rfl, rfl⟩
      rw [HP0.out]
      go_wp2_with fail
      go_ret
      exact ⟨rfl, (below_alloc1 _ _).alloc (by simp) _⟩
end Go.Proofs.YtdeilfnfpgjnnaaDoor
