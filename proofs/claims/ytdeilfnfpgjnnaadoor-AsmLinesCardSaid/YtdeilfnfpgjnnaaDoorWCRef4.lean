/-
  The walk of the document's answer for one instruction, whatever its op.
-/
import Derived.Test.YtdeilfnfpgjnnaaDoorWCRef1
import Derived.Test.YtdeilfnfpgjnnaaDoorWCRef2
import Derived.Test.YtdeilfnfpgjnnaaDoorWCRef3
open Go Go.RowKit
set_option linter.unusedVariables false
namespace Go.Proofs.YtdeilfnfpgjnnaaDoor
set_option maxRecDepth 100000 in
set_option maxHeartbeats 4000000 in
theorem good_any (fa : Option Addr) (nf fc : Nat) (ca : Option Addr) (nc cc : Nat) (lk : Int) (ka : Option Addr) (nk kc : Nat) (a0 : Option Addr) (n cap : Nat) (o a b c : Int) (w : World) (hb : i64b b) (h1 : nf ≤ 1000) (h2 : nc ≤ 1000) (h3 : nk ≤ 1000) (h5 : n ≤ 1000) :
    Calls Tryd.prog 38 #[pv fa nf fc ca nc cc lk ka nk kc, .slice a0 n cap, .agg #[.int .i64 o, .int .i64 a, .int .i64 b, .int .i64 c]] w fun e w' => e = .returned (.int .i64 (insI nf nc nk lk n (o, a, b, c))) ∧ Below w.heap.size w w' := by
  by_cases ho : 0 ≤ o ∧ o ≤ 22
  · have hkk : o = 0 ∨ o = 1 ∨ o = 2 ∨ o = 3 ∨ o = 4 ∨ o = 5 ∨ o = 6 ∨ o = 7 ∨ o = 8 ∨ o = 9 ∨ o = 10 ∨ o = 11 ∨ o = 12 ∨ o = 13 ∨ o = 14 ∨ o = 15 ∨ o = 16 ∨ o = 17 ∨ o = 18 ∨ o = 19 ∨ o = 20 ∨ o = 21 ∨ o = 22 := by omega
    clear ho
    rcases hkk with rfl | rfl | rfl | rfl | rfl | rfl | rfl | rfl | rfl | rfl | rfl | rfl | rfl | rfl | rfl | rfl | rfl | rfl | rfl | rfl | rfl | rfl | rfl
    · exact good_0 fa nf fc ca nc cc lk ka nk kc a0 n cap a b c w hb h1 h2 h3 h5
    · exact good_1 fa nf fc ca nc cc lk ka nk kc a0 n cap a b c w hb h1 h2 h3 h5
    · exact good_2 fa nf fc ca nc cc lk ka nk kc a0 n cap a b c w hb h1 h2 h3 h5
    · exact good_3 fa nf fc ca nc cc lk ka nk kc a0 n cap a b c w hb h1 h2 h3 h5
    · exact good_4 fa nf fc ca nc cc lk ka nk kc a0 n cap a b c w hb h1 h2 h3 h5
    · exact good_5 fa nf fc ca nc cc lk ka nk kc a0 n cap a b c w hb h1 h2 h3 h5
    · exact good_6 fa nf fc ca nc cc lk ka nk kc a0 n cap a b c w hb h1 h2 h3 h5
    · exact good_7 fa nf fc ca nc cc lk ka nk kc a0 n cap a b c w hb h1 h2 h3 h5
    · exact good_8 fa nf fc ca nc cc lk ka nk kc a0 n cap a b c w hb h1 h2 h3 h5
    · exact good_9 fa nf fc ca nc cc lk ka nk kc a0 n cap a b c w hb h1 h2 h3 h5
    · exact good_10 fa nf fc ca nc cc lk ka nk kc a0 n cap a b c w hb h1 h2 h3 h5
    · exact good_11 fa nf fc ca nc cc lk ka nk kc a0 n cap a b c w hb h1 h2 h3 h5
    · exact good_12 fa nf fc ca nc cc lk ka nk kc a0 n cap a b c w hb h1 h2 h3 h5
    · exact good_13 fa nf fc ca nc cc lk ka nk kc a0 n cap a b c w hb h1 h2 h3 h5
    · exact good_14 fa nf fc ca nc cc lk ka nk kc a0 n cap a b c w hb h1 h2 h3 h5
    · exact good_15 fa nf fc ca nc cc lk ka nk kc a0 n cap a b c w hb h1 h2 h3 h5
    · exact good_16 fa nf fc ca nc cc lk ka nk kc a0 n cap a b c w hb h1 h2 h3 h5
    · exact good_17 fa nf fc ca nc cc lk ka nk kc a0 n cap a b c w hb h1 h2 h3 h5
    · exact good_18 fa nf fc ca nc cc lk ka nk kc a0 n cap a b c w hb h1 h2 h3 h5
    · exact good_19 fa nf fc ca nc cc lk ka nk kc a0 n cap a b c w hb h1 h2 h3 h5
    · exact good_20 fa nf fc ca nc cc lk ka nk kc a0 n cap a b c w hb h1 h2 h3 h5
    · exact good_21 fa nf fc ca nc cc lk ka nk kc a0 n cap a b c w hb h1 h2 h3 h5
    · exact good_22 fa nf fc ca nc cc lk ka nk kc a0 n cap a b c w hb h1 h2 h3 h5
  · have hi : insI nf nc nk lk n (o, a, b, c) = 9 := by
      unfold insI
      rw [if_neg]
      unfold wit
      simp
      omega
    rw [hi]
    have y0 : ¬ o = 0 := by omega
    have y1 : ¬ o = 1 := by omega
    have y2 : ¬ o = 2 := by omega
    have y3 : ¬ o = 3 := by omega
    have y4 : ¬ o = 4 := by omega
    have y5 : ¬ o = 5 := by omega
    have y6 : ¬ o = 6 := by omega
    have y7 : ¬ o = 7 := by omega
    have y8 : ¬ o = 8 := by omega
    have y9 : ¬ o = 9 := by omega
    have y10 : ¬ o = 10 := by omega
    have y11 : ¬ o = 11 := by omega
    have y12 : ¬ o = 12 := by omega
    have y13 : ¬ o = 13 := by omega
    have y14 : ¬ o = 14 := by omega
    have y15 : ¬ o = 15 := by omega
    have y16 : ¬ o = 16 := by omega
    have y17 : ¬ o = 17 := by omega
    have y18 : ¬ o = 18 := by omega
    have y19 : ¬ o = 19 := by omega
    have y20 : ¬ o = 20 := by omega
    have y21 : ¬ o = 21 := by omega
    have y22 : ¬ o = 22 := by omega
    clear ho hi hb
    unfold pv
    go_enter Tryd.func38, Tryd.ntmps38
    go_wp2_with fail
    go_ret
    exact ⟨rfl, (below_alloc1 _ _).alloc (by simp) _⟩
end Go.Proofs.YtdeilfnfpgjnnaaDoor
