/-
  What fit answers, whatever the op.
-/
import Derived.Test.YtjanangcfgmdeaaDoorWCFit1
import Derived.Test.YtjanangcfgmdeaaDoorWCFit2
import Derived.Test.YtjanangcfgmdeaaDoorWCFit3
import Derived.Test.YtjanangcfgmdeaaDoorWCFit4
open Go Go.RowKit
set_option linter.unusedVariables false
namespace Go.Proofs.YtjanangcfgmdeaaDoor
theorem fit_any (fa : Option Addr) (nf fc : Nat) (ca : Option Addr) (nc cc : Nat) (lk : Int) (ka : Option Addr) (nk kc : Nat) (a0 : Option Addr) (n cap : Nat) (o a b c : Int) (w : World) (hb : i64b b) (h1 : 1 ≤ nf ∧ nf ≤ 100) (h2 : nc ≤ 100) (h3 : nk ≤ 100) (h4 : 0 ≤ lk ∧ lk ≤ 100) (h5 : 1 ≤ n ∧ n ≤ 100) :
    Calls Tryd.prog 11 #[pv fa nf fc ca nc cc lk ka nk kc, .slice a0 n cap, .agg #[.int .i64 o, .int .i64 a, .int .i64 b, .int .i64 c]] w fun e w' => FitP nf nc nk lk n w e w' := by
  have r := modI_range o 23 (by omega)
  have hc : modI o 23 = 0 ∨ modI o 23 = 1 ∨ modI o 23 = 2 ∨ modI o 23 = 3 ∨ modI o 23 = 4 ∨ modI o 23 = 5 ∨ modI o 23 = 6 ∨ modI o 23 = 7 ∨ modI o 23 = 8 ∨ modI o 23 = 9 ∨ modI o 23 = 10 ∨ modI o 23 = 11 ∨ modI o 23 = 12 ∨ modI o 23 = 13 ∨ modI o 23 = 14 ∨ modI o 23 = 15 ∨ modI o 23 = 16 ∨ modI o 23 = 17 ∨ modI o 23 = 18 ∨ modI o 23 = 19 ∨ modI o 23 = 20 ∨ modI o 23 = 21 ∨ modI o 23 = 22 := by omega
  rcases hc with h | h | h | h | h | h | h | h | h | h | h | h | h | h | h | h | h | h | h | h | h | h | h
  · exact fit_0 fa nf fc ca nc cc lk ka nk kc a0 n cap o a b c w h hb h1 h2 h3 h4 h5
  · exact fit_1 fa nf fc ca nc cc lk ka nk kc a0 n cap o a b c w h hb h1 h2 h3 h4 h5
  · exact fit_2 fa nf fc ca nc cc lk ka nk kc a0 n cap o a b c w h hb h1 h2 h3 h4 h5
  · exact fit_3 fa nf fc ca nc cc lk ka nk kc a0 n cap o a b c w h hb h1 h2 h3 h4 h5
  · exact fit_4 fa nf fc ca nc cc lk ka nk kc a0 n cap o a b c w h hb h1 h2 h3 h4 h5
  · exact fit_5 fa nf fc ca nc cc lk ka nk kc a0 n cap o a b c w h hb h1 h2 h3 h4 h5
  · exact fit_6 fa nf fc ca nc cc lk ka nk kc a0 n cap o a b c w h hb h1 h2 h3 h4 h5
  · exact fit_7 fa nf fc ca nc cc lk ka nk kc a0 n cap o a b c w h hb h1 h2 h3 h4 h5
  · exact fit_8 fa nf fc ca nc cc lk ka nk kc a0 n cap o a b c w h hb h1 h2 h3 h4 h5
  · exact fit_9 fa nf fc ca nc cc lk ka nk kc a0 n cap o a b c w h hb h1 h2 h3 h4 h5
  · exact fit_10 fa nf fc ca nc cc lk ka nk kc a0 n cap o a b c w h hb h1 h2 h3 h4 h5
  · exact fit_11 fa nf fc ca nc cc lk ka nk kc a0 n cap o a b c w h hb h1 h2 h3 h4 h5
  · exact fit_12 fa nf fc ca nc cc lk ka nk kc a0 n cap o a b c w h hb h1 h2 h3 h4 h5
  · exact fit_13 fa nf fc ca nc cc lk ka nk kc a0 n cap o a b c w h hb h1 h2 h3 h4 h5
  · exact fit_14 fa nf fc ca nc cc lk ka nk kc a0 n cap o a b c w h hb h1 h2 h3 h4 h5
  · exact fit_15 fa nf fc ca nc cc lk ka nk kc a0 n cap o a b c w h hb h1 h2 h3 h4 h5
  · exact fit_16 fa nf fc ca nc cc lk ka nk kc a0 n cap o a b c w h hb h1 h2 h3 h4 h5
  · exact fit_17 fa nf fc ca nc cc lk ka nk kc a0 n cap o a b c w h hb h1 h2 h3 h4 h5
  · exact fit_18 fa nf fc ca nc cc lk ka nk kc a0 n cap o a b c w h hb h1 h2 h3 h4 h5
  · exact fit_19 fa nf fc ca nc cc lk ka nk kc a0 n cap o a b c w h hb h1 h2 h3 h4 h5
  · exact fit_20 fa nf fc ca nc cc lk ka nk kc a0 n cap o a b c w h hb h1 h2 h3 h4 h5
  · exact fit_21 fa nf fc ca nc cc lk ka nk kc a0 n cap o a b c w h hb h1 h2 h3 h4 h5
  · exact fit_22 fa nf fc ca nc cc lk ka nk kc a0 n cap o a b c w h hb h1 h2 h3 h4 h5
end Go.Proofs.YtjanangcfgmdeaaDoor
