/-
  The walk of fit, op by op.
-/
import Derived.Test.YtjanangcfgmdeaaDoorWCFit0
open Go Go.RowKit
set_option linter.unusedVariables false
namespace Go.Proofs.YtjanangcfgmdeaaDoor
set_option maxRecDepth 100000 in
set_option maxHeartbeats 4000000 in
theorem fit_9 (fa : Option Addr) (nf fc : Nat) (ca : Option Addr) (nc cc : Nat) (lk : Int) (ka : Option Addr) (nk kc : Nat) (a0 : Option Addr) (n cap : Nat) (o a b c : Int) (w : World) (hk : modI o 23 = 9) (hb : i64b b) (h1 : 1 ≤ nf ∧ nf ≤ 100) (h2 : nc ≤ 100) (h3 : nk ≤ 100) (h4 : 0 ≤ lk ∧ lk ≤ 100) (h5 : 1 ≤ n ∧ n ≤ 100) :
    Calls Tryd.prog 11 #[pv fa nf fc ca nc cc lk ka nk kc, .slice a0 n cap, .agg #[.int .i64 o, .int .i64 a, .int .i64 b, .int .i64 c]] w fun e w' => FitP nf nc nk lk n w e w' := by
  have ra := modI_range a 8 (by omega)
  have rb := modI_range b 8 (by omega)
  have rc := modI_range c 8 (by omega)
  have HKK := Lib.hid hk
  unfold pv
  clear hk
  have rx := modI_range a nf (by omega)
  go_enter Tryd.func11, Tryd.ntmps11
  go_wp2_with fail
  refine (mod_any _ _ _ (by omega)).mono ?_
  rintro e w1 ⟨rfl, rfl⟩
  rw [HKK.out]
  go_wp2_with fail
  go_quiet ((go_at_call 9; exact Calls.quiet_of_same (mod_any _ _ _ (by omega))))
  generalize modI a 8 = A8 at *
  generalize modI b 8 = B8 at *
  generalize modI c 8 = C8 at *
  go_wp2_with fail
  go_quiet (fail)
  generalize hW9 : World.drewN _ _ = W9
  have b0 : Blk W9 w.heap.size [.slice fa nf fc, .slice ca nc cc, .int .i64 lk, .slice ka nk kc] := by rw [← hW9]; exact (((Blk.mk w [.slice fa nf fc, .slice ca nc cc, .int .i64 lk, .slice ka nk kc] _ _ rfl).below (below_alloc1 _ _)).below (below_alloc1 _ _)).below (by repeat (first | exact Below.refl _ _ | refine below_drewN ?_ _ | refine Below.drew ?_))
  have b1 : Blk W9 (w.heap.size + 1) [.int .i64 9, .int .i64 a, .int .i64 b, .int .i64 c] := by rw [← hW9]; exact ((Blk.mk (w.alloc (.cells #[.slice fa nf fc, .slice ca nc cc, .int .i64 lk, .slice ka nk kc] 26)) [.int .i64 9, .int .i64 a, .int .i64 b, .int .i64 c] 43 (w.heap.size + 1) (by simp)).below (below_alloc1 _ _)).below (by repeat (first | exact Below.refl _ _ | refine below_drewN ?_ _ | refine Below.drew ?_))
  have b2 : Blk W9 (w.heap.size + 1 + 1) [.int .i64 0, .int .i64 0, .int .i64 0, .int .i64 0] := by rw [← hW9]; exact (Blk.mk ((w.alloc (.cells #[.slice fa nf fc, .slice ca nc cc, .int .i64 lk, .slice ka nk kc] 26)).alloc (.cells #[.int .i64 9, .int .i64 a, .int .i64 b, .int .i64 c] 43)) [.int .i64 0, .int .i64 0, .int .i64 0, .int .i64 0] 43 (w.heap.size + 1 + 1) (by simp)).below (by repeat (first | exact Below.refl _ _ | refine below_drewN ?_ _ | refine Below.drew ?_))
  have b3 : Below w.heap.size w W9 := by rw [← hW9]; repeat (first | exact Below.refl _ _ | refine below_drewN ?_ _ | refine Below.drew ?_ | refine Below.alloc ?_ (by first | (simp; done) | (simp; omega)) _)
  clear hW9
  obtain ⟨c00, -⟩ := b0 0 _ rfl
  obtain ⟨c01, -⟩ := b0 1 _ rfl
  obtain ⟨c02, -⟩ := b0 2 _ rfl
  obtain ⟨c03, -⟩ := b0 3 _ rfl
  obtain ⟨c10, -⟩ := b1 0 _ rfl
  obtain ⟨c11, -⟩ := b1 1 _ rfl
  obtain ⟨c12, -⟩ := b1 2 _ rfl
  obtain ⟨c13, -⟩ := b1 3 _ rfl
  obtain ⟨c20, d20⟩ := b2 0 _ rfl
  obtain ⟨c21, d21⟩ := b2 1 _ rfl
  obtain ⟨c22, d22⟩ := b2 2 _ rfl
  obtain ⟨c23, d23⟩ := b2 3 _ rfl
  have HZ9 := Lib.hid b2
  have HB9 := Lib.hid b3
  clear b0 b1 b2 b3
  go_wp2_with fail
  refine wp_region_still_tail 9 (by kernel_rfl) (by kernel_rfl) ?_
  simp only [List.take_succ_cons, List.take_zero, List.drop_succ_cons, List.drop_zero]
  repeat (first | still_step | still_call (mod_any _ _ _ (by omega)))
  refine wpStill_nil ?_
  generalize modI a ↑nf = X at *
  go_wp2_with fail
  have e := ins_get ((((((HZ9.out).below (below_drew1 _)).set 0 (.int .i64 (9))).set 1 (.int .i64 (X))).set 2 (.int .i64 (B8))).set 3 (.int .i64 (C8)))
  exact bodyPost_ret (results_cell Tryd.results11 _ ⟨w.heap.size + 1 + 1, 0, none⟩ rfl e) rfl (FitP.mk (9) (X) (B8) (C8) (insI_zero (by unfold i64b; omega) (by omega) (by omega) (by first | (simp [goodB]; done) | (simp [goodB, inn]; done) | (simp [goodB, inn]; omega))) (by unfold i64b; omega) (HB9.out.trans (by repeat (first | exact Below.refl _ _ | refine Below.setCell ?_ (by simp; omega) _ | refine Below.drew ?_ | refine below_drewN ?_ _))))
set_option maxRecDepth 100000 in
set_option maxHeartbeats 4000000 in
theorem fit_10 (fa : Option Addr) (nf fc : Nat) (ca : Option Addr) (nc cc : Nat) (lk : Int) (ka : Option Addr) (nk kc : Nat) (a0 : Option Addr) (n cap : Nat) (o a b c : Int) (w : World) (hk : modI o 23 = 10) (hb : i64b b) (h1 : 1 ≤ nf ∧ nf ≤ 100) (h2 : nc ≤ 100) (h3 : nk ≤ 100) (h4 : 0 ≤ lk ∧ lk ≤ 100) (h5 : 1 ≤ n ∧ n ≤ 100) :
    Calls Tryd.prog 11 #[pv fa nf fc ca nc cc lk ka nk kc, .slice a0 n cap, .agg #[.int .i64 o, .int .i64 a, .int .i64 b, .int .i64 c]] w fun e w' => FitP nf nc nk lk n w e w' := by
  have ra := modI_range a 8 (by omega)
  have rb := modI_range b 8 (by omega)
  have rc := modI_range c 8 (by omega)
  have HKK := Lib.hid hk
  unfold pv
  clear hk
  go_enter Tryd.func11, Tryd.ntmps11
  go_wp2_with fail
  refine (mod_any _ _ _ (by omega)).mono ?_
  rintro e w1 ⟨rfl, rfl⟩
  rw [HKK.out]
  go_wp2_with fail
  go_quiet ((go_at_call 9; exact Calls.quiet_of_same (mod_any _ _ _ (by omega))))
  generalize modI a 8 = A8 at *
  generalize modI b 8 = B8 at *
  generalize modI c 8 = C8 at *
  go_wp2_with fail
  go_quiet (fail)
  generalize hW9 : World.drewN _ _ = W9
  have b0 : Blk W9 w.heap.size [.slice fa nf fc, .slice ca nc cc, .int .i64 lk, .slice ka nk kc] := by rw [← hW9]; exact (((Blk.mk w [.slice fa nf fc, .slice ca nc cc, .int .i64 lk, .slice ka nk kc] _ _ rfl).below (below_alloc1 _ _)).below (below_alloc1 _ _)).below (by repeat (first | exact Below.refl _ _ | refine below_drewN ?_ _ | refine Below.drew ?_))
  have b1 : Blk W9 (w.heap.size + 1) [.int .i64 10, .int .i64 a, .int .i64 b, .int .i64 c] := by rw [← hW9]; exact ((Blk.mk (w.alloc (.cells #[.slice fa nf fc, .slice ca nc cc, .int .i64 lk, .slice ka nk kc] 26)) [.int .i64 10, .int .i64 a, .int .i64 b, .int .i64 c] 43 (w.heap.size + 1) (by simp)).below (below_alloc1 _ _)).below (by repeat (first | exact Below.refl _ _ | refine below_drewN ?_ _ | refine Below.drew ?_))
  have b2 : Blk W9 (w.heap.size + 1 + 1) [.int .i64 0, .int .i64 0, .int .i64 0, .int .i64 0] := by rw [← hW9]; exact (Blk.mk ((w.alloc (.cells #[.slice fa nf fc, .slice ca nc cc, .int .i64 lk, .slice ka nk kc] 26)).alloc (.cells #[.int .i64 10, .int .i64 a, .int .i64 b, .int .i64 c] 43)) [.int .i64 0, .int .i64 0, .int .i64 0, .int .i64 0] 43 (w.heap.size + 1 + 1) (by simp)).below (by repeat (first | exact Below.refl _ _ | refine below_drewN ?_ _ | refine Below.drew ?_))
  have b3 : Below w.heap.size w W9 := by rw [← hW9]; repeat (first | exact Below.refl _ _ | refine below_drewN ?_ _ | refine Below.drew ?_ | refine Below.alloc ?_ (by first | (simp; done) | (simp; omega)) _)
  clear hW9
  obtain ⟨c00, -⟩ := b0 0 _ rfl
  obtain ⟨c01, -⟩ := b0 1 _ rfl
  obtain ⟨c02, -⟩ := b0 2 _ rfl
  obtain ⟨c03, -⟩ := b0 3 _ rfl
  obtain ⟨c10, -⟩ := b1 0 _ rfl
  obtain ⟨c11, -⟩ := b1 1 _ rfl
  obtain ⟨c12, -⟩ := b1 2 _ rfl
  obtain ⟨c13, -⟩ := b1 3 _ rfl
  obtain ⟨c20, d20⟩ := b2 0 _ rfl
  obtain ⟨c21, d21⟩ := b2 1 _ rfl
  obtain ⟨c22, d22⟩ := b2 2 _ rfl
  obtain ⟨c23, d23⟩ := b2 3 _ rfl
  have HZ9 := Lib.hid b2
  have HB9 := Lib.hid b3
  clear b0 b1 b2 b3
  go_wp2_with fail
  have e := ins_get ((((((HZ9.out)).set 0 (.int .i64 (10))).set 1 (.int .i64 (A8))).set 2 (.int .i64 (0))).set 3 (.int .i64 (0)))
  exact bodyPost_ret (results_cell Tryd.results11 _ ⟨w.heap.size + 1 + 1, 0, none⟩ rfl e) rfl (FitP.mk (10) (A8) (0) (0) (insI_zero (by unfold i64b; omega) (by omega) (by omega) (by first | (simp [goodB]; done) | (simp [goodB, inn]; done) | (simp [goodB, inn]; omega))) (by unfold i64b; omega) (HB9.out.trans (by repeat (first | exact Below.refl _ _ | refine Below.setCell ?_ (by simp; omega) _ | refine Below.drew ?_ | refine below_drewN ?_ _))))
set_option maxRecDepth 100000 in
set_option maxHeartbeats 4000000 in
theorem fit_11 (fa : Option Addr) (nf fc : Nat) (ca : Option Addr) (nc cc : Nat) (lk : Int) (ka : Option Addr) (nk kc : Nat) (a0 : Option Addr) (n cap : Nat) (o a b c : Int) (w : World) (hk : modI o 23 = 11) (hb : i64b b) (h1 : 1 ≤ nf ∧ nf ≤ 100) (h2 : nc ≤ 100) (h3 : nk ≤ 100) (h4 : 0 ≤ lk ∧ lk ≤ 100) (h5 : 1 ≤ n ∧ n ≤ 100) :
    Calls Tryd.prog 11 #[pv fa nf fc ca nc cc lk ka nk kc, .slice a0 n cap, .agg #[.int .i64 o, .int .i64 a, .int .i64 b, .int .i64 c]] w fun e w' => FitP nf nc nk lk n w e w' := by
  have ra := modI_range a 8 (by omega)
  have rb := modI_range b 8 (by omega)
  have rc := modI_range c 8 (by omega)
  have HKK := Lib.hid hk
  unfold pv
  clear hk
  have rx := modI_range a nf (by omega)
  go_enter Tryd.func11, Tryd.ntmps11
  go_wp2_with fail
  refine (mod_any _ _ _ (by omega)).mono ?_
  rintro e w1 ⟨rfl, rfl⟩
  rw [HKK.out]
  go_wp2_with fail
  go_quiet ((go_at_call 9; exact Calls.quiet_of_same (mod_any _ _ _ (by omega))))
  generalize modI a 8 = A8 at *
  generalize modI b 8 = B8 at *
  generalize modI c 8 = C8 at *
  go_wp2_with fail
  go_quiet (fail)
  generalize hW9 : World.drewN _ _ = W9
  have b0 : Blk W9 w.heap.size [.slice fa nf fc, .slice ca nc cc, .int .i64 lk, .slice ka nk kc] := by rw [← hW9]; exact (((Blk.mk w [.slice fa nf fc, .slice ca nc cc, .int .i64 lk, .slice ka nk kc] _ _ rfl).below (below_alloc1 _ _)).below (below_alloc1 _ _)).below (by repeat (first | exact Below.refl _ _ | refine below_drewN ?_ _ | refine Below.drew ?_))
  have b1 : Blk W9 (w.heap.size + 1) [.int .i64 11, .int .i64 a, .int .i64 b, .int .i64 c] := by rw [← hW9]; exact ((Blk.mk (w.alloc (.cells #[.slice fa nf fc, .slice ca nc cc, .int .i64 lk, .slice ka nk kc] 26)) [.int .i64 11, .int .i64 a, .int .i64 b, .int .i64 c] 43 (w.heap.size + 1) (by simp)).below (below_alloc1 _ _)).below (by repeat (first | exact Below.refl _ _ | refine below_drewN ?_ _ | refine Below.drew ?_))
  have b2 : Blk W9 (w.heap.size + 1 + 1) [.int .i64 0, .int .i64 0, .int .i64 0, .int .i64 0] := by rw [← hW9]; exact (Blk.mk ((w.alloc (.cells #[.slice fa nf fc, .slice ca nc cc, .int .i64 lk, .slice ka nk kc] 26)).alloc (.cells #[.int .i64 11, .int .i64 a, .int .i64 b, .int .i64 c] 43)) [.int .i64 0, .int .i64 0, .int .i64 0, .int .i64 0] 43 (w.heap.size + 1 + 1) (by simp)).below (by repeat (first | exact Below.refl _ _ | refine below_drewN ?_ _ | refine Below.drew ?_))
  have b3 : Below w.heap.size w W9 := by rw [← hW9]; repeat (first | exact Below.refl _ _ | refine below_drewN ?_ _ | refine Below.drew ?_ | refine Below.alloc ?_ (by first | (simp; done) | (simp; omega)) _)
  clear hW9
  obtain ⟨c00, -⟩ := b0 0 _ rfl
  obtain ⟨c01, -⟩ := b0 1 _ rfl
  obtain ⟨c02, -⟩ := b0 2 _ rfl
  obtain ⟨c03, -⟩ := b0 3 _ rfl
  obtain ⟨c10, -⟩ := b1 0 _ rfl
  obtain ⟨c11, -⟩ := b1 1 _ rfl
  obtain ⟨c12, -⟩ := b1 2 _ rfl
  obtain ⟨c13, -⟩ := b1 3 _ rfl
  obtain ⟨c20, d20⟩ := b2 0 _ rfl
  obtain ⟨c21, d21⟩ := b2 1 _ rfl
  obtain ⟨c22, d22⟩ := b2 2 _ rfl
  obtain ⟨c23, d23⟩ := b2 3 _ rfl
  have HZ9 := Lib.hid b2
  have HB9 := Lib.hid b3
  clear b0 b1 b2 b3
  go_wp2_with fail
  refine wp_region_still_tail 9 (by kernel_rfl) (by kernel_rfl) ?_
  simp only [List.take_succ_cons, List.take_zero, List.drop_succ_cons, List.drop_zero]
  repeat (first | still_step | still_call (mod_any _ _ _ (by omega)))
  refine wpStill_nil ?_
  generalize modI a ↑nf = X at *
  go_wp2_with fail
  have e := ins_get ((((((HZ9.out).below (below_drew1 _)).set 0 (.int .i64 (11))).set 1 (.int .i64 (X))).set 2 (.int .i64 (B8))).set 3 (.int .i64 (C8)))
  exact bodyPost_ret (results_cell Tryd.results11 _ ⟨w.heap.size + 1 + 1, 0, none⟩ rfl e) rfl (FitP.mk (11) (X) (B8) (C8) (insI_zero (by unfold i64b; omega) (by omega) (by omega) (by first | (simp [goodB]; done) | (simp [goodB, inn]; done) | (simp [goodB, inn]; omega))) (by unfold i64b; omega) (HB9.out.trans (by repeat (first | exact Below.refl _ _ | refine Below.setCell ?_ (by simp; omega) _ | refine Below.drew ?_ | refine below_drewN ?_ _))))
set_option maxRecDepth 100000 in
set_option maxHeartbeats 4000000 in
theorem fit_12 (fa : Option Addr) (nf fc : Nat) (ca : Option Addr) (nc cc : Nat) (lk : Int) (ka : Option Addr) (nk kc : Nat) (a0 : Option Addr) (n cap : Nat) (o a b c : Int) (w : World) (hk : modI o 23 = 12) (hb : i64b b) (h1 : 1 ≤ nf ∧ nf ≤ 100) (h2 : nc ≤ 100) (h3 : nk ≤ 100) (h4 : 0 ≤ lk ∧ lk ≤ 100) (h5 : 1 ≤ n ∧ n ≤ 100) :
    Calls Tryd.prog 11 #[pv fa nf fc ca nc cc lk ka nk kc, .slice a0 n cap, .agg #[.int .i64 o, .int .i64 a, .int .i64 b, .int .i64 c]] w fun e w' => FitP nf nc nk lk n w e w' := by
  have ra := modI_range a 8 (by omega)
  have rb := modI_range b 8 (by omega)
  have rc := modI_range c 8 (by omega)
  have HKK := Lib.hid hk
  unfold pv
  clear hk
  go_enter Tryd.func11, Tryd.ntmps11
  go_wp2_with fail
  refine (mod_any _ _ _ (by omega)).mono ?_
  rintro e w1 ⟨rfl, rfl⟩
  rw [HKK.out]
  go_wp2_with fail
  go_quiet ((go_at_call 9; exact Calls.quiet_of_same (mod_any _ _ _ (by omega))))
  generalize modI a 8 = A8 at *
  generalize modI b 8 = B8 at *
  generalize modI c 8 = C8 at *
  go_wp2_with fail
  go_quiet (fail)
  generalize hW9 : World.drewN _ _ = W9
  have b0 : Blk W9 w.heap.size [.slice fa nf fc, .slice ca nc cc, .int .i64 lk, .slice ka nk kc] := by rw [← hW9]; exact (((Blk.mk w [.slice fa nf fc, .slice ca nc cc, .int .i64 lk, .slice ka nk kc] _ _ rfl).below (below_alloc1 _ _)).below (below_alloc1 _ _)).below (by repeat (first | exact Below.refl _ _ | refine below_drewN ?_ _ | refine Below.drew ?_))
  have b1 : Blk W9 (w.heap.size + 1) [.int .i64 12, .int .i64 a, .int .i64 b, .int .i64 c] := by rw [← hW9]; exact ((Blk.mk (w.alloc (.cells #[.slice fa nf fc, .slice ca nc cc, .int .i64 lk, .slice ka nk kc] 26)) [.int .i64 12, .int .i64 a, .int .i64 b, .int .i64 c] 43 (w.heap.size + 1) (by simp)).below (below_alloc1 _ _)).below (by repeat (first | exact Below.refl _ _ | refine below_drewN ?_ _ | refine Below.drew ?_))
  have b2 : Blk W9 (w.heap.size + 1 + 1) [.int .i64 0, .int .i64 0, .int .i64 0, .int .i64 0] := by rw [← hW9]; exact (Blk.mk ((w.alloc (.cells #[.slice fa nf fc, .slice ca nc cc, .int .i64 lk, .slice ka nk kc] 26)).alloc (.cells #[.int .i64 12, .int .i64 a, .int .i64 b, .int .i64 c] 43)) [.int .i64 0, .int .i64 0, .int .i64 0, .int .i64 0] 43 (w.heap.size + 1 + 1) (by simp)).below (by repeat (first | exact Below.refl _ _ | refine below_drewN ?_ _ | refine Below.drew ?_))
  have b3 : Below w.heap.size w W9 := by rw [← hW9]; repeat (first | exact Below.refl _ _ | refine below_drewN ?_ _ | refine Below.drew ?_ | refine Below.alloc ?_ (by first | (simp; done) | (simp; omega)) _)
  clear hW9
  obtain ⟨c00, -⟩ := b0 0 _ rfl
  obtain ⟨c01, -⟩ := b0 1 _ rfl
  obtain ⟨c02, -⟩ := b0 2 _ rfl
  obtain ⟨c03, -⟩ := b0 3 _ rfl
  obtain ⟨c10, -⟩ := b1 0 _ rfl
  obtain ⟨c11, -⟩ := b1 1 _ rfl
  obtain ⟨c12, -⟩ := b1 2 _ rfl
  obtain ⟨c13, -⟩ := b1 3 _ rfl
  obtain ⟨c20, d20⟩ := b2 0 _ rfl
  obtain ⟨c21, d21⟩ := b2 1 _ rfl
  obtain ⟨c22, d22⟩ := b2 2 _ rfl
  obtain ⟨c23, d23⟩ := b2 3 _ rfl
  have HZ9 := Lib.hid b2
  have HB9 := Lib.hid b3
  clear b0 b1 b2 b3
  go_wp2_with fail
  have e := ins_get ((((((HZ9.out)).set 0 (.int .i64 (12))).set 1 (.int .i64 (0))).set 2 (.int .i64 (0))).set 3 (.int .i64 (0)))
  exact bodyPost_ret (results_cell Tryd.results11 _ ⟨w.heap.size + 1 + 1, 0, none⟩ rfl e) rfl (FitP.mk (12) (0) (0) (0) (insI_zero (by unfold i64b; omega) (by omega) (by omega) (by first | (simp [goodB]; done) | (simp [goodB, inn]; done) | (simp [goodB, inn]; omega))) (by unfold i64b; omega) (HB9.out.trans (by repeat (first | exact Below.refl _ _ | refine Below.setCell ?_ (by simp; omega) _ | refine Below.drew ?_ | refine below_drewN ?_ _))))
set_option maxRecDepth 100000 in
set_option maxHeartbeats 4000000 in
theorem fit_16 (fa : Option Addr) (nf fc : Nat) (ca : Option Addr) (nc cc : Nat) (lk : Int) (ka : Option Addr) (nk kc : Nat) (a0 : Option Addr) (n cap : Nat) (o a b c : Int) (w : World) (hk : modI o 23 = 16) (hb : i64b b) (h1 : 1 ≤ nf ∧ nf ≤ 100) (h2 : nc ≤ 100) (h3 : nk ≤ 100) (h4 : 0 ≤ lk ∧ lk ≤ 100) (h5 : 1 ≤ n ∧ n ≤ 100) :
    Calls Tryd.prog 11 #[pv fa nf fc ca nc cc lk ka nk kc, .slice a0 n cap, .agg #[.int .i64 o, .int .i64 a, .int .i64 b, .int .i64 c]] w fun e w' => FitP nf nc nk lk n w e w' := by
  have ra := modI_range a 8 (by omega)
  have rb := modI_range b 8 (by omega)
  have rc := modI_range c 8 (by omega)
  have HKK := Lib.hid hk
  unfold pv
  clear hk
  by_cases hz : nk = 0
  · subst hz
    go_enter Tryd.func11, Tryd.ntmps11
    go_wp2_with fail
    refine (mod_any _ _ _ (by omega)).mono ?_
    rintro e w1 ⟨rfl, rfl⟩
    rw [HKK.out]
    go_wp2_with fail
    go_quiet ((go_at_call 9; exact Calls.quiet_of_same (mod_any _ _ _ (by omega))))
    generalize modI a 8 = A8 at *
    generalize modI b 8 = B8 at *
    generalize modI c 8 = C8 at *
    go_wp2_with fail
    go_quiet (fail)
    generalize hW9 : World.drewN _ _ = W9
    have b0 : Blk W9 w.heap.size [.slice fa nf fc, .slice ca nc cc, .int .i64 lk, .slice ka 0 kc] := by rw [← hW9]; exact (((Blk.mk w [.slice fa nf fc, .slice ca nc cc, .int .i64 lk, .slice ka 0 kc] _ _ rfl).below (below_alloc1 _ _)).below (below_alloc1 _ _)).below (by repeat (first | exact Below.refl _ _ | refine below_drewN ?_ _ | refine Below.drew ?_))
    have b1 : Blk W9 (w.heap.size + 1) [.int .i64 16, .int .i64 a, .int .i64 b, .int .i64 c] := by rw [← hW9]; exact ((Blk.mk (w.alloc (.cells #[.slice fa nf fc, .slice ca nc cc, .int .i64 lk, .slice ka 0 kc] 26)) [.int .i64 16, .int .i64 a, .int .i64 b, .int .i64 c] 43 (w.heap.size + 1) (by simp)).below (below_alloc1 _ _)).below (by repeat (first | exact Below.refl _ _ | refine below_drewN ?_ _ | refine Below.drew ?_))
    have b2 : Blk W9 (w.heap.size + 1 + 1) [.int .i64 0, .int .i64 0, .int .i64 0, .int .i64 0] := by rw [← hW9]; exact (Blk.mk ((w.alloc (.cells #[.slice fa nf fc, .slice ca nc cc, .int .i64 lk, .slice ka 0 kc] 26)).alloc (.cells #[.int .i64 16, .int .i64 a, .int .i64 b, .int .i64 c] 43)) [.int .i64 0, .int .i64 0, .int .i64 0, .int .i64 0] 43 (w.heap.size + 1 + 1) (by simp)).below (by repeat (first | exact Below.refl _ _ | refine below_drewN ?_ _ | refine Below.drew ?_))
    have b3 : Below w.heap.size w W9 := by rw [← hW9]; repeat (first | exact Below.refl _ _ | refine below_drewN ?_ _ | refine Below.drew ?_ | refine Below.alloc ?_ (by first | (simp; done) | (simp; omega)) _)
    clear hW9
    obtain ⟨c00, -⟩ := b0 0 _ rfl
    obtain ⟨c01, -⟩ := b0 1 _ rfl
    obtain ⟨c02, -⟩ := b0 2 _ rfl
    obtain ⟨c03, -⟩ := b0 3 _ rfl
    obtain ⟨c10, -⟩ := b1 0 _ rfl
    obtain ⟨c11, -⟩ := b1 1 _ rfl
    obtain ⟨c12, -⟩ := b1 2 _ rfl
    obtain ⟨c13, -⟩ := b1 3 _ rfl
    obtain ⟨c20, d20⟩ := b2 0 _ rfl
    obtain ⟨c21, d21⟩ := b2 1 _ rfl
    obtain ⟨c22, d22⟩ := b2 2 _ rfl
    obtain ⟨c23, d23⟩ := b2 3 _ rfl
    have HZ9 := Lib.hid b2
    have HB9 := Lib.hid b3
    clear b0 b1 b2 b3
    go_wp2_with fail
    have e := ins_get ((((((HZ9.out)).set 0 (.int .i64 (0))).set 1 (.int .i64 (0))).set 2 (.int .i64 (0))).set 3 (.int .i64 (0)))
    exact bodyPost_ret (results_cell Tryd.results11 _ ⟨w.heap.size + 1 + 1, 0, none⟩ rfl e) rfl (FitP.mk (0) (0) (0) (0) (insI_zero (by unfold i64b; omega) (by omega) (by omega) (by first | (simp [goodB]; done) | (simp [goodB, inn]; done) | (simp [goodB, inn]; omega))) (by unfold i64b; omega) (HB9.out.trans (by repeat (first | exact Below.refl _ _ | refine Below.setCell ?_ (by simp; omega) _ | refine Below.drew ?_ | refine below_drewN ?_ _))))
  · skip
    have rx := modI_range a nk (by omega)
    have ry := modI_range b (nk - modI a nk) (by omega)
    have hz2 : ¬ (nk : Int) = 0 := by omega
    go_enter Tryd.func11, Tryd.ntmps11
    go_wp2_with fail
    refine (mod_any _ _ _ (by omega)).mono ?_
    rintro e w1 ⟨rfl, rfl⟩
    rw [HKK.out]
    go_wp2_with fail
    go_quiet ((go_at_call 9; exact Calls.quiet_of_same (mod_any _ _ _ (by omega))))
    generalize modI a 8 = A8 at *
    generalize modI b 8 = B8 at *
    generalize modI c 8 = C8 at *
    go_wp2_with fail
    go_quiet (fail)
    generalize hW9 : World.drewN _ _ = W9
    have b0 : Blk W9 w.heap.size [.slice fa nf fc, .slice ca nc cc, .int .i64 lk, .slice ka nk kc] := by rw [← hW9]; exact (((Blk.mk w [.slice fa nf fc, .slice ca nc cc, .int .i64 lk, .slice ka nk kc] _ _ rfl).below (below_alloc1 _ _)).below (below_alloc1 _ _)).below (by repeat (first | exact Below.refl _ _ | refine below_drewN ?_ _ | refine Below.drew ?_))
    have b1 : Blk W9 (w.heap.size + 1) [.int .i64 16, .int .i64 a, .int .i64 b, .int .i64 c] := by rw [← hW9]; exact ((Blk.mk (w.alloc (.cells #[.slice fa nf fc, .slice ca nc cc, .int .i64 lk, .slice ka nk kc] 26)) [.int .i64 16, .int .i64 a, .int .i64 b, .int .i64 c] 43 (w.heap.size + 1) (by simp)).below (below_alloc1 _ _)).below (by repeat (first | exact Below.refl _ _ | refine below_drewN ?_ _ | refine Below.drew ?_))
    have b2 : Blk W9 (w.heap.size + 1 + 1) [.int .i64 0, .int .i64 0, .int .i64 0, .int .i64 0] := by rw [← hW9]; exact (Blk.mk ((w.alloc (.cells #[.slice fa nf fc, .slice ca nc cc, .int .i64 lk, .slice ka nk kc] 26)).alloc (.cells #[.int .i64 16, .int .i64 a, .int .i64 b, .int .i64 c] 43)) [.int .i64 0, .int .i64 0, .int .i64 0, .int .i64 0] 43 (w.heap.size + 1 + 1) (by simp)).below (by repeat (first | exact Below.refl _ _ | refine below_drewN ?_ _ | refine Below.drew ?_))
    have b3 : Below w.heap.size w W9 := by rw [← hW9]; repeat (first | exact Below.refl _ _ | refine below_drewN ?_ _ | refine Below.drew ?_ | refine Below.alloc ?_ (by first | (simp; done) | (simp; omega)) _)
    clear hW9
    obtain ⟨c00, -⟩ := b0 0 _ rfl
    obtain ⟨c01, -⟩ := b0 1 _ rfl
    obtain ⟨c02, -⟩ := b0 2 _ rfl
    obtain ⟨c03, -⟩ := b0 3 _ rfl
    obtain ⟨c10, -⟩ := b1 0 _ rfl
    obtain ⟨c11, -⟩ := b1 1 _ rfl
    obtain ⟨c12, -⟩ := b1 2 _ rfl
    obtain ⟨c13, -⟩ := b1 3 _ rfl
    obtain ⟨c20, d20⟩ := b2 0 _ rfl
    obtain ⟨c21, d21⟩ := b2 1 _ rfl
    obtain ⟨c22, d22⟩ := b2 2 _ rfl
    obtain ⟨c23, d23⟩ := b2 3 _ rfl
    have HZ9 := Lib.hid b2
    have HB9 := Lib.hid b3
    clear b0 b1 b2 b3
    go_wp2_with fail
    refine (mod_any _ _ _ (by omega)).mono ?_
    rintro e w1 ⟨rfl, rfl⟩
    generalize modI a ↑nk = X at *
    go_wp2_with fail
    refine (mod_any _ _ _ (by omega)).mono ?_
    rintro e w1 ⟨rfl, rfl⟩
    generalize modI b (↑nk - X) = Y at *
    go_wp2_with fail
    have e := ins_get ((((((HZ9.out)).set 0 (.int .i64 (16))).set 1 (.int .i64 (X))).set 2 (.int .i64 (1 + Y))).set 3 (.int .i64 (C8)))
    exact bodyPost_ret (results_cell Tryd.results11 _ ⟨w.heap.size + 1 + 1, 0, none⟩ rfl e) rfl (FitP.mk (16) (X) (1 + Y) (C8) (insI_zero (by unfold i64b; omega) (by omega) (by omega) (by first | (simp [goodB]; done) | (simp [goodB, inn]; done) | (simp [goodB, inn]; omega))) (by unfold i64b; omega) (HB9.out.trans (by repeat (first | exact Below.refl _ _ | refine Below.setCell ?_ (by simp; omega) _ | refine Below.drew ?_ | refine below_drewN ?_ _))))
set_option maxRecDepth 100000 in
set_option maxHeartbeats 4000000 in
theorem fit_17 (fa : Option Addr) (nf fc : Nat) (ca : Option Addr) (nc cc : Nat) (lk : Int) (ka : Option Addr) (nk kc : Nat) (a0 : Option Addr) (n cap : Nat) (o a b c : Int) (w : World) (hk : modI o 23 = 17) (hb : i64b b) (h1 : 1 ≤ nf ∧ nf ≤ 100) (h2 : nc ≤ 100) (h3 : nk ≤ 100) (h4 : 0 ≤ lk ∧ lk ≤ 100) (h5 : 1 ≤ n ∧ n ≤ 100) :
    Calls Tryd.prog 11 #[pv fa nf fc ca nc cc lk ka nk kc, .slice a0 n cap, .agg #[.int .i64 o, .int .i64 a, .int .i64 b, .int .i64 c]] w fun e w' => FitP nf nc nk lk n w e w' := by
  have ra := modI_range a 8 (by omega)
  have rb := modI_range b 8 (by omega)
  have rc := modI_range c 8 (by omega)
  have HKK := Lib.hid hk
  unfold pv
  clear hk
  go_enter Tryd.func11, Tryd.ntmps11
  go_wp2_with fail
  refine (mod_any _ _ _ (by omega)).mono ?_
  rintro e w1 ⟨rfl, rfl⟩
  rw [HKK.out]
  go_wp2_with fail
  go_quiet ((go_at_call 9; exact Calls.quiet_of_same (mod_any _ _ _ (by omega))))
  generalize modI a 8 = A8 at *
  generalize modI b 8 = B8 at *
  generalize modI c 8 = C8 at *
  go_wp2_with fail
  go_quiet (fail)
  generalize hW9 : World.drewN _ _ = W9
  have b0 : Blk W9 w.heap.size [.slice fa nf fc, .slice ca nc cc, .int .i64 lk, .slice ka nk kc] := by rw [← hW9]; exact (((Blk.mk w [.slice fa nf fc, .slice ca nc cc, .int .i64 lk, .slice ka nk kc] _ _ rfl).below (below_alloc1 _ _)).below (below_alloc1 _ _)).below (by repeat (first | exact Below.refl _ _ | refine below_drewN ?_ _ | refine Below.drew ?_))
  have b1 : Blk W9 (w.heap.size + 1) [.int .i64 17, .int .i64 a, .int .i64 b, .int .i64 c] := by rw [← hW9]; exact ((Blk.mk (w.alloc (.cells #[.slice fa nf fc, .slice ca nc cc, .int .i64 lk, .slice ka nk kc] 26)) [.int .i64 17, .int .i64 a, .int .i64 b, .int .i64 c] 43 (w.heap.size + 1) (by simp)).below (below_alloc1 _ _)).below (by repeat (first | exact Below.refl _ _ | refine below_drewN ?_ _ | refine Below.drew ?_))
  have b2 : Blk W9 (w.heap.size + 1 + 1) [.int .i64 0, .int .i64 0, .int .i64 0, .int .i64 0] := by rw [← hW9]; exact (Blk.mk ((w.alloc (.cells #[.slice fa nf fc, .slice ca nc cc, .int .i64 lk, .slice ka nk kc] 26)).alloc (.cells #[.int .i64 17, .int .i64 a, .int .i64 b, .int .i64 c] 43)) [.int .i64 0, .int .i64 0, .int .i64 0, .int .i64 0] 43 (w.heap.size + 1 + 1) (by simp)).below (by repeat (first | exact Below.refl _ _ | refine below_drewN ?_ _ | refine Below.drew ?_))
  have b3 : Below w.heap.size w W9 := by rw [← hW9]; repeat (first | exact Below.refl _ _ | refine below_drewN ?_ _ | refine Below.drew ?_ | refine Below.alloc ?_ (by first | (simp; done) | (simp; omega)) _)
  clear hW9
  obtain ⟨c00, -⟩ := b0 0 _ rfl
  obtain ⟨c01, -⟩ := b0 1 _ rfl
  obtain ⟨c02, -⟩ := b0 2 _ rfl
  obtain ⟨c03, -⟩ := b0 3 _ rfl
  obtain ⟨c10, -⟩ := b1 0 _ rfl
  obtain ⟨c11, -⟩ := b1 1 _ rfl
  obtain ⟨c12, -⟩ := b1 2 _ rfl
  obtain ⟨c13, -⟩ := b1 3 _ rfl
  obtain ⟨c20, d20⟩ := b2 0 _ rfl
  obtain ⟨c21, d21⟩ := b2 1 _ rfl
  obtain ⟨c22, d22⟩ := b2 2 _ rfl
  obtain ⟨c23, d23⟩ := b2 3 _ rfl
  have HZ9 := Lib.hid b2
  have HB9 := Lib.hid b3
  clear b0 b1 b2 b3
  go_wp2_with fail
  have e := ins_get ((((((HZ9.out)).set 0 (.int .i64 (17))).set 1 (.int .i64 (A8))).set 2 (.int .i64 (0))).set 3 (.int .i64 (0)))
  exact bodyPost_ret (results_cell Tryd.results11 _ ⟨w.heap.size + 1 + 1, 0, none⟩ rfl e) rfl (FitP.mk (17) (A8) (0) (0) (insI_zero (by unfold i64b; omega) (by omega) (by omega) (by first | (simp [goodB]; done) | (simp [goodB, inn]; done) | (simp [goodB, inn]; omega))) (by unfold i64b; omega) (HB9.out.trans (by repeat (first | exact Below.refl _ _ | refine Below.setCell ?_ (by simp; omega) _ | refine Below.drew ?_ | refine below_drewN ?_ _))))
end Go.Proofs.YtjanangcfgmdeaaDoor
