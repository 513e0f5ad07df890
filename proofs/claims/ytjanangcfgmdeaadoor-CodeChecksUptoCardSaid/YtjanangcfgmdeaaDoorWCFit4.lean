/-
  The walk of fit: a channel's ops.
-/
import Derived.Test.YtjanangcfgmdeaaDoorWCFit0
import Derived.Test.YtjanangcfgmdeaaDoorSegH
open Go Go.RowKit
set_option linter.unusedVariables false
namespace Go.Proofs.YtjanangcfgmdeaaDoor
/-- Behind the first row: the new instruction's block. -/
def FitC (W : World) (K X : Int) (s0 : Nat) (b1 b2 : List Value) (s : Value) (wx : World) : Prop := ∃ q, s = .pointer (some ⟨q, 0, none⟩) ∧ Blk wx q [.int .i64 K, .int .i64 X, .int .i64 0, .int .i64 0] ∧ s0 + 1 + 1 < q ∧ Blk wx (s0 + 1) b1 ∧ Blk wx (s0 + 1 + 1) b2 ∧ Below W.heap.size W wx
theorem FitC.a {W w3 : World} {K X : Int} {s0 : Nat} {b1 b2 : List Value} {t : TypeId} (hs : s0 + 1 + 1 < W.heap.size) (h1 : Blk W (s0 + 1) b1) (h2 : Blk W (s0 + 1 + 1) b2) (bw : Below W.heap.size W w3) :
    FitC W K X s0 b1 b2 (.pointer (some ⟨w3.heap.size, 0, none⟩)) (w3.alloc (.cells #[.int .i64 K, .int .i64 X, .int .i64 0, .int .i64 0] t)) :=
  ⟨_, rfl, Blk.mk w3 [.int .i64 K, .int .i64 X, .int .i64 0, .int .i64 0] t _ rfl, by have := bw.size; omega, (h1.below bw).below (below_alloc1 _ _), (h2.below bw).below (below_alloc1 _ _), below_on bw (below_alloc1 _ _)⟩
theorem FitC.step {W w3 w4 : World} {K X : Int} {s0 : Nat} {b1 b2 : List Value} {s : Value} (h : FitC W K X s0 b1 b2 s w3) (hb : Below w3.heap.size w3 w4) : FitC W K X s0 b1 b2 s w4 := by
  obtain ⟨q, h1, h2, h3, h4, h5, h6⟩ := h
  exact ⟨q, h1, h2.below hb, h3, h4.below hb, h5.below hb, below_on h6 hb⟩
set_option maxRecDepth 100000 in
set_option maxHeartbeats 4000000 in
theorem fit_13 (fa : Option Addr) (nf fc : Nat) (ca : Option Addr) (nc cc : Nat) (lk : Int) (ka : Option Addr) (nk kc : Nat) (a0 : Option Addr) (n cap : Nat) (o a b c : Int) (w : World) (hk : modI o 23 = 13) (hb : i64b b) (h1 : 1 ≤ nf ∧ nf ≤ 100) (h2 : nc ≤ 100) (h3 : nk ≤ 100) (h4 : 0 ≤ lk ∧ lk ≤ 100) (h5 : 1 ≤ n ∧ n ≤ 100) :
    Calls Tryd.prog 11 #[pv fa nf fc ca nc cc lk ka nk kc, .slice a0 n cap, .agg #[.int .i64 o, .int .i64 a, .int .i64 b, .int .i64 c]] w fun e w' => FitP nf nc nk lk n w e w' := by
  have ra := modI_range a 8 (by omega)
  have rb := modI_range b 8 (by omega)
  have rc := modI_range c 8 (by omega)
  have HKK := Lib.hid hk
  unfold pv
  clear hk
  by_cases hz : nc = 0
  · subst hz
    go_enter Tryd.func11, Tryd.ntmps11
    go_wp2_with fail
    refine (mod_any _ _ _ (by omega)).mono ?_
    rintro e w1 ⟨rfl, rfl⟩
    rw [HKK.out]
    go_wp2_with fail
    go_quiet ((go_at_call 9; exact Calls.quiet_of_same (mod_any _ _ _ (by omega))))
    generalize modI a 8 = A8 at *
    generalize modI b 8 = B8 at *
    generalize modI c 8 = C8 at *
    go_wp2_with fail
    go_quiet (fail)
    generalize hW9 : World.drewN _ _ = W9
    have b0 : Blk W9 w.heap.size [.slice fa nf fc, .slice ca 0 cc, .int .i64 lk, .slice ka nk kc] := by rw [← hW9]; exact (((Blk.mk w [.slice fa nf fc, .slice ca 0 cc, .int .i64 lk, .slice ka nk kc] _ _ rfl).below (below_alloc1 _ _)).below (below_alloc1 _ _)).below (by repeat (first | exact Below.refl _ _ | refine below_drewN ?_ _ | refine Below.drew ?_))
    have b1 : Blk W9 (w.heap.size + 1) [.int .i64 13, .int .i64 a, .int .i64 b, .int .i64 c] := by rw [← hW9]; exact ((Blk.mk (w.alloc (.cells #[.slice fa nf fc, .slice ca 0 cc, .int .i64 lk, .slice ka nk kc] 26)) [.int .i64 13, .int .i64 a, .int .i64 b, .int .i64 c] 43 (w.heap.size + 1) (by simp)).below (below_alloc1 _ _)).below (by repeat (first | exact Below.refl _ _ | refine below_drewN ?_ _ | refine Below.drew ?_))
    have b2 : Blk W9 (w.heap.size + 1 + 1) [.int .i64 0, .int .i64 0, .int .i64 0, .int .i64 0] := by rw [← hW9]; exact (Blk.mk ((w.alloc (.cells #[.slice fa nf fc, .slice ca 0 cc, .int .i64 lk, .slice ka nk kc] 26)).alloc (.cells #[.int .i64 13, .int .i64 a, .int .i64 b, .int .i64 c] 43)) [.int .i64 0, .int .i64 0, .int .i64 0, .int .i64 0] 43 (w.heap.size + 1 + 1) (by simp)).below (by repeat (first | exact Below.refl _ _ | refine below_drewN ?_ _ | refine Below.drew ?_))
    have b3 : Below w.heap.size w W9 := by rw [← hW9]; repeat (first | exact Below.refl _ _ | refine below_drewN ?_ _ | refine Below.drew ?_ | refine Below.alloc ?_ (by first | (simp; done) | (simp; omega)) _)
    clear hW9
    obtain ⟨c00, -⟩ := b0 0 _ rfl
    obtain ⟨c01, -⟩ := b0 1 _ rfl
    obtain ⟨c02, -⟩ := b0 2 _ rfl
    obtain ⟨c03, -⟩ := b0 3 _ rfl
    obtain ⟨c10, -⟩ := b1 0 _ rfl
    obtain ⟨c11, -⟩ := b1 1 _ rfl
    obtain ⟨c12, -⟩ := b1 2 _ rfl
    obtain ⟨c13, -⟩ := b1 3 _ rfl
    obtain ⟨c20, d20⟩ := b2 0 _ rfl
    obtain ⟨c21, d21⟩ := b2 1 _ rfl
    obtain ⟨c22, d22⟩ := b2 2 _ rfl
    obtain ⟨c23, d23⟩ := b2 3 _ rfl
    have HZ9 := Lib.hid b2
    have HB9 := Lib.hid b3
    clear b0 b1 b2 b3
    go_wp2_with fail
    have e := ins_get ((((((HZ9.out)).set 0 (.int .i64 (0))).set 1 (.int .i64 (0))).set 2 (.int .i64 (0))).set 3 (.int .i64 (0)))
    exact bodyPost_ret (results_cell Tryd.results11 _ ⟨w.heap.size + 1 + 1, 0, none⟩ rfl e) rfl (FitP.mk (0) (0) (0) (0) (insI_zero (by unfold i64b; omega) (by omega) (by omega) (by first | (simp [goodB]; done) | (simp [goodB, inn]; done) | (simp [goodB, inn]; omega))) (by unfold i64b; omega) (HB9.out.trans (by repeat (first | exact Below.refl _ _ | refine Below.setCell ?_ (by simp; omega) _ | refine Below.drew ?_ | refine below_drewN ?_ _))))
  · skip
    have rx := modI_range a nc (by omega)
    have hz2 : ¬ (nc : Int) = 0 := by omega
    go_enter Tryd.func11, Tryd.ntmps11
    go_wp2_with fail
    refine (mod_any _ _ _ (by omega)).mono ?_
    rintro e w1 ⟨rfl, rfl⟩
    rw [HKK.out]
    go_wp2_with fail
    go_quiet ((go_at_call 9; exact Calls.quiet_of_same (mod_any _ _ _ (by omega))))
    generalize modI a 8 = A8 at *
    generalize modI b 8 = B8 at *
    generalize modI c 8 = C8 at *
    go_wp2_with fail
    go_quiet (fail)
    generalize hW9 : World.drewN _ _ = W9
    have b0 : Blk W9 w.heap.size [.slice fa nf fc, .slice ca nc cc, .int .i64 lk, .slice ka nk kc] := by rw [← hW9]; exact (((Blk.mk w [.slice fa nf fc, .slice ca nc cc, .int .i64 lk, .slice ka nk kc] _ _ rfl).below (below_alloc1 _ _)).below (below_alloc1 _ _)).below (by repeat (first | exact Below.refl _ _ | refine below_drewN ?_ _ | refine Below.drew ?_))
    have b1 : Blk W9 (w.heap.size + 1) [.int .i64 13, .int .i64 a, .int .i64 b, .int .i64 c] := by rw [← hW9]; exact ((Blk.mk (w.alloc (.cells #[.slice fa nf fc, .slice ca nc cc, .int .i64 lk, .slice ka nk kc] 26)) [.int .i64 13, .int .i64 a, .int .i64 b, .int .i64 c] 43 (w.heap.size + 1) (by simp)).below (below_alloc1 _ _)).below (by repeat (first | exact Below.refl _ _ | refine below_drewN ?_ _ | refine Below.drew ?_))
    have b2 : Blk W9 (w.heap.size + 1 + 1) [.int .i64 0, .int .i64 0, .int .i64 0, .int .i64 0] := by rw [← hW9]; exact (Blk.mk ((w.alloc (.cells #[.slice fa nf fc, .slice ca nc cc, .int .i64 lk, .slice ka nk kc] 26)).alloc (.cells #[.int .i64 13, .int .i64 a, .int .i64 b, .int .i64 c] 43)) [.int .i64 0, .int .i64 0, .int .i64 0, .int .i64 0] 43 (w.heap.size + 1 + 1) (by simp)).below (by repeat (first | exact Below.refl _ _ | refine below_drewN ?_ _ | refine Below.drew ?_))
    have b3 : Below w.heap.size w W9 := by rw [← hW9]; repeat (first | exact Below.refl _ _ | refine below_drewN ?_ _ | refine Below.drew ?_ | refine Below.alloc ?_ (by first | (simp; done) | (simp; omega)) _)
    clear hW9
    obtain ⟨c00, -⟩ := b0 0 _ rfl
    obtain ⟨c01, -⟩ := b0 1 _ rfl
    obtain ⟨c02, -⟩ := b0 2 _ rfl
    obtain ⟨c03, -⟩ := b0 3 _ rfl
    obtain ⟨c10, -⟩ := b1 0 _ rfl
    obtain ⟨c11, -⟩ := b1 1 _ rfl
    obtain ⟨c12, -⟩ := b1 2 _ rfl
    obtain ⟨c13, -⟩ := b1 3 _ rfl
    obtain ⟨c20, d20⟩ := b2 0 _ rfl
    obtain ⟨c21, d21⟩ := b2 1 _ rfl
    obtain ⟨c22, d22⟩ := b2 2 _ rfl
    obtain ⟨c23, d23⟩ := b2 3 _ rfl
    have HZ9 := Lib.hid b2
    have HB9 := Lib.hid b3
    have HB1 := Lib.hid b1
    clear b0 b1 b2 b3
    go_upto_region 30 with fail
    have hl9 : w.heap.size + 1 + 1 < W9.heap.size := World.block_lt_of_cell? W9 _ c20
    go_cut [13] (fun s wx => Hid (FitC W9 13 (modI a nc) w.heap.size [.int .i64 13, .int .i64 a, .int .i64 b, .int .i64 c] [.int .i64 0, .int .i64 0, .int .i64 0, .int .i64 0] s wx))
    case first =>
      have hp9 : ∀ wx, Below W9.heap.size W9 wx → wx.cell? ⟨w.heap.size + 1, 0, none⟩ = some (.int .i64 13) ∧ wx.cell? ⟨w.heap.size + 1, 1, none⟩ = some (.int .i64 a) := fun wx hb => ⟨cell_below c10 hb, cell_below c11 hb⟩
      have HP9 := Lib.hid hp9
      clear hp9
      have hl8 : w.heap.size + 1 < W9.heap.size := World.block_lt_of_cell? W9 _ c10
      go_wp2_with fail
      refine wp_region_lexH (fun wx => wx.cell? ⟨w.heap.size + 1, 0, none⟩ = some (.int .i64 13) ∧ wx.cell? ⟨w.heap.size + 1, 1, none⟩ = some (.int .i64 a)) 9 (Array.replicate 9 false) (by kernel_rfl) (by kernel_rfl) ?_
      refine wpAnyH_seg 0 5 _ #[true, true, true, true, true, false, false, false, false] 4 (by kernel_rfl) noPanic_put (HP9.out _ (by repeat (first | exact Below.refl _ _ | refine Below.setCell ?_ (by simp) _ | refine Below.drew ?_ | refine below_drewN ?_ _ | refine Below.alloc ?_ (by simp) _))) (by kernel_rfl) ?_
      simp only [List.take_succ_cons, List.take_zero, List.drop_zero]
      repeat (first
          | (refine wpSegH_no (by rfl) ?_; simp only [Act.put, List.setIfInBounds_toArray, List.set_cons_zero, List.set_cons_succ])
          | (refine wpSegH_yes (by rfl) ?_; apply Exists.intro; apply And.intro; (· (intro wx hS; (try dsimp only at hS); go_simp; first | done | with_reducible rfl)); simp only [Act.put, List.setIfInBounds_toArray, List.set_cons_zero, List.set_cons_succ]))
      refine wpSegH_nil ?_
      refine wpAnyH_two 5 7 _ #[true, true, true, true, true, true, false, false, false] #[true, true, true, true, true, false, false, true, false] 3 (by kernel_rfl) (fun K hK => ?_) (fun K hK => ?_)
      · have HK2 := Lib.hid hK
        clear hK
        simp only [List.drop_succ_cons, List.drop_zero]
        refine headH_mk (by rfl) ?_
        go_simp
        refine (mod_any _ _ _ (by omega)).mono ?_
        rintro e w5 ⟨rfl, rfl⟩
        refine HK2.out _ _ (HP9.out _ (by repeat (first | exact Below.refl _ _ | refine Below.setCell ?_ (by simp) _ | refine Below.drew ?_ | refine below_drewN ?_ _ | refine Below.alloc ?_ (by simp) _))) ?_
        clear HK2 K
        refine wpAnyH_seg 6 1 _ #[true, true, true, true, true, true, true, false, false] 2 (by kernel_rfl) noPanic_put (HP9.out _ (by repeat (first | exact Below.refl _ _ | refine Below.setCell ?_ (by simp) _ | refine Below.drew ?_ | refine below_drewN ?_ _ | refine Below.alloc ?_ (by simp) _))) (by kernel_rfl) ?_
        simp only [List.take_succ_cons, List.take_zero, List.drop_succ_cons, List.drop_zero]
        repeat (first
            | (refine wpSegH_no (by rfl) ?_; simp only [Act.put, List.setIfInBounds_toArray, List.set_cons_zero, List.set_cons_succ])
            | (refine wpSegH_yes (by rfl) ?_; apply Exists.intro; apply And.intro; (· (intro wx hS; (try dsimp only at hS); go_simp; first | done | with_reducible rfl)); simp only [Act.put, List.setIfInBounds_toArray, List.set_cons_zero, List.set_cons_succ]))
        refine wpSegH_nil ?_
        refine wpAnyH_one 7 _ #[true, true, true, true, true, true, true, true, false] 1 (by kernel_rfl) (fun K hK => ?_)
        have HK2 := Lib.hid hK
        clear hK
        simp only [List.drop_succ_cons, List.drop_zero]
        refine headH_mk (by rfl) ?_
        go_simp
        refine HK2.out _ _ (HP9.out _ (by repeat (first | exact Below.refl _ _ | refine Below.setCell ?_ (by simp) _ | refine Below.drew ?_ | refine below_drewN ?_ _ | refine Below.alloc ?_ (by simp) _))) ?_
        clear HK2 K
        refine wpAnyH_one 8 _ #[true, true, true, true, true, true, true, true, true] 0 (by kernel_rfl) (fun K hK => ?_)
        have HK2 := Lib.hid hK
        clear hK
        simp only [List.drop_succ_cons, List.drop_zero]
        refine headH_mk (by rfl) ?_
        go_simp
        refine HK2.out _ _ (HP9.out _ (by repeat (first | exact Below.refl _ _ | refine Below.setCell ?_ (by simp) _ | refine Below.drew ?_ | refine below_drewN ?_ _ | refine Below.alloc ?_ (by simp) _))) ?_
        clear HK2 K
        refine wpAnyH_done (by kernel_rfl) (NoPanic.normal ?_) _
        go_wp2_with fail
        go_meet
        exact Lib.hid ((FitC.a hl9 HB1.out HZ9.out (Below.refl _ _)).step (below_drew1 _))
      · have HK2 := Lib.hid hK
        clear hK
        simp only [List.drop_succ_cons, List.drop_zero]
        refine headH_mk (by rfl) ?_
        go_simp
        refine HK2.out _ _ (HP9.out _ (by repeat (first | exact Below.refl _ _ | refine Below.setCell ?_ (by simp) _ | refine Below.drew ?_ | refine below_drewN ?_ _ | refine Below.alloc ?_ (by simp) _))) ?_
        clear HK2 K
        refine wpAnyH_one 5 _ #[true, true, true, true, true, true, false, true, false] 2 (by kernel_rfl) (fun K hK => ?_)
        have HK2 := Lib.hid hK
        clear hK
        simp only [List.drop_succ_cons, List.drop_zero]
        refine headH_mk (by rfl) ?_
        go_simp
        refine (mod_any _ _ _ (by omega)).mono ?_
        rintro e w5 ⟨rfl, rfl⟩
        refine HK2.out _ _ (HP9.out _ (by repeat (first | exact Below.refl _ _ | refine Below.setCell ?_ (by simp) _ | refine Below.drew ?_ | refine below_drewN ?_ _ | refine Below.alloc ?_ (by simp) _))) ?_
        clear HK2 K
        refine wpAnyH_seg 6 1 _ #[true, true, true, true, true, true, true, true, false] 1 (by kernel_rfl) noPanic_put (HP9.out _ (by repeat (first | exact Below.refl _ _ | refine Below.setCell ?_ (by simp) _ | refine Below.drew ?_ | refine below_drewN ?_ _ | refine Below.alloc ?_ (by simp) _))) (by kernel_rfl) ?_
        simp only [List.take_succ_cons, List.take_zero, List.drop_succ_cons, List.drop_zero]
        repeat (first
            | (refine wpSegH_no (by rfl) ?_; simp only [Act.put, List.setIfInBounds_toArray, List.set_cons_zero, List.set_cons_succ])
            | (refine wpSegH_yes (by rfl) ?_; apply Exists.intro; apply And.intro; (· (intro wx hS; (try dsimp only at hS); go_simp; first | done | with_reducible rfl)); simp only [Act.put, List.setIfInBounds_toArray, List.set_cons_zero, List.set_cons_succ]))
        refine wpSegH_nil ?_
        refine wpAnyH_one 8 _ #[true, true, true, true, true, true, true, true, true] 0 (by kernel_rfl) (fun K hK => ?_)
        have HK2 := Lib.hid hK
        clear hK
        simp only [List.drop_succ_cons, List.drop_zero]
        refine headH_mk (by rfl) ?_
        go_simp
        refine HK2.out _ _ (HP9.out _ (by repeat (first | exact Below.refl _ _ | refine Below.setCell ?_ (by simp) _ | refine Below.drew ?_ | refine below_drewN ?_ _ | refine Below.alloc ?_ (by simp) _))) ?_
        clear HK2 K
        refine wpAnyH_done (by kernel_rfl) (NoPanic.normal ?_) _
        go_wp2_with fail
        go_meet
        exact Lib.hid ((FitC.a hl9 HB1.out HZ9.out (Below.refl _ _)).step (below_drew1 _))
    case rest =>
      have hq0 := hcut.out
      obtain ⟨q, rfl, e0, e1, e2, e3, e4⟩ := hq0
      generalize modI a ↑nc = X at *
      obtain ⟨p0, u0⟩ := e0 0 _ rfl
      obtain ⟨p1, u1⟩ := e0 1 _ rfl
      obtain ⟨p2, u2⟩ := e0 2 _ rfl
      obtain ⟨p3, u3⟩ := e0 3 _ rfl
      obtain ⟨x0, -⟩ := e2 0 _ rfl
      obtain ⟨y0, t0⟩ := e3 0 _ rfl
      obtain ⟨y1, t1⟩ := e3 1 _ rfl
      obtain ⟨y2, t2⟩ := e3 2 _ rfl
      obtain ⟨y3, t3⟩ := e3 3 _ rfl
      have hne1 : w.heap.size + 1 ≠ q := by omega
      have hne2 : w.heap.size + 1 + 1 ≠ q := by omega
      have E0 := Lib.hid e0
      have E3 := Lib.hid e3
      have E4 := Lib.hid e4
      have HQ := Lib.hid e1
      clear e0 e1 e2 e3 e4 hcut c00 c01 c02 c03 c10 c11 c12 c13 c20 c21 c22 c23 d20 d21 d22 d23 hl9
      go_wp2_with fail
      have e := ins_get ((((E3.out.setFar (k := 2) (v := .int .i64 (B8)) hne2).set 0 (.int .i64 (13))).set 1 (.int .i64 (X))).set 2 (.int .i64 (B8)) |>.set 3 (.int .i64 (0)))
      exact bodyPost_ret (results_cell Tryd.results11 _ ⟨w.heap.size + 1 + 1, 0, none⟩ rfl e) rfl (FitP.mk (13) (X) (B8) (0) (insI_zero (by unfold i64b; omega) (by omega) (by omega) (by first | (simp [goodB]; done) | (simp [goodB, inn]; done) | (simp [goodB, inn]; omega))) (by unfold i64b; omega) (by repeat (first | exact below_on HB9.out E4.out | refine Below.setCell ?_ (by first | (simp; omega) | (have := HQ.out; simp; omega)) _)))
set_option maxRecDepth 100000 in
set_option maxHeartbeats 4000000 in
theorem fit_14 (fa : Option Addr) (nf fc : Nat) (ca : Option Addr) (nc cc : Nat) (lk : Int) (ka : Option Addr) (nk kc : Nat) (a0 : Option Addr) (n cap : Nat) (o a b c : Int) (w : World) (hk : modI o 23 = 14) (hb : i64b b) (h1 : 1 ≤ nf ∧ nf ≤ 100) (h2 : nc ≤ 100) (h3 : nk ≤ 100) (h4 : 0 ≤ lk ∧ lk ≤ 100) (h5 : 1 ≤ n ∧ n ≤ 100) :
    Calls Tryd.prog 11 #[pv fa nf fc ca nc cc lk ka nk kc, .slice a0 n cap, .agg #[.int .i64 o, .int .i64 a, .int .i64 b, .int .i64 c]] w fun e w' => FitP nf nc nk lk n w e w' := by
  have ra := modI_range a 8 (by omega)
  have rb := modI_range b 8 (by omega)
  have rc := modI_range c 8 (by omega)
  have HKK := Lib.hid hk
  unfold pv
  clear hk
  by_cases hz : nc = 0
  · subst hz
    go_enter Tryd.func11, Tryd.ntmps11
    go_wp2_with fail
    refine (mod_any _ _ _ (by omega)).mono ?_
    rintro e w1 ⟨rfl, rfl⟩
    rw [HKK.out]
    go_wp2_with fail
    go_quiet ((go_at_call 9; exact Calls.quiet_of_same (mod_any _ _ _ (by omega))))
    generalize modI a 8 = A8 at *
    generalize modI b 8 = B8 at *
    generalize modI c 8 = C8 at *
    go_wp2_with fail
    go_quiet (fail)
    generalize hW9 : World.drewN _ _ = W9
    have b0 : Blk W9 w.heap.size [.slice fa nf fc, .slice ca 0 cc, .int .i64 lk, .slice ka nk kc] := by rw [← hW9]; exact (((Blk.mk w [.slice fa nf fc, .slice ca 0 cc, .int .i64 lk, .slice ka nk kc] _ _ rfl).below (below_alloc1 _ _)).below (below_alloc1 _ _)).below (by repeat (first | exact Below.refl _ _ | refine below_drewN ?_ _ | refine Below.drew ?_))
    have b1 : Blk W9 (w.heap.size + 1) [.int .i64 14, .int .i64 a, .int .i64 b, .int .i64 c] := by rw [← hW9]; exact ((Blk.mk (w.alloc (.cells #[.slice fa nf fc, .slice ca 0 cc, .int .i64 lk, .slice ka nk kc] 26)) [.int .i64 14, .int .i64 a, .int .i64 b, .int .i64 c] 43 (w.heap.size + 1) (by simp)).below (below_alloc1 _ _)).below (by repeat (first | exact Below.refl _ _ | refine below_drewN ?_ _ | refine Below.drew ?_))
    have b2 : Blk W9 (w.heap.size + 1 + 1) [.int .i64 0, .int .i64 0, .int .i64 0, .int .i64 0] := by rw [← hW9]; exact (Blk.mk ((w.alloc (.cells #[.slice fa nf fc, .slice ca 0 cc, .int .i64 lk, .slice ka nk kc] 26)).alloc (.cells #[.int .i64 14, .int .i64 a, .int .i64 b, .int .i64 c] 43)) [.int .i64 0, .int .i64 0, .int .i64 0, .int .i64 0] 43 (w.heap.size + 1 + 1) (by simp)).below (by repeat (first | exact Below.refl _ _ | refine below_drewN ?_ _ | refine Below.drew ?_))
    have b3 : Below w.heap.size w W9 := by rw [← hW9]; repeat (first | exact Below.refl _ _ | refine below_drewN ?_ _ | refine Below.drew ?_ | refine Below.alloc ?_ (by first | (simp; done) | (simp; omega)) _)
    clear hW9
    obtain ⟨c00, -⟩ := b0 0 _ rfl
    obtain ⟨c01, -⟩ := b0 1 _ rfl
    obtain ⟨c02, -⟩ := b0 2 _ rfl
    obtain ⟨c03, -⟩ := b0 3 _ rfl
    obtain ⟨c10, -⟩ := b1 0 _ rfl
    obtain ⟨c11, -⟩ := b1 1 _ rfl
    obtain ⟨c12, -⟩ := b1 2 _ rfl
    obtain ⟨c13, -⟩ := b1 3 _ rfl
    obtain ⟨c20, d20⟩ := b2 0 _ rfl
    obtain ⟨c21, d21⟩ := b2 1 _ rfl
    obtain ⟨c22, d22⟩ := b2 2 _ rfl
    obtain ⟨c23, d23⟩ := b2 3 _ rfl
    have HZ9 := Lib.hid b2
    have HB9 := Lib.hid b3
    clear b0 b1 b2 b3
    go_wp2_with fail
    have e := ins_get ((((((HZ9.out)).set 0 (.int .i64 (0))).set 1 (.int .i64 (0))).set 2 (.int .i64 (0))).set 3 (.int .i64 (0)))
    exact bodyPost_ret (results_cell Tryd.results11 _ ⟨w.heap.size + 1 + 1, 0, none⟩ rfl e) rfl (FitP.mk (0) (0) (0) (0) (insI_zero (by unfold i64b; omega) (by omega) (by omega) (by first | (simp [goodB]; done) | (simp [goodB, inn]; done) | (simp [goodB, inn]; omega))) (by unfold i64b; omega) (HB9.out.trans (by repeat (first | exact Below.refl _ _ | refine Below.setCell ?_ (by simp; omega) _ | refine Below.drew ?_ | refine below_drewN ?_ _))))
  · skip
    have rx := modI_range a nc (by omega)
    have hz2 : ¬ (nc : Int) = 0 := by omega
    go_enter Tryd.func11, Tryd.ntmps11
    go_wp2_with fail
    refine (mod_any _ _ _ (by omega)).mono ?_
    rintro e w1 ⟨rfl, rfl⟩
    rw [HKK.out]
    go_wp2_with fail
    go_quiet ((go_at_call 9; exact Calls.quiet_of_same (mod_any _ _ _ (by omega))))
    generalize modI a 8 = A8 at *
    generalize modI b 8 = B8 at *
    generalize modI c 8 = C8 at *
    go_wp2_with fail
    go_quiet (fail)
    generalize hW9 : World.drewN _ _ = W9
    have b0 : Blk W9 w.heap.size [.slice fa nf fc, .slice ca nc cc, .int .i64 lk, .slice ka nk kc] := by rw [← hW9]; exact (((Blk.mk w [.slice fa nf fc, .slice ca nc cc, .int .i64 lk, .slice ka nk kc] _ _ rfl).below (below_alloc1 _ _)).below (below_alloc1 _ _)).below (by repeat (first | exact Below.refl _ _ | refine below_drewN ?_ _ | refine Below.drew ?_))
    have b1 : Blk W9 (w.heap.size + 1) [.int .i64 14, .int .i64 a, .int .i64 b, .int .i64 c] := by rw [← hW9]; exact ((Blk.mk (w.alloc (.cells #[.slice fa nf fc, .slice ca nc cc, .int .i64 lk, .slice ka nk kc] 26)) [.int .i64 14, .int .i64 a, .int .i64 b, .int .i64 c] 43 (w.heap.size + 1) (by simp)).below (below_alloc1 _ _)).below (by repeat (first | exact Below.refl _ _ | refine below_drewN ?_ _ | refine Below.drew ?_))
    have b2 : Blk W9 (w.heap.size + 1 + 1) [.int .i64 0, .int .i64 0, .int .i64 0, .int .i64 0] := by rw [← hW9]; exact (Blk.mk ((w.alloc (.cells #[.slice fa nf fc, .slice ca nc cc, .int .i64 lk, .slice ka nk kc] 26)).alloc (.cells #[.int .i64 14, .int .i64 a, .int .i64 b, .int .i64 c] 43)) [.int .i64 0, .int .i64 0, .int .i64 0, .int .i64 0] 43 (w.heap.size + 1 + 1) (by simp)).below (by repeat (first | exact Below.refl _ _ | refine below_drewN ?_ _ | refine Below.drew ?_))
    have b3 : Below w.heap.size w W9 := by rw [← hW9]; repeat (first | exact Below.refl _ _ | refine below_drewN ?_ _ | refine Below.drew ?_ | refine Below.alloc ?_ (by first | (simp; done) | (simp; omega)) _)
    clear hW9
    obtain ⟨c00, -⟩ := b0 0 _ rfl
    obtain ⟨c01, -⟩ := b0 1 _ rfl
    obtain ⟨c02, -⟩ := b0 2 _ rfl
    obtain ⟨c03, -⟩ := b0 3 _ rfl
    obtain ⟨c10, -⟩ := b1 0 _ rfl
    obtain ⟨c11, -⟩ := b1 1 _ rfl
    obtain ⟨c12, -⟩ := b1 2 _ rfl
    obtain ⟨c13, -⟩ := b1 3 _ rfl
    obtain ⟨c20, d20⟩ := b2 0 _ rfl
    obtain ⟨c21, d21⟩ := b2 1 _ rfl
    obtain ⟨c22, d22⟩ := b2 2 _ rfl
    obtain ⟨c23, d23⟩ := b2 3 _ rfl
    have HZ9 := Lib.hid b2
    have HB9 := Lib.hid b3
    have HB1 := Lib.hid b1
    clear b0 b1 b2 b3
    go_upto_region 30 with fail
    have hl9 : w.heap.size + 1 + 1 < W9.heap.size := World.block_lt_of_cell? W9 _ c20
    go_cut [13] (fun s wx => Hid (FitC W9 14 (modI a nc) w.heap.size [.int .i64 14, .int .i64 a, .int .i64 b, .int .i64 c] [.int .i64 0, .int .i64 0, .int .i64 0, .int .i64 0] s wx))
    case first =>
      have hp9 : ∀ wx, Below W9.heap.size W9 wx → wx.cell? ⟨w.heap.size + 1, 0, none⟩ = some (.int .i64 14) ∧ wx.cell? ⟨w.heap.size + 1, 1, none⟩ = some (.int .i64 a) := fun wx hb => ⟨cell_below c10 hb, cell_below c11 hb⟩
      have HP9 := Lib.hid hp9
      clear hp9
      have hl8 : w.heap.size + 1 < W9.heap.size := World.block_lt_of_cell? W9 _ c10
      go_wp2_with fail
      refine wp_region_lexH (fun wx => wx.cell? ⟨w.heap.size + 1, 0, none⟩ = some (.int .i64 14) ∧ wx.cell? ⟨w.heap.size + 1, 1, none⟩ = some (.int .i64 a)) 9 (Array.replicate 9 false) (by kernel_rfl) (by kernel_rfl) ?_
      refine wpAnyH_seg 0 5 _ #[true, true, true, true, true, false, false, false, false] 4 (by kernel_rfl) noPanic_put (HP9.out _ (by repeat (first | exact Below.refl _ _ | refine Below.setCell ?_ (by simp) _ | refine Below.drew ?_ | refine below_drewN ?_ _ | refine Below.alloc ?_ (by simp) _))) (by kernel_rfl) ?_
      simp only [List.take_succ_cons, List.take_zero, List.drop_zero]
      repeat (first
          | (refine wpSegH_no (by rfl) ?_; simp only [Act.put, List.setIfInBounds_toArray, List.set_cons_zero, List.set_cons_succ])
          | (refine wpSegH_yes (by rfl) ?_; apply Exists.intro; apply And.intro; (· (intro wx hS; (try dsimp only at hS); go_simp; first | done | with_reducible rfl)); simp only [Act.put, List.setIfInBounds_toArray, List.set_cons_zero, List.set_cons_succ]))
      refine wpSegH_nil ?_
      refine wpAnyH_two 5 7 _ #[true, true, true, true, true, true, false, false, false] #[true, true, true, true, true, false, false, true, false] 3 (by kernel_rfl) (fun K hK => ?_) (fun K hK => ?_)
      · have HK2 := Lib.hid hK
        clear hK
        simp only [List.drop_succ_cons, List.drop_zero]
        refine headH_mk (by rfl) ?_
        go_simp
        refine (mod_any _ _ _ (by omega)).mono ?_
        rintro e w5 ⟨rfl, rfl⟩
        refine HK2.out _ _ (HP9.out _ (by repeat (first | exact Below.refl _ _ | refine Below.setCell ?_ (by simp) _ | refine Below.drew ?_ | refine below_drewN ?_ _ | refine Below.alloc ?_ (by simp) _))) ?_
        clear HK2 K
        refine wpAnyH_seg 6 1 _ #[true, true, true, true, true, true, true, false, false] 2 (by kernel_rfl) noPanic_put (HP9.out _ (by repeat (first | exact Below.refl _ _ | refine Below.setCell ?_ (by simp) _ | refine Below.drew ?_ | refine below_drewN ?_ _ | refine Below.alloc ?_ (by simp) _))) (by kernel_rfl) ?_
        simp only [List.take_succ_cons, List.take_zero, List.drop_succ_cons, List.drop_zero]
        repeat (first
            | (refine wpSegH_no (by rfl) ?_; simp only [Act.put, List.setIfInBounds_toArray, List.set_cons_zero, List.set_cons_succ])
            | (refine wpSegH_yes (by rfl) ?_; apply Exists.intro; apply And.intro; (· (intro wx hS; (try dsimp only at hS); go_simp; first | done | with_reducible rfl)); simp only [Act.put, List.setIfInBounds_toArray, List.set_cons_zero, List.set_cons_succ]))
        refine wpSegH_nil ?_
        refine wpAnyH_one 7 _ #[true, true, true, true, true, true, true, true, false] 1 (by kernel_rfl) (fun K hK => ?_)
        have HK2 := Lib.hid hK
        clear hK
        simp only [List.drop_succ_cons, List.drop_zero]
        refine headH_mk (by rfl) ?_
        go_simp
        refine HK2.out _ _ (HP9.out _ (by repeat (first | exact Below.refl _ _ | refine Below.setCell ?_ (by simp) _ | refine Below.drew ?_ | refine below_drewN ?_ _ | refine Below.alloc ?_ (by simp) _))) ?_
        clear HK2 K
        refine wpAnyH_one 8 _ #[true, true, true, true, true, true, true, true, true] 0 (by kernel_rfl) (fun K hK => ?_)
        have HK2 := Lib.hid hK
        clear hK
        simp only [List.drop_succ_cons, List.drop_zero]
        refine headH_mk (by rfl) ?_
        go_simp
        refine HK2.out _ _ (HP9.out _ (by repeat (first | exact Below.refl _ _ | refine Below.setCell ?_ (by simp) _ | refine Below.drew ?_ | refine below_drewN ?_ _ | refine Below.alloc ?_ (by simp) _))) ?_
        clear HK2 K
        refine wpAnyH_done (by kernel_rfl) (NoPanic.normal ?_) _
        go_wp2_with fail
        go_meet
        exact Lib.hid ((FitC.a hl9 HB1.out HZ9.out (Below.refl _ _)).step (below_drew1 _))
      · have HK2 := Lib.hid hK
        clear hK
        simp only [List.drop_succ_cons, List.drop_zero]
        refine headH_mk (by rfl) ?_
        go_simp
        refine HK2.out _ _ (HP9.out _ (by repeat (first | exact Below.refl _ _ | refine Below.setCell ?_ (by simp) _ | refine Below.drew ?_ | refine below_drewN ?_ _ | refine Below.alloc ?_ (by simp) _))) ?_
        clear HK2 K
        refine wpAnyH_one 5 _ #[true, true, true, true, true, true, false, true, false] 2 (by kernel_rfl) (fun K hK => ?_)
        have HK2 := Lib.hid hK
        clear hK
        simp only [List.drop_succ_cons, List.drop_zero]
        refine headH_mk (by rfl) ?_
        go_simp
        refine (mod_any _ _ _ (by omega)).mono ?_
        rintro e w5 ⟨rfl, rfl⟩
        refine HK2.out _ _ (HP9.out _ (by repeat (first | exact Below.refl _ _ | refine Below.setCell ?_ (by simp) _ | refine Below.drew ?_ | refine below_drewN ?_ _ | refine Below.alloc ?_ (by simp) _))) ?_
        clear HK2 K
        refine wpAnyH_seg 6 1 _ #[true, true, true, true, true, true, true, true, false] 1 (by kernel_rfl) noPanic_put (HP9.out _ (by repeat (first | exact Below.refl _ _ | refine Below.setCell ?_ (by simp) _ | refine Below.drew ?_ | refine below_drewN ?_ _ | refine Below.alloc ?_ (by simp) _))) (by kernel_rfl) ?_
        simp only [List.take_succ_cons, List.take_zero, List.drop_succ_cons, List.drop_zero]
        repeat (first
            | (refine wpSegH_no (by rfl) ?_; simp only [Act.put, List.setIfInBounds_toArray, List.set_cons_zero, List.set_cons_succ])
            | (refine wpSegH_yes (by rfl) ?_; apply Exists.intro; apply And.intro; (· (intro wx hS; (try dsimp only at hS); go_simp; first | done | with_reducible rfl)); simp only [Act.put, List.setIfInBounds_toArray, List.set_cons_zero, List.set_cons_succ]))
        refine wpSegH_nil ?_
        refine wpAnyH_one 8 _ #[true, true, true, true, true, true, true, true, true] 0 (by kernel_rfl) (fun K hK => ?_)
        have HK2 := Lib.hid hK
        clear hK
        simp only [List.drop_succ_cons, List.drop_zero]
        refine headH_mk (by rfl) ?_
        go_simp
        refine HK2.out _ _ (HP9.out _ (by repeat (first | exact Below.refl _ _ | refine Below.setCell ?_ (by simp) _ | refine Below.drew ?_ | refine below_drewN ?_ _ | refine Below.alloc ?_ (by simp) _))) ?_
        clear HK2 K
        refine wpAnyH_done (by kernel_rfl) (NoPanic.normal ?_) _
        go_wp2_with fail
        go_meet
        exact Lib.hid ((FitC.a hl9 HB1.out HZ9.out (Below.refl _ _)).step (below_drew1 _))
    case rest =>
      have hq0 := hcut.out
      obtain ⟨q, rfl, e0, e1, e2, e3, e4⟩ := hq0
      generalize modI a ↑nc = X at *
      obtain ⟨p0, u0⟩ := e0 0 _ rfl
      obtain ⟨p1, u1⟩ := e0 1 _ rfl
      obtain ⟨p2, u2⟩ := e0 2 _ rfl
      obtain ⟨p3, u3⟩ := e0 3 _ rfl
      obtain ⟨x0, -⟩ := e2 0 _ rfl
      obtain ⟨y0, t0⟩ := e3 0 _ rfl
      obtain ⟨y1, t1⟩ := e3 1 _ rfl
      obtain ⟨y2, t2⟩ := e3 2 _ rfl
      obtain ⟨y3, t3⟩ := e3 3 _ rfl
      have hne1 : w.heap.size + 1 ≠ q := by omega
      have hne2 : w.heap.size + 1 + 1 ≠ q := by omega
      have E0 := Lib.hid e0
      have E3 := Lib.hid e3
      have E4 := Lib.hid e4
      have HQ := Lib.hid e1
      clear e0 e1 e2 e3 e4 hcut c00 c01 c02 c03 c10 c11 c12 c13 c20 c21 c22 c23 d20 d21 d22 d23 hl9
      go_wp2_with fail
      have e := ins_get (((((E3.out.setFar (k := 2) (v := .int .i64 (B8)) hne2).setFar (k := 3) (v := .int .i64 (C8)) hne2).set 0 (.int .i64 (14))).set 1 (.int .i64 (X))).set 2 (.int .i64 (B8)) |>.set 3 (.int .i64 (C8)))
      exact bodyPost_ret (results_cell Tryd.results11 _ ⟨w.heap.size + 1 + 1, 0, none⟩ rfl e) rfl (FitP.mk (14) (X) (B8) (C8) (insI_zero (by unfold i64b; omega) (by omega) (by omega) (by first | (simp [goodB]; done) | (simp [goodB, inn]; done) | (simp [goodB, inn]; omega))) (by unfold i64b; omega) (by repeat (first | exact below_on HB9.out E4.out | refine Below.setCell ?_ (by first | (simp; omega) | (have := HQ.out; simp; omega)) _)))
set_option maxRecDepth 100000 in
set_option maxHeartbeats 4000000 in
theorem fit_15 (fa : Option Addr) (nf fc : Nat) (ca : Option Addr) (nc cc : Nat) (lk : Int) (ka : Option Addr) (nk kc : Nat) (a0 : Option Addr) (n cap : Nat) (o a b c : Int) (w : World) (hk : modI o 23 = 15) (hb : i64b b) (h1 : 1 ≤ nf ∧ nf ≤ 100) (h2 : nc ≤ 100) (h3 : nk ≤ 100) (h4 : 0 ≤ lk ∧ lk ≤ 100) (h5 : 1 ≤ n ∧ n ≤ 100) :
    Calls Tryd.prog 11 #[pv fa nf fc ca nc cc lk ka nk kc, .slice a0 n cap, .agg #[.int .i64 o, .int .i64 a, .int .i64 b, .int .i64 c]] w fun e w' => FitP nf nc nk lk n w e w' := by
  have ra := modI_range a 8 (by omega)
  have rb := modI_range b 8 (by omega)
  have rc := modI_range c 8 (by omega)
  have HKK := Lib.hid hk
  unfold pv
  clear hk
  by_cases hz : nc = 0
  · subst hz
    go_enter Tryd.func11, Tryd.ntmps11
    go_wp2_with fail
    refine (mod_any _ _ _ (by omega)).mono ?_
    rintro e w1 ⟨rfl, rfl⟩
    rw [HKK.out]
    go_wp2_with fail
    go_quiet ((go_at_call 9; exact Calls.quiet_of_same (mod_any _ _ _ (by omega))))
    generalize modI a 8 = A8 at *
    generalize modI b 8 = B8 at *
    generalize modI c 8 = C8 at *
    go_wp2_with fail
    go_quiet (fail)
    generalize hW9 : World.drewN _ _ = W9
    have b0 : Blk W9 w.heap.size [.slice fa nf fc, .slice ca 0 cc, .int .i64 lk, .slice ka nk kc] := by rw [← hW9]; exact (((Blk.mk w [.slice fa nf fc, .slice ca 0 cc, .int .i64 lk, .slice ka nk kc] _ _ rfl).below (below_alloc1 _ _)).below (below_alloc1 _ _)).below (by repeat (first | exact Below.refl _ _ | refine below_drewN ?_ _ | refine Below.drew ?_))
    have b1 : Blk W9 (w.heap.size + 1) [.int .i64 15, .int .i64 a, .int .i64 b, .int .i64 c] := by rw [← hW9]; exact ((Blk.mk (w.alloc (.cells #[.slice fa nf fc, .slice ca 0 cc, .int .i64 lk, .slice ka nk kc] 26)) [.int .i64 15, .int .i64 a, .int .i64 b, .int .i64 c] 43 (w.heap.size + 1) (by simp)).below (below_alloc1 _ _)).below (by repeat (first | exact Below.refl _ _ | refine below_drewN ?_ _ | refine Below.drew ?_))
    have b2 : Blk W9 (w.heap.size + 1 + 1) [.int .i64 0, .int .i64 0, .int .i64 0, .int .i64 0] := by rw [← hW9]; exact (Blk.mk ((w.alloc (.cells #[.slice fa nf fc, .slice ca 0 cc, .int .i64 lk, .slice ka nk kc] 26)).alloc (.cells #[.int .i64 15, .int .i64 a, .int .i64 b, .int .i64 c] 43)) [.int .i64 0, .int .i64 0, .int .i64 0, .int .i64 0] 43 (w.heap.size + 1 + 1) (by simp)).below (by repeat (first | exact Below.refl _ _ | refine below_drewN ?_ _ | refine Below.drew ?_))
    have b3 : Below w.heap.size w W9 := by rw [← hW9]; repeat (first | exact Below.refl _ _ | refine below_drewN ?_ _ | refine Below.drew ?_ | refine Below.alloc ?_ (by first | (simp; done) | (simp; omega)) _)
    clear hW9
    obtain ⟨c00, -⟩ := b0 0 _ rfl
    obtain ⟨c01, -⟩ := b0 1 _ rfl
    obtain ⟨c02, -⟩ := b0 2 _ rfl
    obtain ⟨c03, -⟩ := b0 3 _ rfl
    obtain ⟨c10, -⟩ := b1 0 _ rfl
    obtain ⟨c11, -⟩ := b1 1 _ rfl
    obtain ⟨c12, -⟩ := b1 2 _ rfl
    obtain ⟨c13, -⟩ := b1 3 _ rfl
    obtain ⟨c20, d20⟩ := b2 0 _ rfl
    obtain ⟨c21, d21⟩ := b2 1 _ rfl
    obtain ⟨c22, d22⟩ := b2 2 _ rfl
    obtain ⟨c23, d23⟩ := b2 3 _ rfl
    have HZ9 := Lib.hid b2
    have HB9 := Lib.hid b3
    clear b0 b1 b2 b3
    go_wp2_with fail
    have e := ins_get ((((((HZ9.out)).set 0 (.int .i64 (0))).set 1 (.int .i64 (0))).set 2 (.int .i64 (0))).set 3 (.int .i64 (0)))
    exact bodyPost_ret (results_cell Tryd.results11 _ ⟨w.heap.size + 1 + 1, 0, none⟩ rfl e) rfl (FitP.mk (0) (0) (0) (0) (insI_zero (by unfold i64b; omega) (by omega) (by omega) (by first | (simp [goodB]; done) | (simp [goodB, inn]; done) | (simp [goodB, inn]; omega))) (by unfold i64b; omega) (HB9.out.trans (by repeat (first | exact Below.refl _ _ | refine Below.setCell ?_ (by simp; omega) _ | refine Below.drew ?_ | refine below_drewN ?_ _))))
  · skip
    have rx := modI_range a nc (by omega)
    have hz2 : ¬ (nc : Int) = 0 := by omega
    go_enter Tryd.func11, Tryd.ntmps11
    go_wp2_with fail
    refine (mod_any _ _ _ (by omega)).mono ?_
    rintro e w1 ⟨rfl, rfl⟩
    rw [HKK.out]
    go_wp2_with fail
    go_quiet ((go_at_call 9; exact Calls.quiet_of_same (mod_any _ _ _ (by omega))))
    generalize modI a 8 = A8 at *
    generalize modI b 8 = B8 at *
    generalize modI c 8 = C8 at *
    go_wp2_with fail
    go_quiet (fail)
    generalize hW9 : World.drewN _ _ = W9
    have b0 : Blk W9 w.heap.size [.slice fa nf fc, .slice ca nc cc, .int .i64 lk, .slice ka nk kc] := by rw [← hW9]; exact (((Blk.mk w [.slice fa nf fc, .slice ca nc cc, .int .i64 lk, .slice ka nk kc] _ _ rfl).below (below_alloc1 _ _)).below (below_alloc1 _ _)).below (by repeat (first | exact Below.refl _ _ | refine below_drewN ?_ _ | refine Below.drew ?_))
    have b1 : Blk W9 (w.heap.size + 1) [.int .i64 15, .int .i64 a, .int .i64 b, .int .i64 c] := by rw [← hW9]; exact ((Blk.mk (w.alloc (.cells #[.slice fa nf fc, .slice ca nc cc, .int .i64 lk, .slice ka nk kc] 26)) [.int .i64 15, .int .i64 a, .int .i64 b, .int .i64 c] 43 (w.heap.size + 1) (by simp)).below (below_alloc1 _ _)).below (by repeat (first | exact Below.refl _ _ | refine below_drewN ?_ _ | refine Below.drew ?_))
    have b2 : Blk W9 (w.heap.size + 1 + 1) [.int .i64 0, .int .i64 0, .int .i64 0, .int .i64 0] := by rw [← hW9]; exact (Blk.mk ((w.alloc (.cells #[.slice fa nf fc, .slice ca nc cc, .int .i64 lk, .slice ka nk kc] 26)).alloc (.cells #[.int .i64 15, .int .i64 a, .int .i64 b, .int .i64 c] 43)) [.int .i64 0, .int .i64 0, .int .i64 0, .int .i64 0] 43 (w.heap.size + 1 + 1) (by simp)).below (by repeat (first | exact Below.refl _ _ | refine below_drewN ?_ _ | refine Below.drew ?_))
    have b3 : Below w.heap.size w W9 := by rw [← hW9]; repeat (first | exact Below.refl _ _ | refine below_drewN ?_ _ | refine Below.drew ?_ | refine Below.alloc ?_ (by first | (simp; done) | (simp; omega)) _)
    clear hW9
    obtain ⟨c00, -⟩ := b0 0 _ rfl
    obtain ⟨c01, -⟩ := b0 1 _ rfl
    obtain ⟨c02, -⟩ := b0 2 _ rfl
    obtain ⟨c03, -⟩ := b0 3 _ rfl
    obtain ⟨c10, -⟩ := b1 0 _ rfl
    obtain ⟨c11, -⟩ := b1 1 _ rfl
    obtain ⟨c12, -⟩ := b1 2 _ rfl
    obtain ⟨c13, -⟩ := b1 3 _ rfl
    obtain ⟨c20, d20⟩ := b2 0 _ rfl
    obtain ⟨c21, d21⟩ := b2 1 _ rfl
    obtain ⟨c22, d22⟩ := b2 2 _ rfl
    obtain ⟨c23, d23⟩ := b2 3 _ rfl
    have HZ9 := Lib.hid b2
    have HB9 := Lib.hid b3
    have HB1 := Lib.hid b1
    clear b0 b1 b2 b3
    go_upto_region 30 with fail
    have hl9 : w.heap.size + 1 + 1 < W9.heap.size := World.block_lt_of_cell? W9 _ c20
    go_cut [13] (fun s wx => Hid (FitC W9 15 (modI a nc) w.heap.size [.int .i64 15, .int .i64 a, .int .i64 b, .int .i64 c] [.int .i64 0, .int .i64 0, .int .i64 0, .int .i64 0] s wx))
    case first =>
      have hp9 : ∀ wx, Below W9.heap.size W9 wx → wx.cell? ⟨w.heap.size + 1, 0, none⟩ = some (.int .i64 15) ∧ wx.cell? ⟨w.heap.size + 1, 1, none⟩ = some (.int .i64 a) := fun wx hb => ⟨cell_below c10 hb, cell_below c11 hb⟩
      have HP9 := Lib.hid hp9
      clear hp9
      have hl8 : w.heap.size + 1 < W9.heap.size := World.block_lt_of_cell? W9 _ c10
      go_wp2_with fail
      refine wp_region_lexH (fun wx => wx.cell? ⟨w.heap.size + 1, 0, none⟩ = some (.int .i64 15) ∧ wx.cell? ⟨w.heap.size + 1, 1, none⟩ = some (.int .i64 a)) 9 (Array.replicate 9 false) (by kernel_rfl) (by kernel_rfl) ?_
      refine wpAnyH_seg 0 5 _ #[true, true, true, true, true, false, false, false, false] 4 (by kernel_rfl) noPanic_put (HP9.out _ (by repeat (first | exact Below.refl _ _ | refine Below.setCell ?_ (by simp) _ | refine Below.drew ?_ | refine below_drewN ?_ _ | refine Below.alloc ?_ (by simp) _))) (by kernel_rfl) ?_
      simp only [List.take_succ_cons, List.take_zero, List.drop_zero]
      repeat (first
          | (refine wpSegH_no (by rfl) ?_; simp only [Act.put, List.setIfInBounds_toArray, List.set_cons_zero, List.set_cons_succ])
          | (refine wpSegH_yes (by rfl) ?_; apply Exists.intro; apply And.intro; (· (intro wx hS; (try dsimp only at hS); go_simp; first | done | with_reducible rfl)); simp only [Act.put, List.setIfInBounds_toArray, List.set_cons_zero, List.set_cons_succ]))
      refine wpSegH_nil ?_
      refine wpAnyH_two 5 7 _ #[true, true, true, true, true, true, false, false, false] #[true, true, true, true, true, false, false, true, false] 3 (by kernel_rfl) (fun K hK => ?_) (fun K hK => ?_)
      · have HK2 := Lib.hid hK
        clear hK
        simp only [List.drop_succ_cons, List.drop_zero]
        refine headH_mk (by rfl) ?_
        go_simp
        refine (mod_any _ _ _ (by omega)).mono ?_
        rintro e w5 ⟨rfl, rfl⟩
        refine HK2.out _ _ (HP9.out _ (by repeat (first | exact Below.refl _ _ | refine Below.setCell ?_ (by simp) _ | refine Below.drew ?_ | refine below_drewN ?_ _ | refine Below.alloc ?_ (by simp) _))) ?_
        clear HK2 K
        refine wpAnyH_seg 6 1 _ #[true, true, true, true, true, true, true, false, false] 2 (by kernel_rfl) noPanic_put (HP9.out _ (by repeat (first | exact Below.refl _ _ | refine Below.setCell ?_ (by simp) _ | refine Below.drew ?_ | refine below_drewN ?_ _ | refine Below.alloc ?_ (by simp) _))) (by kernel_rfl) ?_
        simp only [List.take_succ_cons, List.take_zero, List.drop_succ_cons, List.drop_zero]
        repeat (first
            | (refine wpSegH_no (by rfl) ?_; simp only [Act.put, List.setIfInBounds_toArray, List.set_cons_zero, List.set_cons_succ])
            | (refine wpSegH_yes (by rfl) ?_; apply Exists.intro; apply And.intro; (· (intro wx hS; (try dsimp only at hS); go_simp; first | done | with_reducible rfl)); simp only [Act.put, List.setIfInBounds_toArray, List.set_cons_zero, List.set_cons_succ]))
        refine wpSegH_nil ?_
        refine wpAnyH_one 7 _ #[true, true, true, true, true, true, true, true, false] 1 (by kernel_rfl) (fun K hK => ?_)
        have HK2 := Lib.hid hK
        clear hK
        simp only [List.drop_succ_cons, List.drop_zero]
        refine headH_mk (by rfl) ?_
        go_simp
        refine HK2.out _ _ (HP9.out _ (by repeat (first | exact Below.refl _ _ | refine Below.setCell ?_ (by simp) _ | refine Below.drew ?_ | refine below_drewN ?_ _ | refine Below.alloc ?_ (by simp) _))) ?_
        clear HK2 K
        refine wpAnyH_one 8 _ #[true, true, true, true, true, true, true, true, true] 0 (by kernel_rfl) (fun K hK => ?_)
        have HK2 := Lib.hid hK
        clear hK
        simp only [List.drop_succ_cons, List.drop_zero]
        refine headH_mk (by rfl) ?_
        go_simp
        refine HK2.out _ _ (HP9.out _ (by repeat (first | exact Below.refl _ _ | refine Below.setCell ?_ (by simp) _ | refine Below.drew ?_ | refine below_drewN ?_ _ | refine Below.alloc ?_ (by simp) _))) ?_
        clear HK2 K
        refine wpAnyH_done (by kernel_rfl) (NoPanic.normal ?_) _
        go_wp2_with fail
        go_meet
        exact Lib.hid ((FitC.a hl9 HB1.out HZ9.out (Below.refl _ _)).step (below_drew1 _))
      · have HK2 := Lib.hid hK
        clear hK
        simp only [List.drop_succ_cons, List.drop_zero]
        refine headH_mk (by rfl) ?_
        go_simp
        refine HK2.out _ _ (HP9.out _ (by repeat (first | exact Below.refl _ _ | refine Below.setCell ?_ (by simp) _ | refine Below.drew ?_ | refine below_drewN ?_ _ | refine Below.alloc ?_ (by simp) _))) ?_
        clear HK2 K
        refine wpAnyH_one 5 _ #[true, true, true, true, true, true, false, true, false] 2 (by kernel_rfl) (fun K hK => ?_)
        have HK2 := Lib.hid hK
        clear hK
        simp only [List.drop_succ_cons, List.drop_zero]
        refine headH_mk (by rfl) ?_
        go_simp
        refine (mod_any _ _ _ (by omega)).mono ?_
        rintro e w5 ⟨rfl, rfl⟩
        refine HK2.out _ _ (HP9.out _ (by repeat (first | exact Below.refl _ _ | refine Below.setCell ?_ (by simp) _ | refine Below.drew ?_ | refine below_drewN ?_ _ | refine Below.alloc ?_ (by simp) _))) ?_
        clear HK2 K
        refine wpAnyH_seg 6 1 _ #[true, true, true, true, true, true, true, true, false] 1 (by kernel_rfl) noPanic_put (HP9.out _ (by repeat (first | exact Below.refl _ _ | refine Below.setCell ?_ (by simp) _ | refine Below.drew ?_ | refine below_drewN ?_ _ | refine Below.alloc ?_ (by simp) _))) (by kernel_rfl) ?_
        simp only [List.take_succ_cons, List.take_zero, List.drop_succ_cons, List.drop_zero]
        repeat (first
            | (refine wpSegH_no (by rfl) ?_; simp only [Act.put, List.setIfInBounds_toArray, List.set_cons_zero, List.set_cons_succ])
            | (refine wpSegH_yes (by rfl) ?_; apply Exists.intro; apply And.intro; (· (intro wx hS; (try dsimp only at hS); go_simp; first | done | with_reducible rfl)); simp only [Act.put, List.setIfInBounds_toArray, List.set_cons_zero, List.set_cons_succ]))
        refine wpSegH_nil ?_
        refine wpAnyH_one 8 _ #[true, true, true, true, true, true, true, true, true] 0 (by kernel_rfl) (fun K hK => ?_)
        have HK2 := Lib.hid hK
        clear hK
        simp only [List.drop_succ_cons, List.drop_zero]
        refine headH_mk (by rfl) ?_
        go_simp
        refine HK2.out _ _ (HP9.out _ (by repeat (first | exact Below.refl _ _ | refine Below.setCell ?_ (by simp) _ | refine Below.drew ?_ | refine below_drewN ?_ _ | refine Below.alloc ?_ (by simp) _))) ?_
        clear HK2 K
        refine wpAnyH_done (by kernel_rfl) (NoPanic.normal ?_) _
        go_wp2_with fail
        go_meet
        exact Lib.hid ((FitC.a hl9 HB1.out HZ9.out (Below.refl _ _)).step (below_drew1 _))
    case rest =>
      have hq0 := hcut.out
      obtain ⟨q, rfl, e0, e1, e2, e3, e4⟩ := hq0
      generalize modI a ↑nc = X at *
      obtain ⟨p0, u0⟩ := e0 0 _ rfl
      obtain ⟨p1, u1⟩ := e0 1 _ rfl
      obtain ⟨p2, u2⟩ := e0 2 _ rfl
      obtain ⟨p3, u3⟩ := e0 3 _ rfl
      obtain ⟨x0, -⟩ := e2 0 _ rfl
      obtain ⟨y0, t0⟩ := e3 0 _ rfl
      obtain ⟨y1, t1⟩ := e3 1 _ rfl
      obtain ⟨y2, t2⟩ := e3 2 _ rfl
      obtain ⟨y3, t3⟩ := e3 3 _ rfl
      have hne1 : w.heap.size + 1 ≠ q := by omega
      have hne2 : w.heap.size + 1 + 1 ≠ q := by omega
      have E0 := Lib.hid e0
      have E3 := Lib.hid e3
      have E4 := Lib.hid e4
      have HQ := Lib.hid e1
      clear e0 e1 e2 e3 e4 hcut c00 c01 c02 c03 c10 c11 c12 c13 c20 c21 c22 c23 d20 d21 d22 d23 hl9
      go_wp2_with fail
      have e := ins_get (w := _) (((E3.out.set 0 (.int .i64 (15))).set 1 (.int .i64 (X))).set 2 (.int .i64 (0)) |>.set 3 (.int .i64 (0)))
      exact bodyPost_ret (results_cell Tryd.results11 _ ⟨w.heap.size + 1 + 1, 0, none⟩ rfl e) rfl (FitP.mk (15) (X) (0) (0) (insI_zero (by unfold i64b; omega) (by omega) (by omega) (by first | (simp [goodB]; done) | (simp [goodB, inn]; done) | (simp [goodB, inn]; omega))) (by unfold i64b; omega) (by repeat (first | exact below_on HB9.out E4.out | refine Below.setCell ?_ (by first | (simp; omega) | (have := HQ.out; simp; omega)) _)))
end Go.Proofs.YtjanangcfgmdeaaDoor
