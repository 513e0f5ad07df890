/-
  Texts put together: SdChk, W18Checks.
-/
import Derived.Test.YtodjgipiomnnfaaGreatMv8
set_option maxRecDepth 100000
set_option maxHeartbeats 16000000
open Go Go.RowKit
set_option linter.unusedVariables false
namespace Go.Proofs.YtodjgipiomnnfaaGreat
def cfW (p m r s : Int) : Bool := decide (1 ≤ p ∧ p ≤ 64 ∧ 1 ≤ m ∧ m ≤ 64 ∧ 2 ≤ r ∧ r ≤ 1024 ∧ 1 ≤ s ∧ s ≤ 1024)
def cfE (p m r s : Int) : Int := if cfW p m r s then 0 else 4
theorem cfE_ok {p m r s : Int} (h : 1 ≤ p ∧ p ≤ 64 ∧ 1 ≤ m ∧ m ≤ 64 ∧ 2 ≤ r ∧ r ≤ 1024 ∧ 1 ≤ s ∧ s ≤ 1024) : cfE p m r s = 0 := by simp [cfE, cfW, h]
theorem cfE_no {p m r s : Int} (h : ¬ (1 ≤ p ∧ p ≤ 64 ∧ 1 ≤ m ∧ m ≤ 64 ∧ 2 ≤ r ∧ r ≤ 1024 ∧ 1 ≤ s ∧ s ≤ 1024)) : cfE p m r s = 4 := by
 have : cfW p m r s = false := by simpa only [cfW, decide_eq_false_iff_not] using h
 simp [cfE, this]
theorem within_any (w : World) (v l h : Int) (b : Bool) (e : b = (decide (l ≤ v) && decide (v ≤ h))) :
  Calls Tryz.prog 24 #[.int .i64 v, .int .i64 l, .int .i64 h] w fun r w' => r = .returned (.bool b) ∧ w' = w := by
 subst e
 by_cases h1 : l ≤ v
 ·by_cases h2 : v ≤ h
  ·go_enter Tryz.func24, Tryz.ntmps24
   go_wp2
   go_ret
   exact ⟨by simp [h1, h2], rfl⟩
  ·go_enter Tryz.func24, Tryz.ntmps24
   go_wp2
   go_ret
   exact ⟨by simp [h1, h2], rfl⟩
 ·go_enter Tryz.func24, Tryz.ntmps24
  go_wp2
  go_ret
  exact ⟨by simp; omega, rfl⟩
theorem within_yes (w : World) (v l h : Int) (h1 : l ≤ v) (h2 : v ≤ h) : Calls Tryz.prog 24 #[.int .i64 v, .int .i64 l, .int .i64 h] w fun r w' => r = .returned (.bool true) ∧ w' = w := within_any w v l h true (by simp [h1, h2])
theorem within_no (w : World) (v l h : Int) (h1 : ¬ (l ≤ v ∧ v ≤ h)) : Calls Tryz.prog 24 #[.int .i64 v, .int .i64 l, .int .i64 h] w fun r w' => r = .returned (.bool false) ∧ w' = w := within_any w v l h false (by
 by_cases h2 : l ≤ v
 ·have : ¬ v ≤ h := fun h3 => h1 ⟨h2, h3⟩
  simp [this]
 ·simp [h2])
theorem check_any (w : World) (p m r s : Int) :
  Calls Tryz.prog 8 #[.agg #[.int .i64 p, .int .i64 m, .int .i64 r, .int .i64 s]] w fun e w' => e = .returned (.int .i64 (cfE p m r s)) ∧ Below w.heap.size w w' := by
 have HB := Lib.hid (below_alloc1 w (.cells #[.int .i64 p, .int .i64 m, .int .i64 r, .int .i64 s] 26))
 by_cases h1 : 1 ≤ p ∧ p ≤ 64
 ·have c1 := Lib.hid (fun wx => within_yes wx p 1 64 h1.1 h1.2)
  by_cases h2 : 1 ≤ m ∧ m ≤ 64
  ·have c2 := Lib.hid (fun wx => within_yes wx m 1 64 h2.1 h2.2)
   by_cases h3 : 2 ≤ r ∧ r ≤ 1024
   ·have c3 := Lib.hid (fun wx => within_yes wx r 2 1024 h3.1 h3.2)
    by_cases h4 : 1 ≤ s ∧ s ≤ 1024
    ·have c4 := Lib.hid (fun wx => within_yes wx s 1 1024 h4.1 h4.2)
     rw [cfE_ok ⟨h1.1, h1.2, h2.1, h2.2, h3.1, h3.2, h4.1, h4.2⟩]
     clear h1 h2 h3 h4
     go_enter Tryz.func8, Tryz.ntmps8
     go_wp2_with fail
     refine (c1.out _).mono ?_
     rintro e w1 ⟨rfl, rfl⟩
     go_wp2_with fail
     refine (c2.out _).mono ?_
     rintro e w1 ⟨rfl, rfl⟩
     go_wp2_with fail
     refine (c3.out _).mono ?_
     rintro e w1 ⟨rfl, rfl⟩
     go_wp2_with fail
     refine (c4.out _).mono ?_
     rintro e w1 ⟨rfl, rfl⟩
     go_wp2
     go_ret
     exact ⟨rfl, HB.out⟩
    ·have c4 := Lib.hid (fun wx => within_no wx s 1 1024 h4)
     rw [cfE_no (fun h => h4 ⟨h.2.2.2.2.2.2.1, h.2.2.2.2.2.2.2⟩)]
     clear h1 h2 h3 h4
     go_enter Tryz.func8, Tryz.ntmps8
     go_wp2_with fail
     refine (c1.out _).mono ?_
     rintro e w1 ⟨rfl, rfl⟩
     go_wp2_with fail
     refine (c2.out _).mono ?_
     rintro e w1 ⟨rfl, rfl⟩
     go_wp2_with fail
     refine (c3.out _).mono ?_
     rintro e w1 ⟨rfl, rfl⟩
     go_wp2_with fail
     refine (c4.out _).mono ?_
     rintro e w1 ⟨rfl, rfl⟩
     go_wp2
     go_ret
     exact ⟨rfl, HB.out⟩
   ·have c3 := Lib.hid (fun wx => within_no wx r 2 1024 h3)
    rw [cfE_no (fun h => h3 ⟨h.2.2.2.2.1, h.2.2.2.2.2.1⟩)]
    clear h1 h2 h3
    go_enter Tryz.func8, Tryz.ntmps8
    go_wp2_with fail
    refine (c1.out _).mono ?_
    rintro e w1 ⟨rfl, rfl⟩
    go_wp2_with fail
    refine (c2.out _).mono ?_
    rintro e w1 ⟨rfl, rfl⟩
    go_wp2_with fail
    refine (c3.out _).mono ?_
    rintro e w1 ⟨rfl, rfl⟩
    go_wp2
    go_ret
    exact ⟨rfl, HB.out⟩
  ·have c2 := Lib.hid (fun wx => within_no wx m 1 64 h2)
   rw [cfE_no (fun h => h2 ⟨h.2.2.1, h.2.2.2.1⟩)]
   clear h1 h2
   go_enter Tryz.func8, Tryz.ntmps8
   go_wp2_with fail
   refine (c1.out _).mono ?_
   rintro e w1 ⟨rfl, rfl⟩
   go_wp2_with fail
   refine (c2.out _).mono ?_
   rintro e w1 ⟨rfl, rfl⟩
   go_wp2
   go_ret
   exact ⟨rfl, HB.out⟩
 ·have c1 := Lib.hid (fun wx => within_no wx p 1 64 h1)
  rw [cfE_no (fun h => h1 ⟨h.1, h.2.1⟩)]
  clear h1
  go_enter Tryz.func8, Tryz.ntmps8
  go_wp2_with fail
  refine (c1.out _).mono ?_
  rintro e w1 ⟨rfl, rfl⟩
  go_wp2
  go_ret
  exact ⟨rfl, HB.out⟩
theorem rcheck_any (w : World) (p m r s : Int) :
  Calls Tryz.prog 9 #[.agg #[.int .i64 p, .int .i64 m, .int .i64 r, .int .i64 s]] w fun e w' => e = .returned (.int .i64 (cfE p m r s)) ∧ Below w.heap.size w w' := by
 have HB := Lib.hid (below_alloc1 w (.cells #[.int .i64 p, .int .i64 m, .int .i64 r, .int .i64 s] 23))
 by_cases h1 : p < 1
 ·rw [cfE_no (by omega)]
  go_enter Tryz.func9, Tryz.ntmps9
  go_wp2
  go_ret
  exact ⟨rfl, HB.out⟩
 by_cases h2 : 64 < p
 ·rw [cfE_no (by omega)]
  go_enter Tryz.func9, Tryz.ntmps9
  go_wp2
  go_ret
  exact ⟨rfl, HB.out⟩
 by_cases h3 : m < 1
 ·rw [cfE_no (by omega)]
  go_enter Tryz.func9, Tryz.ntmps9
  go_wp2
  go_ret
  exact ⟨rfl, HB.out⟩
 by_cases h4 : 64 < m
 ·rw [cfE_no (by omega)]
  go_enter Tryz.func9, Tryz.ntmps9
  go_wp2
  go_ret
  exact ⟨rfl, HB.out⟩
 by_cases h5 : r < 2
 ·rw [cfE_no (by omega)]
  go_enter Tryz.func9, Tryz.ntmps9
  go_wp2
  go_ret
  exact ⟨rfl, HB.out⟩
 by_cases h6 : 1024 < r
 ·rw [cfE_no (by omega)]
  go_enter Tryz.func9, Tryz.ntmps9
  go_wp2
  go_ret
  exact ⟨rfl, HB.out⟩
 by_cases h7 : s < 1
 ·rw [cfE_no (by omega)]
  go_enter Tryz.func9, Tryz.ntmps9
  go_wp2
  go_ret
  exact ⟨rfl, HB.out⟩
 by_cases h8 : 1024 < s
 ·rw [cfE_no (by omega)]
  go_enter Tryz.func9, Tryz.ntmps9
  go_wp2
  go_ret
  exact ⟨rfl, HB.out⟩
 rw [cfE_ok (by omega)]
 go_enter Tryz.func9, Tryz.ntmps9
 go_wp2
 go_ret
 exact ⟨rfl, HB.out⟩
theorem some1_any (w : World) (x : Int) (m n : Nat) (hm : 0 < m) (hm2 : m ≤ 1000) (hn : (bits BinOp.and IntKind.i64 x 255).tmod (m : Int) = (n : Int)) (hn2 : n ≤ 255) :
  Calls Tryz.prog 25 #[.int .i64 x, .int .i64 (m : Int)] w fun r w' => r = .returned (.int .i64 (n : Int)) ∧ w' = w := by
 have hz : (m : Int) ≠ 0 := by omega
 have hw : IntKind.i64.wrap (n : Int) = n := by rw [IntKind.wrap_i64]; omega
 go_enter Tryz.func25, Tryz.ntmps25
 go_wp2
 go_ret
 exact ⟨rfl, rfl⟩
def SmC (x : Int) (m n : Nat) : Prop := 0 < m ∧ m ≤ 1000 ∧ (bits BinOp.and IntKind.i64 x 255).tmod (m : Int) = (n : Int) ∧ n < m ∧ n ≤ 255
theorem smC_any {x : Int} {m n : Nat} (h : SmC x m n) (w : World) : Calls Tryz.prog 25 #[.int .i64 x, .int .i64 (m : Int)] w fun r w' => r = .returned (.int .i64 (n : Int)) ∧ w' = w :=
 some1_any w x m n h.1 h.2.1 h.2.2.1 h.2.2.2.2
theorem smC_of (x : Int) (m : Nat) (hm : 0 < m) (hm2 : m ≤ 1000) : ∃ n, SmC x m n := by
 obtain ⟨n, h1, h2, h3⟩ := small_of x m hm
 exact ⟨n, hm, hm2, h1, h2, h3⟩
theorem cfg_get {w : World} {q : Nat} {a b c d : Int} (e0 : w.cell? ⟨q, 0, none⟩ = some (.int .i64 a)) (e1 : w.cell? ⟨q, 1, none⟩ = some (.int .i64 b)) (e2 : w.cell? ⟨q, 2, none⟩ = some (.int .i64 c)) (e3 : w.cell? ⟨q, 3, none⟩ = some (.int .i64 d)) :
  (loadVar 23 ⟨q, 0, none⟩).run Tryz.prog w = .ok (.agg #[.int .i64 a, .int .i64 b, .int .i64 c, .int .i64 d]) w := by
 simp [go_sem, e0, e1, e2, e3]
theorem some18_any (w : World) (p m r s : Int) (a b c d : Nat) (ha : SmC p 5 a) (hb : SmC m 5 b) (hc : SmC r 5 c) (hd : SmC s 12 d) :
  Calls Tryz.prog 10 #[.agg #[.int .i64 p, .int .i64 m, .int .i64 r, .int .i64 s]] w fun e w' =>
   e = .returned (.agg #[.int .i64 (1 + (a : Int)), .int .i64 (1 + (b : Int)), .int .i64 (2 + (c : Int)), .int .i64 (1 + (d : Int))]) ∧ Below w.heap.size w w' := by
 have a5 := ha.2.2.2.1
 have b5 := hb.2.2.2.1
 have c5 := hc.2.2.2.1
 have d5 := hd.2.2.2.1
 have ka := Lib.hid (smC_any ha)
 have kb := Lib.hid (smC_any hb)
 have kc := Lib.hid (smC_any hc)
 have kd := Lib.hid (smC_any hd)
 clear ha hb hc hd
 go_enter Tryz.func10, Tryz.ntmps10
 go_upto_region 2 with fail
 have o0 : Own w ((w.alloc (.cells #[.int .i64 p, .int .i64 m, .int .i64 r, .int .i64 s] 23)).alloc (.cells #[.int .i64 0, .int .i64 0, .int .i64 0, .int .i64 0] 23))
   [CelA (w.heap.size + 1) [.int .i64 0, .int .i64 0, .int .i64 0, .int .i64 0], CelA w.heap.size [.int .i64 p, .int .i64 m, .int .i64 r, .int .i64 s]] := by
  have h := ((Own.nil (Below.refl _ w)).alloc [.int .i64 p, .int .i64 m, .int .i64 r, .int .i64 s] 23 (b := w.heap.size) rfl).alloc [.int .i64 0, .int .i64 0, .int .i64 0, .int .i64 0] 23 (b := w.heap.size + 1) (by simp)
  exact h
 generalize ((w.alloc (.cells #[.int .i64 p, .int .i64 m, .int .i64 r, .int .i64 s] 23)).alloc (.cells #[.int .i64 0, .int .i64 0, .int .i64 0, .int .i64 0] 23)) = w1 at *
 generalize w.heap.size + 1 = q1 at *
 generalize hq : w.heap.size = q at *
 have HQ := Lib.hid hq
 clear hq
 have o1 := o0.step (below_drew1 w1)
 clear o0
 have SB : Hid (∀ wx : World, Own w wx [CelA q1 [.int .i64 0, .int .i64 0, .int .i64 0, .int .i64 0], CelA q [.int .i64 p, .int .i64 m, .int .i64 r, .int .i64 s]] → wx.cell? ⟨q, 0, none⟩ = some (.int .i64 p) ∧ wx.cell? ⟨q, 1, none⟩ = some (.int .i64 m) ∧ wx.cell? ⟨q, 2, none⟩ = some (.int .i64 r) ∧ wx.cell? ⟨q, 3, none⟩ = some (.int .i64 s)) :=
  Lib.hid (fun wx h => ⟨(h.cel 1 rfl 0 _ rfl).1, (h.cel 1 rfl 1 _ rfl).1, (h.cel 1 rfl 2 _ rfl).1, (h.cel 1 rfl 3 _ rfl).1⟩)
 refine wp_region_lexZ (fun wx => wx.cell? ⟨q, 0, none⟩ = some (.int .i64 p) ∧ wx.cell? ⟨q, 1, none⟩ = some (.int .i64 m) ∧ wx.cell? ⟨q, 2, none⟩ = some (.int .i64 r) ∧ wx.cell? ⟨q, 3, none⟩ = some (.int .i64 s)) 22 (Array.replicate 22 false) (by kernel_rfl) (by kernel_rfl) ?_
 generalize w1.drew = w2 at *
 refine wpAnyZ_seg 0 3 _ #[true, true, true, false, false, false, false, false, false, false, false, false, false, false, false, false, false, false, false, false, false, false] 19 (by kernel_rfl) noPanic_put (SB.out _ o1) (by kernel_rfl) ?_
 simp only [List.take_succ_cons, List.take_zero, List.drop_zero]
 repeat ((first | refine wpSegH_no (by rfl) ?_ | (refine wpSegH_yes (by rfl) ?_; apply Exists.intro; apply And.intro; (· (intro wx hS; (try dsimp only at hS); go_simp; first | done | with_reducible rfl)))); simp only [Act.put, List.setIfInBounds_toArray, List.set_cons_zero, List.set_cons_succ])
 refine wpSegH_nil ?_
 refine wpAnyZ_seg 5 3 _ #[true, true, true, false, false, true, true, true, false, false, false, false, false, false, false, false, false, false, false, false, false, false] 16 (by kernel_rfl) noPanic_put (SB.out _ o1) (by kernel_rfl) ?_
 simp only [List.take_succ_cons, List.take_zero, List.drop_succ_cons, List.drop_zero]
 repeat ((first | refine wpSegH_no (by rfl) ?_ | (refine wpSegH_yes (by rfl) ?_; apply Exists.intro; apply And.intro; (· (intro wx hS; (try dsimp only at hS); go_simp; first | done | with_reducible rfl)))); simp only [Act.put, List.setIfInBounds_toArray, List.set_cons_zero, List.set_cons_succ])
 refine wpSegH_nil ?_
 refine wpAnyZ_seg 10 3 _ #[true, true, true, false, false, true, true, true, false, false, true, true, true, false, false, false, false, false, false, false, false, false] 13 (by kernel_rfl) noPanic_put (SB.out _ o1) (by kernel_rfl) ?_
 simp only [List.take_succ_cons, List.take_zero, List.drop_succ_cons, List.drop_zero]
 repeat ((first | refine wpSegH_no (by rfl) ?_ | (refine wpSegH_yes (by rfl) ?_; apply Exists.intro; apply And.intro; (· (intro wx hS; (try dsimp only at hS); go_simp; first | done | with_reducible rfl)))); simp only [Act.put, List.setIfInBounds_toArray, List.set_cons_zero, List.set_cons_succ])
 refine wpSegH_nil ?_
 refine wpAnyZ_seg 15 3 _ #[true, true, true, false, false, true, true, true, false, false, true, true, true, false, false, true, true, true, false, false, false, false] 10 (by kernel_rfl) noPanic_put (SB.out _ o1) (by kernel_rfl) ?_
 simp only [List.take_succ_cons, List.take_zero, List.drop_succ_cons, List.drop_zero]
 repeat ((first | refine wpSegH_no (by rfl) ?_ | (refine wpSegH_yes (by rfl) ?_; apply Exists.intro; apply And.intro; (· (intro wx hS; (try dsimp only at hS); go_simp; first | done | with_reducible rfl)))); simp only [Act.put, List.setIfInBounds_toArray, List.set_cons_zero, List.set_cons_succ])
 refine wpSegH_nil ?_
 refine wpAnyZ_one 3 _ #[true, true, true, true, false, true, true, true, false, false, true, true, true, false, false, true, true, true, false, false, false, false] 9 (by kernel_rfl) (fun K hK => ?_)
 have HKK := Lib.hid hK
 clear hK
 simp only [List.drop_succ_cons, List.drop_zero]
 refine headH_mk (by rfl) ?_
 go_simp
 refine (ka.out _).mono ?_
 rintro e w3 ⟨rfl, rfl⟩
 refine HKK.out _ _ (SB.out _ o1) ?_
 clear HKK K
 refine wpAnyZ_seg 4 1 _ #[true, true, true, true, true, true, true, true, false, false, true, true, true, false, false, true, true, true, false, false, false, false] 8 (by kernel_rfl) noPanic_put (SB.out _ o1) (by kernel_rfl) ?_
 simp only [List.take_succ_cons, List.take_zero, List.drop_succ_cons, List.drop_zero]
 repeat ((first | refine wpSegH_no (by rfl) ?_ | (refine wpSegH_yes (by rfl) ?_; apply Exists.intro; apply And.intro; (· (intro wx hS; (try dsimp only at hS); go_simp; first | done | with_reducible rfl)))); simp only [Act.put, List.setIfInBounds_toArray, List.set_cons_zero, List.set_cons_succ])
 refine wpSegH_nil ?_
 refine wpAnyZ_one 8 _ #[true, true, true, true, true, true, true, true, true, false, true, true, true, false, false, true, true, true, false, false, false, false] 7 (by kernel_rfl) (fun K hK => ?_)
 have HKK := Lib.hid hK
 clear hK
 simp only [List.drop_succ_cons, List.drop_zero]
 refine headH_mk (by rfl) ?_
 go_simp
 refine (kb.out _).mono ?_
 rintro e w3 ⟨rfl, rfl⟩
 refine HKK.out _ _ (SB.out _ o1) ?_
 clear HKK K
 refine wpAnyZ_seg 9 1 _ #[true, true, true, true, true, true, true, true, true, true, true, true, true, false, false, true, true, true, false, false, false, false] 6 (by kernel_rfl) noPanic_put (SB.out _ o1) (by kernel_rfl) ?_
 simp only [List.take_succ_cons, List.take_zero, List.drop_succ_cons, List.drop_zero]
 repeat ((first | refine wpSegH_no (by rfl) ?_ | (refine wpSegH_yes (by rfl) ?_; apply Exists.intro; apply And.intro; (· (intro wx hS; (try dsimp only at hS); go_simp; first | done | with_reducible rfl)))); simp only [Act.put, List.setIfInBounds_toArray, List.set_cons_zero, List.set_cons_succ])
 refine wpSegH_nil ?_
 refine wpAnyZ_one 13 _ #[true, true, true, true, true, true, true, true, true, true, true, true, true, true, false, true, true, true, false, false, false, false] 5 (by kernel_rfl) (fun K hK => ?_)
 have HKK := Lib.hid hK
 clear hK
 simp only [List.drop_succ_cons, List.drop_zero]
 refine headH_mk (by rfl) ?_
 go_simp
 refine (kc.out _).mono ?_
 rintro e w3 ⟨rfl, rfl⟩
 refine HKK.out _ _ (SB.out _ o1) ?_
 clear HKK K
 refine wpAnyZ_seg 14 1 _ #[true, true, true, true, true, true, true, true, true, true, true, true, true, true, true, true, true, true, false, false, false, false] 4 (by kernel_rfl) noPanic_put (SB.out _ o1) (by kernel_rfl) ?_
 simp only [List.take_succ_cons, List.take_zero, List.drop_succ_cons, List.drop_zero]
 repeat ((first | refine wpSegH_no (by rfl) ?_ | (refine wpSegH_yes (by rfl) ?_; apply Exists.intro; apply And.intro; (· (intro wx hS; (try dsimp only at hS); go_simp; first | done | with_reducible rfl)))); simp only [Act.put, List.setIfInBounds_toArray, List.set_cons_zero, List.set_cons_succ])
 refine wpSegH_nil ?_
 refine wpAnyZ_one 18 _ #[true, true, true, true, true, true, true, true, true, true, true, true, true, true, true, true, true, true, true, false, false, false] 3 (by kernel_rfl) (fun K hK => ?_)
 have HKK := Lib.hid hK
 clear hK
 simp only [List.drop_succ_cons, List.drop_zero]
 refine headH_mk (by rfl) ?_
 go_simp
 refine (kd.out _).mono ?_
 rintro e w3 ⟨rfl, rfl⟩
 refine HKK.out _ _ (SB.out _ o1) ?_
 clear HKK K
 refine wpAnyZ_seg 19 2 _ #[true, true, true, true, true, true, true, true, true, true, true, true, true, true, true, true, true, true, true, true, true, false] 1 (by kernel_rfl) noPanic_put (SB.out _ o1) (by kernel_rfl) ?_
 simp only [List.take_succ_cons, List.take_zero, List.drop_succ_cons, List.drop_zero]
 repeat ((first | refine wpSegH_no (by rfl) ?_ | (refine wpSegH_yes (by rfl) ?_; apply Exists.intro; apply And.intro; (· (intro wx hS; (try dsimp only at hS); go_simp; first | done | with_reducible rfl)))); simp only [Act.put, List.setIfInBounds_toArray, List.set_cons_zero, List.set_cons_succ])
 refine wpSegH_nil ?_
 obtain ⟨x0, y0⟩ := o1.cel 0 rfl 0 _ rfl
 obtain ⟨x1, y1⟩ := o1.cel 0 rfl 1 _ rfl
 obtain ⟨x2, y2⟩ := o1.cel 0 rfl 2 _ rfl
 obtain ⟨x3, y3⟩ := o1.cel 0 rfl 3 _ rfl
 have o2 := (((o1.set 0 (.int .i64 (1 + (a : Int)))).set 1 (.int .i64 (1 + (b : Int)))).set 2 (.int .i64 (2 + (c : Int)))).set 3 (.int .i64 (1 + (d : Int)))
 have z0 := (o2.cel 0 rfl 0 _ rfl).1
 have z1 := (o2.cel 0 rfl 1 _ rfl).1
 have z2 := (o2.cel 0 rfl 2 _ rfl).1
 have z3 := (o2.cel 0 rfl 3 _ rfl).1
 have O2 := Lib.hid o2.bel
 clear o1 o2 SB ka kb kc kd
 refine wpAnyZ_end 21 _ #[true, true, true, true, true, true, true, true, true, true, true, true, true, true, true, true, true, true, true, true, true, true] (by kernel_rfl) (fun K hK => ?_)
 have HKK := Lib.hid hK
 clear hK
 simp only [List.drop_succ_cons, List.drop_zero]
 refine headH_mk (by rfl) ?_
 go_simp
 refine HKK.out _ _ (NoPanic.normal ?_)
 clear HKK K
 have EG := cfg_get z0 z1 z2 z3
 clear z0 z1 z2 z3
 have E1 : Hid (∀ k : Nat, k < 12 → IntKind.i64.wrap (1 + (k : Int)) = 1 + k) := Lib.hid (fun k hk => by rw [IntKind.wrap_i64]; omega)
 have E2 : Hid (∀ k : Nat, k < 12 → IntKind.i64.wrap (2 + (k : Int)) = 2 + k) := Lib.hid (fun k hk => by rw [IntKind.wrap_i64]; omega)
 go_wp2
 rw [E1.out a (by omega), E1.out b (by omega), E1.out d (by omega), E2.out c (by omega)]
 exact bodyPost_ret (results_cell Tryz.results10 _ ⟨q1, 0, none⟩ rfl EG) rfl ⟨rfl, by rw [← HQ.out] at *; exact O2.out⟩
end Go.Proofs.YtodjgipiomnnfaaGreat
open Go Go.RowKit
set_option linter.unusedVariables false
namespace Go.Proofs.YtodjgipiomnnfaaGreat.schedChecks
theorem walk (p m r s : Int) (w : World) (wp : (Lit.int .i64 p).wf = true) (wm : (Lit.int .i64 m).wf = true) (wr : (Lit.int .i64 r).wf = true) (ws : (Lit.int .i64 s).wf = true) :
  Calls Tryz.prog 3 #[.agg #[.int .i64 p, .int .i64 m, .int .i64 r, .int .i64 s]] w fun e w' => e = .returned (.bool true) ∧ Below w.heap.size w w' := by
 obtain ⟨a, ha⟩ := smC_of p 5 (by omega) (by omega)
 obtain ⟨b, hb⟩ := smC_of m 5 (by omega) (by omega)
 obtain ⟨c, hc⟩ := smC_of r 5 (by omega) (by omega)
 obtain ⟨d, hd⟩ := smC_of s 12 (by omega) (by omega)
 have h0 : cfE (1 + (a : Int)) (1 + (b : Int)) (2 + (c : Int)) (1 + (d : Int)) = 0 := cfE_ok (by
  have h1 := ha.2.2.2.1
  have h2 := hb.2.2.2.1
  have h3 := hc.2.2.2.1
  have h4 := hd.2.2.2.1
  omega)
 have KS := Lib.hid (fun wx => some18_any wx p m r s a b c d ha hb hc hd)
 have KC := Lib.hid (fun wx => check_any wx p m r s)
 have KR := Lib.hid (fun wx => rcheck_any wx p m r s)
 have K0 := Lib.hid (fun wx => by have h := check_any wx (1 + (a : Int)) (1 + (b : Int)) (2 + (c : Int)) (1 + (d : Int)); rw [h0] at h; exact h)
 generalize cfE p m r s = E at *
 clear h0 ha hb hc hd wp wm wr ws
 go_enter Tryz.func3, Tryz.ntmps3
 go_upto_region 1 with fail
 have o0 : Own w (w.alloc (.cells #[.int .i64 p, .int .i64 m, .int .i64 r, .int .i64 s] 23)) [CelA w.heap.size [.int .i64 p, .int .i64 m, .int .i64 r, .int .i64 s]] := by
  have h := (Own.nil (Below.refl _ w)).alloc [.int .i64 p, .int .i64 m, .int .i64 r, .int .i64 s] 23 (b := w.heap.size) rfl
  exact h
 generalize (w.alloc (.cells #[.int .i64 p, .int .i64 m, .int .i64 r, .int .i64 s] 23)) = w1 at *
 generalize hq : w.heap.size = q at *
 have HQ := Lib.hid hq
 clear hq
 have o1 := o0.step (below_drew1 w1)
 clear o0
 have SB : Hid (∀ wx : World, Own w wx [CelA q [.int .i64 p, .int .i64 m, .int .i64 r, .int .i64 s]] → wx.cell? ⟨q, 0, none⟩ = some (.int .i64 p) ∧ wx.cell? ⟨q, 1, none⟩ = some (.int .i64 m) ∧ wx.cell? ⟨q, 2, none⟩ = some (.int .i64 r) ∧ wx.cell? ⟨q, 3, none⟩ = some (.int .i64 s)) :=
  Lib.hid (fun wx h => ⟨(h.cel 0 rfl 0 _ rfl).1, (h.cel 0 rfl 1 _ rfl).1, (h.cel 0 rfl 2 _ rfl).1, (h.cel 0 rfl 3 _ rfl).1⟩)
 refine wp_region_lexH (fun wx => wx.cell? ⟨q, 0, none⟩ = some (.int .i64 p) ∧ wx.cell? ⟨q, 1, none⟩ = some (.int .i64 m) ∧ wx.cell? ⟨q, 2, none⟩ = some (.int .i64 r) ∧ wx.cell? ⟨q, 3, none⟩ = some (.int .i64 s)) 15 (Array.replicate 15 false) (by kernel_rfl) (by kernel_rfl) ?_
 generalize w1.drew = w2 at *
 refine wpAnyH_one 0 _ #[true, false, false, false, false, false, false, false, false, false, false, false, false, false, false] 14 (by kernel_rfl) (fun K hK => ?_)
 have HKK := Lib.hid hK
 clear hK
 simp only [List.drop_zero]
 refine headH_mk (by rfl) ?_
 go_simp
 refine (awake18_any _).mono ?_
 rintro e w3 ⟨rfl, hb⟩
 have o2 := o1.step hb
 clear o1 hb
 refine HKK.out _ _ (SB.out _ o2) ?_
 clear HKK K
 refine wpAnyH_seg 1 2 _ #[true, true, true, false, false, false, false, false, false, false, false, false, false, false, false] 12 (by kernel_rfl) noPanic_put (SB.out _ o2) (by kernel_rfl) ?_
 simp only [List.take_succ_cons, List.take_zero, List.drop_succ_cons, List.drop_zero]
 repeat ((first | refine wpSegH_no (by rfl) ?_ | (refine wpSegH_yes (by rfl) ?_; apply Exists.intro; apply And.intro; (· (intro wx hS; (try dsimp only at hS); go_simp; first | done | with_reducible rfl)))); simp only [Act.put, List.setIfInBounds_toArray, List.set_cons_zero, List.set_cons_succ])
 refine wpSegH_nil ?_
 refine wpAnyH_seg 4 1 _ #[true, true, true, false, true, false, false, false, false, false, false, false, false, false, false] 11 (by kernel_rfl) noPanic_put (SB.out _ o2) (by kernel_rfl) ?_
 simp only [List.take_succ_cons, List.take_zero, List.drop_succ_cons, List.drop_zero]
 repeat ((first | refine wpSegH_no (by rfl) ?_ | (refine wpSegH_yes (by rfl) ?_; apply Exists.intro; apply And.intro; (· (intro wx hS; (try dsimp only at hS); go_simp; first | done | with_reducible rfl)))); simp only [Act.put, List.setIfInBounds_toArray, List.set_cons_zero, List.set_cons_succ])
 refine wpSegH_nil ?_
 refine wpAnyH_one 3 _ #[true, true, true, true, true, false, false, false, false, false, false, false, false, false, false] 10 (by kernel_rfl) (fun K hK => ?_)
 have HKK := Lib.hid hK
 clear hK
 simp only [List.drop_succ_cons, List.drop_zero]
 refine headH_mk (by rfl) ?_
 go_simp
 refine (KC.out _).mono ?_
 rintro e w4 ⟨rfl, hb⟩
 have o3 := o2.step hb
 clear o2 hb
 refine HKK.out _ _ (SB.out _ o3) ?_
 clear HKK K
 refine wpAnyH_one 5 _ #[true, true, true, true, true, true, false, false, false, false, false, false, false, false, false] 9 (by kernel_rfl) (fun K hK => ?_)
 have HKK := Lib.hid hK
 clear hK
 simp only [List.drop_succ_cons, List.drop_zero]
 refine headH_mk (by rfl) ?_
 go_simp
 refine (KR.out _).mono ?_
 rintro e w5 ⟨rfl, hb⟩
 have o4 := o3.step hb
 clear o3 hb
 refine HKK.out _ _ (SB.out _ o4) ?_
 clear HKK K
 refine wpAnyH_seg 6 4 _ #[true, true, true, true, true, true, true, true, true, true, false, false, false, false, false] 5 (by kernel_rfl) noPanic_put (SB.out _ o4) (by kernel_rfl) ?_
 simp only [List.take_succ_cons, List.take_zero, List.drop_succ_cons, List.drop_zero]
 repeat ((first | refine wpSegH_no (by rfl) ?_ | (refine wpSegH_yes (by rfl) ?_; apply Exists.intro; apply And.intro; (· (intro wx hS; (try dsimp only at hS); go_simp; first | done | with_reducible rfl)))); simp only [Act.put, List.setIfInBounds_toArray, List.set_cons_zero, List.set_cons_succ])
 refine wpSegH_nil ?_
 refine wpAnyH_one 10 _ #[true, true, true, true, true, true, true, true, true, true, true, false, false, false, false] 4 (by kernel_rfl) (fun K hK => ?_)
 have HKK := Lib.hid hK
 clear hK
 simp only [List.drop_succ_cons, List.drop_zero]
 refine headH_mk (by rfl) ?_
 go_simp
 refine (KS.out _).mono ?_
 rintro e w6 ⟨rfl, hb⟩
 have o5 := o4.step hb
 clear o4 hb
 refine HKK.out _ _ (SB.out _ o5) ?_
 clear HKK K
 refine wpAnyH_one 11 _ #[true, true, true, true, true, true, true, true, true, true, true, true, false, false, false] 3 (by kernel_rfl) (fun K hK => ?_)
 have HKK := Lib.hid hK
 clear hK
 simp only [List.drop_succ_cons, List.drop_zero]
 refine headH_mk (by rfl) ?_
 go_simp
 refine (K0.out _).mono ?_
 rintro e w7 ⟨rfl, hb⟩
 have o6 := o5.step hb
 clear o5 hb
 refine HKK.out _ _ (SB.out _ o6) ?_
 clear HKK K
 refine wpAnyH_seg 12 3 _ #[true, true, true, true, true, true, true, true, true, true, true, true, true, true, true] 0 (by kernel_rfl) noPanic_put (SB.out _ o6) (by kernel_rfl) ?_
 simp only [List.take_succ_cons, List.take_zero, List.drop_succ_cons, List.drop_zero]
 repeat ((first | refine wpSegH_no (by rfl) ?_ | (refine wpSegH_yes (by rfl) ?_; apply Exists.intro; apply And.intro; (· (intro wx hS; (try dsimp only at hS); go_simp; first | done | with_reducible rfl)))); simp only [Act.put, List.setIfInBounds_toArray, List.set_cons_zero, List.set_cons_succ])
 refine wpSegH_nil ?_
 refine wpAnyH_done (by kernel_rfl) (NoPanic.normal ?_) _
 have OB := Lib.hid o6.bel
 clear o6
 go_wp2
 go_ret
 exact ⟨rfl, by rw [← HQ.out] at *; exact OB.out⟩
end Go.Proofs.YtodjgipiomnnfaaGreat.schedChecks
