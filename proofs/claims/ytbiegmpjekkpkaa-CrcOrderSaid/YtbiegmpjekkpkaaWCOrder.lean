/-
  The walk of the law CrcOrder.
-/
import Derived.Test.YtbiegmpjekkpkaaWCrc2
import Derived.Test.YtbiegmpjekkpkaaWCut
import Derived.Deep.RegionHeld3
import Derived.Deep.DrawnRows
import Derived.WalkSmall
import Derived.OpenShut
import Derived.Deep.DeepCutAuto
open Go Go.RowKit
set_option linter.unusedVariables false
namespace Go.Proofs.Ytbiegmpjekkpkaa.crcOrder
attribute [local go_sem ↓] Go.wp_at_zero Go.wp_at_succ
theorem sum_two (a b : ByteArray) : crcA (crcSum a.data.toList) b.data.toList = crcSum (a ++ b).data.toList := by
  rw [← crcA_zero, crcA_app, ← crcA_zero]; simp
set_option maxRecDepth 100000 in
set_option maxHeartbeats 1000000 in
theorem walk (a0 a1 a2 : ByteArray) (w : World) (w0 : a0.size ≤ maxLen) (v1 : a1.size ≤ maxLen) (v2 : a2.size ≤ maxLen) :
    Calls Try.prog 5 #[.string a0, .string a1, .string a2] w fun e w' => e = .returned (.bool true) ∧ Below w.heap.size w w' := by
  have c0 := cutB_size a0 40
  have c1 := cutB_size a1 40
  have c2 := cutB_size a2 40
  go_enter Try.func5, Try.ntmps5
  go_wp2_with fail
  refine (awake3_any _).mono ?_
  rintro e w1 ⟨rfl, hb⟩
  have Hb := Lib.hid hb; clear hb
  go_wp2_with fail
  refine (cut_any a0 40 _ w0 (by omega)).mono ?_
  rintro e w' ⟨rfl, rfl⟩
  generalize cutB a0 40 = a at c0
  go_wp2_with fail
  refine (cut_any a1 40 _ v1 (by omega)).mono ?_
  rintro e w' ⟨rfl, rfl⟩
  generalize cutB a1 40 = b at c1
  go_wp2_with fail
  refine (cut_any a2 40 _ v2 (by omega)).mono ?_
  rintro e w' ⟨rfl, rfl⟩
  generalize cutB a2 40 = c at c2
  clear w0 v1 v2
  have la : a.size ≤ maxLen := Nat.le_trans c0 (by decide)
  have lb : b.size ≤ maxLen := Nat.le_trans c1 (by decide)
  have lc : c.size ≤ maxLen := Nat.le_trans c2 (by decide)
  have lab : (a ++ b ++ c).size ≤ maxLen := by simp [ByteArray.size_append]; unfold maxLen; omega
  have lac : (a ++ c ++ b).size ≤ maxLen := by simp [ByteArray.size_append]; unfold maxLen; omega
  have Ha := Lib.hid la; clear la
  have Hbb := Lib.hid lb; clear lb
  have Hc := Lib.hid lc; clear lc
  have Hab := Lib.hid lab; clear lab
  have Hac := Lib.hid lac; clear lac
  have hlt : ∀ l, crcSum l < 4294967296 := fun l => by unfold crcSum; omega
  have Hlt := Lib.hid hlt; clear hlt
  obtain ⟨xa, hxa⟩ : ∃ x, x = crcSum a.data.toList := ⟨_, rfl⟩
  obtain ⟨xab, hxab⟩ : ∃ x, x = crcSum (a ++ b).data.toList := ⟨_, rfl⟩
  obtain ⟨xac, hxac⟩ : ∃ x, x = crcSum (a ++ c).data.toList := ⟨_, rfl⟩
  obtain ⟨x, hx⟩ : ∃ x, x = crcSum (a ++ b ++ c).data.toList := ⟨_, rfl⟩
  obtain ⟨y, hy⟩ : ∃ x, x = crcSum (a ++ c ++ b).data.toList := ⟨_, rfl⟩
  have E1 : Hid (crcA xa b.data.toList = xab) := Lib.hid (by rw [hxa, sum_two, hxab])
  have E2 : Hid (crcA xab c.data.toList = x) := Lib.hid (by rw [hxab, sum_two, hx])
  have E3 : Hid (crcA xa c.data.toList = xac) := Lib.hid (by rw [hxa, sum_two, hxac])
  have E4 : Hid (crcA xac b.data.toList = y) := Lib.hid (by rw [hxac, sum_two, hy])
  have E5 : Hid (crcSum (a.data.toList ++ (b.data.toList ++ c.data.toList)) = x) := Lib.hid (by rw [hx]; simp)
  have La : Hid (xa < 4294967296) := Lib.hid (by rw [hxa]; exact Hlt.out _)
  have Lab : Hid (xab < 4294967296) := Lib.hid (by rw [hxab]; exact Hlt.out _)
  have Lac : Hid (xac < 4294967296) := Lib.hid (by rw [hxac]; exact Hlt.out _)
  have X := Lib.hid hx; clear hx
  have Y := Lib.hid hy; clear hy
  have XA := Lib.hid hxa; clear hxa hxab hxac
  go_wp2_with fail
  refine (add_any 0 _ _ (by omega) Ha.out).mono ?_
  rintro e w2 ⟨rfl, hb2⟩
  rw [crcA_zero, ← XA.out]
  have B2 := Lib.hid (below_on Hb.out hb2); clear hb2 Hb
  go_wp2_with fail
  have hcell : (w2.alloc (.cells #[.int .u32 xa] 26)).cell? ⟨w2.heap.size, 0, none⟩ = some (.int .u32 xa) := by simp
  have B3 := Lib.hid (below_on B2.out (below_alloc1 w2 (.cells #[.int .u32 xa] 26)))
  generalize w2.alloc (.cells #[.int .u32 xa] 26) = w3 at hcell B3 ⊢
  generalize w2.heap.size = g7 at hcell ⊢
  have C7 := Lib.hid hcell; clear hcell B2
  refine (add_any _ _ _ La.out Hbb.out).mono ?_
  rintro e w4 ⟨rfl, hb4⟩
  rw [E1.out]
  have B4 := Lib.hid (below_on B3.out hb4)
  have C7' := Lib.hid (cell_below C7.out hb4)
  clear hb4 B3 C7
  go_wp2_with fail
  refine (add_any _ _ _ Lab.out Hc.out).mono ?_
  rintro e w5 ⟨rfl, hb5⟩
  rw [E2.out]
  have hc7 := cell_below (cell_below C7'.out hb5) (below_alloc1 w5 (.cells #[.int .u32 x] 26))
  have hcell : (w5.alloc (.cells #[.int .u32 x] 26)).cell? ⟨w5.heap.size, 0, none⟩ = some (.int .u32 x) := by simp
  have B6 := Lib.hid (below_on (below_on B4.out hb5) (below_alloc1 w5 (.cells #[.int .u32 x] 26)))
  have C8 := Lib.hid hcell; clear hcell B4 hb5 C7'
  go_wp2_with fail
  generalize w5.alloc (.cells #[.int .u32 x] 26) = w6 at hc7 B6 C8 ⊢
  generalize w5.heap.size = g8 at C8 ⊢
  have C7 := Lib.hid hc7; clear hc7
  refine (add_any _ _ _ La.out Hc.out).mono ?_
  rintro e w7 ⟨rfl, hb7⟩
  rw [E3.out]
  have B7 := Lib.hid (below_on B6.out hb7)
  have C7' := Lib.hid (cell_below C7.out hb7)
  have C8' := Lib.hid (cell_below C8.out hb7)
  clear hb7 B6 C7 C8
  go_wp2_with fail
  refine (add_any _ _ _ Lac.out Hbb.out).mono ?_
  rintro e w8 ⟨rfl, hb8⟩
  rw [E4.out]
  have C7 := Lib.hid (cell_below (cell_below C7'.out hb8) (below_alloc1 w8 (.cells #[.int .u32 y] 26)))
  have C8 := Lib.hid (cell_below (cell_below C8'.out hb8) (below_alloc1 w8 (.cells #[.int .u32 y] 26)))
  have hcell : (w8.alloc (.cells #[.int .u32 y] 26)).cell? ⟨w8.heap.size, 0, none⟩ = some (.int .u32 y) := by simp
  have B9 := Lib.hid (below_on (below_on B7.out hb8) (below_alloc1 w8 (.cells #[.int .u32 y] 26)))
  have C9 := Lib.hid hcell; clear hcell B7 hb8 C7' C8'
  have p1 : ∀ w, (Op.stringOp .add a b).run Try.prog w = .ok (.string (a ++ b)) w := fun w => run_string_add_sum w a b (by omega)
  have p2 : ∀ w, (Op.stringOp .add (a ++ b) c).run Try.prog w = .ok (.string (a ++ b ++ c)) w := fun w => run_string_add_sum w (a ++ b) c (by rw [ByteArray.size_append]; omega)
  have p3 : ∀ w, (Op.stringOp .add a c).run Try.prog w = .ok (.string (a ++ c)) w := fun w => run_string_add_sum w a c (by omega)
  have p4 : ∀ w, (Op.stringOp .add (a ++ c) b).run Try.prog w = .ok (.string (a ++ c ++ b)) w := fun w => run_string_add_sum w (a ++ c) b (by rw [ByteArray.size_append]; omega)
  go_wp2_with fail
  generalize w8.alloc (.cells #[.int .u32 y] 26) = W at C7 C8 C9 B9 ⊢
  generalize w8.heap.size = g9 at C9 ⊢
  go_region_held3 (fun w' => w'.cell? ⟨g7, 0, none⟩ = some (.int .u32 xa) ∧ w'.cell? ⟨g8, 0, none⟩ = some (.int .u32 x) ∧ w'.cell? ⟨g9, 0, none⟩ = some (.int .u32 y) ∧ Below W.heap.size W w')
    ((refine st3_of C7 C8 C9 ?_; repeat (first | exact Below.refl _ _ | exact st3_b (by assumption) | refine below_on ?_ hb5 | refine below_on ?_ hb7 | refine below_on ?_ (below_alloc1 _ _) | refine Below.drew ?_)))
    (first
      | (go_at_call 11; first
          | (with_reducible refine (of1_any _ _ a _ (by first | (simp; done) | (rw [hb7.cell (p := ⟨_, 0, none⟩) (by simp)]; simp; done)) Ha.out).mono ?_); rintro e w5 ⟨rfl, hb5⟩; rw [← XA.out]
          | (with_reducible refine (of3_any _ _ a b c _ (by first | (simp; done) | (rw [hb7.cell (p := ⟨_, 0, none⟩) (by simp)]; simp; done)) (by first | (simp; done) | (rw [hb7.cell (p := ⟨_, 1, none⟩) (by simp)]; simp; done)) (by first | (simp; done) | (rw [hb7.cell (p := ⟨_, 2, none⟩) (by simp)]; simp; done)) Ha.out Hbb.out Hc.out).mono ?_); rintro e w5 ⟨rfl, hb5⟩; rw [E5.out])
      | (go_at_call 12; first
          | (with_reducible refine (rsum_any (a ++ b ++ c) _ Hab.out).mono ?_); rintro e w' ⟨rfl, rfl⟩; rw [← X.out]
          | (with_reducible refine (rsum_any (a ++ c ++ b) _ Hac.out).mono ?_); rintro e w' ⟨rfl, rfl⟩; rw [← Y.out])
      | (go_at_call 13; refine (sum_any _ _).mono ?_; rintro e w7 ⟨rfl, hb7⟩))
  all_goals
    go_wp2
    go_ret
    exact ⟨rfl, below_on B9.out (st3_b (by assumption))⟩
end Go.Proofs.Ytbiegmpjekkpkaa.crcOrder
