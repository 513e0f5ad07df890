/-
  The walk of the law CrcSums.
-/
import Derived.Test.YtbiegmpjekkpkaaWCrc2
import Derived.Test.YtbiegmpjekkpkaaWCut
import Derived.Deep.RegionHeld3
import Derived.Deep.DrawnRows
import Derived.WalkSmall
import Derived.Deep.DeepCutAuto
import Derived.OpenShut
open Go Go.RowKit
set_option linter.unusedVariables false
namespace Go.Proofs.Ytbiegmpjekkpkaa.crcSums
attribute [local go_sem ↓] Go.wp_at_zero Go.wp_at_succ
set_option maxRecDepth 100000 in
set_option maxHeartbeats 1000000 in
theorem walk (a0 : ByteArray) (a1 a2 : Int) (w : World) (w0 : a0.size ≤ maxLen) (w1 : (Lit.int .i64 a1).wf = true) (w2 : (Lit.int .i64 a2).wf = true) :
    Calls Try.prog 3 #[.string a0, .int .i64 a1, .int .i64 a2] w fun e w' => e = .returned (.bool true) ∧ Below w.heap.size w w' := by
  obtain ⟨l1, u1⟩ := bounds_i64 w1
  obtain ⟨l2, u2⟩ := bounds_i64 w2
  clear w1 w2
  have c0 := cutB_size a0 200
  go_enter Try.func3, Try.ntmps3
  go_wp2_with fail
  refine (cut_any a0 200 _ w0 (by omega)).mono ?_
  rintro e w' ⟨rfl, rfl⟩
  generalize cutB a0 200 = s at c0
  go_wp2_with fail
  refine (awake3_any _).mono ?_
  rintro e w1 ⟨rfl, hb⟩
  have Hb := Lib.hid hb; clear hb
  go_upto_region 4 with fail
  go_cut [1] (fun s1 wx => ∃ I : Nat, I ≤ s.size ∧ s1 = .int .i64 I ∧ wx = w1)
  case first =>
    go_wp2_with fail
    all_goals go_meet
    · exact ⟨s.size, Nat.le_refl _, rfl, rfl⟩
    · exact ⟨0, by omega, rfl, rfl⟩
    · have h1 := ‹(if a1 < 0 then 0 else a1) ≤ (s.size : Int)›
      rw [if_neg (by omega)] at h1
      exact ⟨a1.toNat, by omega, int_nat _ (by omega), rfl⟩
  case rest =>
    obtain ⟨I, hI, rfl, rfl⟩ := hcut
    go_upto_region 5 with fail
    go_cut [2] (fun s2 wx => ∃ K : Nat, I ≤ K ∧ K ≤ s.size ∧ s2 = .int .i64 K ∧ wx = wc)
    case first =>
      go_wp2_with fail
      all_goals go_meet
      all_goals first
        | exact ⟨s.size, by omega, Nat.le_refl _, rfl, rfl⟩
        | exact ⟨I, by omega, by omega, rfl, rfl⟩
        | (have h1 := ‹(if a2 < (I : Int) then (I : Int) else a2) ≤ (s.size : Int)›
           rw [if_neg (by omega)] at h1
           exact ⟨a2.toNat, by omega, by omega, int_nat _ (by omega), rfl⟩)
    case rest =>
      obtain ⟨K, hK, hK2, rfl, rfl⟩ := hcut
      rename_i wx
      have hsm : ∀ i j, (s.extract i j).size ≤ maxLen := fun i j => Nat.le_trans (extract_size_le s i j) (Nat.le_trans c0 (by decide))
      have Hsm := Lib.hid hsm; clear hsm
      go_wp2_with fail
      refine (add_any 0 _ _ (by omega) (Hsm.out _ _)).mono ?_
      rintro e w2 ⟨rfl, hb2⟩
      rw [crcA_zero, extract_list, List.drop_zero]
      have hx1 : crcSum (s.data.toList.take I) < 4294967296 := by unfold crcSum; omega
      obtain ⟨x1, hx1'⟩ : ∃ x1, x1 = crcSum (s.data.toList.take I) := ⟨_, rfl⟩
      rw [← hx1'] at hx1 ⊢
      have HX1 := Lib.hid hx1'; clear hx1'
      have B2 := Lib.hid (below_on Hb.out hb2); clear hb2 Hb
      have hx2 : crcSum (s.data.toList.take K) < 4294967296 := by unfold crcSum; omega
      have hcx : crcA x1 ((s.data.toList.take K).drop I) = crcSum (s.data.toList.take K) := by
        rw [HX1.out, ← crcA_zero, crcA_app]
        conv => rhs; rw [← List.take_append_drop I (s.data.toList.take K), List.take_take, Nat.min_eq_left hK]
        rfl
      obtain ⟨x2, hx2'⟩ : ∃ x2, x2 = crcSum (s.data.toList.take K) := ⟨_, rfl⟩
      rw [← hx2'] at hx2 hcx
      have HX2 := Lib.hid hx2'; clear hx2'
      have HC := Lib.hid hcx; clear hcx
      have hk0 : (0 : Int) ≤ (K : Int) := by omega
      have hi0 : (0 : Int) ≤ (I : Int) := by omega
      have hki : (I : Int) ≤ (K : Int) := by omega
      have hks : (K : Int) ≤ (s.size : Int) := by omega
      have hw : Below w.heap.size w (w2.alloc (.cells #[.int .u32 x1] 26)) := below_on B2.out (below_alloc1 _ _)
      have hcell : (w2.alloc (.cells #[.int .u32 x1] 26)).cell? ⟨w2.heap.size, 0, none⟩ = some (.int .u32 x1) := by simp
      go_upto_region 7 with fail
      generalize w2.alloc (.cells #[.int .u32 x1] 26) = W at hw hcell ⊢
      generalize w2.heap.size = g1 at hcell ⊢
      have BW := Lib.hid hw; clear hw B2
      have CW := Lib.hid hcell; clear hcell
      go_cut [7, 8] (fun s7 s8 wy => ∃ g2 : Nat, s7 = .pointer (some ⟨g1, 0, none⟩) ∧ s8 = .pointer (some ⟨g2, 0, none⟩) ∧ wy.cell? ⟨g1, 0, none⟩ = some (.int .u32 x1) ∧ wy.cell? ⟨g2, 0, none⟩ = some (.int .u32 x2) ∧ Below w.heap.size w wy)
      case first =>
        go_region_held3 (fun w' => w'.cell? ⟨g1, 0, none⟩ = some (.int .u32 x1) ∧ Below W.heap.size W w')
          ((refine st1_of CW ?_; repeat (first | exact Below.refl _ _ | refine below_on ?_ hb3 | refine Below.alloc ?_ (by simp) _ | refine Below.alloc ?_ (by have := hb3.size; simp at this ⊢; omega) _ | refine Below.drew ?_ | refine Below.setCell ?_ (by simp) _)))
          (first
            | (go_at_call 10; refine (add_any x1 _ _ hx1 (Hsm.out _ _)).mono ?_; rintro e w3 ⟨rfl, hb3⟩; rw [extract_list, HC.out]; obtain ⟨hcc, hff⟩ := bcell hb3; try simp at hcc; try simp at hff))
        all_goals (go_wp2_with fail; go_meet)
        · refine ⟨w3.heap.size, rfl, rfl, ?_, by simp, ?_⟩
          · exact cell_below CW.out (below_on (below_on (below_drew1 _) hb3) (below_alloc1 _ _))
          · exact below_on BW.out (below_on (below_on (below_drew1 _) hb3) (below_alloc1 _ _))
        · have hbl := (below_on (below_on (below_alloc1 W (.cells #[.int .u32 0] 26)) (below_drew1 _)) hb3)
          have hb2 := hbl.setCell (p := ⟨W.heap.size, 0, none⟩) (Nat.le_refl _) (.int .u32 x2)
          refine ⟨W.heap.size, rfl, rfl, cell_below CW.out hb2, ?_, below_on BW.out hb2⟩
          rw [World.cell?_setCell_same' _ _ _ (by rw [hb3.cell (p := ⟨W.heap.size, 0, none⟩) (by simp)]; simp)]
      case rest =>
        obtain ⟨g2, rfl, rfl, h1, h2, hb⟩ := hcut
        have hABC : (s.extract 0 I).data.toList ++ ((s.extract I K).data.toList ++ (s.extract K s.size).data.toList) = s.data.toList := by
          rw [extract_list, extract_list, extract_list, List.drop_zero, List.take_of_length_le (l := s.data.toList) (i := s.size) (by simp), ← List.append_assoc]
          conv => lhs; lhs; rw [show List.take I s.data.toList = List.take I (List.take K s.data.toList) by rw [List.take_take, Nat.min_eq_left hK]]
          rw [List.take_append_drop, List.take_append_drop]
        have hAC : crcA x2 (s.extract K s.size).data.toList = crcSum s.data.toList := by
          rw [HX2.out, ← crcA_zero, crcA_app, extract_list, List.take_of_length_le (l := s.data.toList) (i := s.size) (by simp), List.take_append_drop]; rfl
        have hE : crcSum (s.extract 0 I).data.toList = x1 := by rw [extract_list, List.drop_zero, HX1.out]
        have hs1 : s.size ≤ maxLen := Nat.le_trans c0 (by decide)
        obtain ⟨y, hy⟩ : ∃ y, y = crcSum s.data.toList := ⟨_, rfl⟩
        rw [← hy] at hAC
        have HY := Lib.hid hy; clear hy
        have HABC := Lib.hid hABC; clear hABC
        have HAC := Lib.hid hAC; clear hAC
        have HE := Lib.hid hE; clear hE
        have HS := Lib.hid hs1; clear hs1
        have H1 := Lib.hid h1; clear h1
        have H2 := Lib.hid h2; clear h2
        have HB := Lib.hid hb; clear hb HC CW BW
        go_wp2_with fail
        go_region_held3 (fun w' => w'.cell? ⟨g1, 0, none⟩ = some (.int .u32 x1) ∧ w'.cell? ⟨g2, 0, none⟩ = some (.int .u32 x2) ∧ Below wc.heap.size wc w')
          ((refine st2_of H1 H2 ?_; repeat (first | exact Below.refl _ _ | exact st2_b (by assumption) | refine below_on ?_ hb5 | refine below_on ?_ hb6 | refine below_on ?_ hb7 | refine below_on ?_ (below_alloc1 _ _) | refine Below.drew ?_)))
          (first
            | (go_at_call 11; first
                | (with_reducible refine (of1_any _ _ s _ (by simp) HS.out).mono ?_); rintro e w5 ⟨rfl, hb5⟩; rw [← HY.out]
                | (with_reducible refine (of3_any _ _ (s.extract 0 I) (s.extract I K) (s.extract K s.size) _ (by simp) (by simp) (by simp) (Hsm.out _ _) (Hsm.out _ _) (Hsm.out _ _)).mono ?_); rintro e w5 ⟨rfl, hb5⟩; rw [HABC.out, ← HY.out])
            | (go_at_call 12; first
                | (with_reducible refine (rsum_any s _ HS.out).mono ?_); rintro e w' ⟨rfl, rfl⟩; rw [← HY.out]
                | (with_reducible refine (rsum_any (s.extract 0 I) _ (Hsm.out _ _)).mono ?_); rintro e w' ⟨rfl, rfl⟩; rw [HE.out])
            | (go_at_call 10; refine (add_any x2 _ _ hx2 (Hsm.out _ _)).mono ?_; rintro e w6 ⟨rfl, hb6⟩; rw [HAC.out])
            | (go_at_call 13; refine (sum_any _ _).mono ?_; rintro e w7 ⟨rfl, hb7⟩))
        go_wp2
        go_ret
        exact ⟨rfl, below_on HB.out (st2_b (by assumption))⟩
end Go.Proofs.Ytbiegmpjekkpkaa.crcSums
