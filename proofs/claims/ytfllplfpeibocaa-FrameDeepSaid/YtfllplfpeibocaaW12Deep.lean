/-
  The walk of the law FrameDeep.
-/
import Derived.Test.YtfllplfpeibocaaWFr4
import Derived.Test.YtfllplfpeibocaaInts
import Derived.Laws.BitsAllLaws
import Derived.OpenShut
import Derived.LoopTactic
open Go Go.RowKit
set_option linter.unusedVariables false
namespace Go.Proofs.Ytfllplfpeibocaa.frameDeep
/-- Into which registers the calls return. -/
def InStk (k : Nat) (z : List Int) : Prop := ∀ j, j < k → z[(j + 1) * 11 + 10]? = some ((j % 8 : Nat) : Int)
theorem InStk.zero (z : List Int) : InStk 0 z := fun j hj => by omega
theorem InStk.call {k : Nat} {z : List Int} (h : InStk k z) (hl : z.length = (k + 1) * 11) (fn arg : Int) : InStk (k + 1) (z ++ newF fn arg ((k % 8 : Nat) : Int)) := fun j hj => by
  by_cases e : j = k
  · subst e
    rw [List.getElem?_append_right (by omega), hl, Nat.add_sub_cancel_left]; rfl
  · rw [List.getElem?_append_left (by omega)]; exact h j (by omega)
theorem InStk.ret {m : Nat} {z : List Int} (h : InStk (m + 1) z) (k : Nat) (hk : k < 8) (v : Int) : InStk m ((z.take ((m + 1) * 11)).set (m * 11 + 2 + k) v) := fun j hj => by
  rw [List.getElem?_set_ne (by omega), List.getElem?_take, if_pos (by omega)]; exact h j (by omega)
theorem and_7 (n : Nat) (h : n < 1000) : bits .and .i64 (n : Int) 7 = ((n % 8 : Nat) : Int) := by
  have e : (BitVec.ofInt 64 (n : Int)).toNat = n := by rw [BitVec.ofInt_natCast, BitVec.toNat_ofNat]; exact Nat.mod_eq_of_lt (by omega)
  have e7 : (BitVec.ofInt 64 (7 : Int)).toNat = 7 := by decide
  show IntKind.i64.wrap ((BitVec.ofInt 64 (n : Int) &&& BitVec.ofInt 64 (7 : Int)).toNat : Int) = _
  rw [BitVec.toNat_and, e, e7, show n &&& 7 = n % 8 from Nat.and_two_pow_sub_one_eq_mod n 3, IntKind.wrap_i64]
  omega
theorem call_deep' (g n cap : Nat) (z : List Int) (fn arg into : Int) (w : World) (h : StkAt w g n cap z) (hn : n = 16) : Calls Try.prog 7 #[.slice (some ⟨g, 0, none⟩) n cap, .int .i64 fn, .int .i64 arg, .int .i64 into] w fun e w' => ∃ g' cap', e = .returned (.tuple #[.slice (some ⟨g', 0, none⟩) 16 cap', .bool false]) ∧ Below w.heap.size w w' := by
  subst hn; exact call_deep g cap z fn arg into w h
set_option maxRecDepth 100000 in
set_option maxHeartbeats 4000000 in
theorem walk (a0 : Option Addr) (len0 cap0 : Nat) (z0 : List Int) (w : World) (w0 : IsRow .i64 w a0 len0 cap0 z0) :
    Calls Try.prog 4 #[.slice a0 len0 cap0] w fun e w' => e = .returned (.bool true) ∧ Below w.heap.size w w' := by
  obtain ⟨hlc, hcm, hzl, hcells⟩ := w0.cells
  clear w0
  generalize List.take len0 z0 = zs at hzl hcells
  unfold maxLen at hcm
  obtain ⟨m, hm⟩ : ∃ m : Nat, m = min len0 15 := ⟨_, rfl⟩
  have hmc : (m = len0 ∧ len0 ≤ 15) ∨ (m = 15 ∧ ¬ len0 ≤ 15) := by omega
  have hml : m ≤ len0 := by omega
  have hm15 : m ≤ 15 := by omega
  clear hm
  obtain ⟨z, hz⟩ : ∃ z : Nat → Int, z = fun j => zs.getD j 0 := ⟨_, rfl⟩
  have hzc : ∀ j, j < len0 → ∃ b off, a0 = some ⟨b, off, none⟩ ∧ w.cell? ⟨b, off + j, none⟩ = some (.int .i64 (z j)) := fun j hj => by
    obtain ⟨b, off, e1, e2, e3⟩ := hcells j (by omega)
    have e : z j = zs[j]'(by omega) := by rw [hz]; simp only [List.getD_eq_getElem?_getD]; rw [List.getElem?_eq_getElem (by omega)]; rfl
    rw [e]; exact ⟨b, off, e1, e2⟩
  have HZC := Lib.hid hzc
  clear hzc hz hzl hcells hlc
  go_enter Try.func4, Try.ntmps4
  go_wp2_with fail
  refine (awake12_any _).mono ?_
  rintro e w1 ⟨rfl, hb1⟩
  have B1 := Lib.hid hb1; clear hb1
  go_wp2_with fail
  refine (begin_any 0 7 _).mono ?_
  rintro e w2 ⟨g, rfl, hg, h2, b2⟩
  have HI : Hid (StkAt w2 g 1 1 (newF 0 7 0) ∧ InStk 0 (newF 0 7 0) ∧ Below w.heap.size w w2) := Lib.hid ⟨h2, InStk.zero _, below_on B1.out b2⟩
  clear hg h2 b2
  go_upto_region 4 with fail
  go_cut [4] (fun s6 wx => s6 = .int .i64 (m : Int) ∧ Hid (StkAt wx g 1 1 (newF 0 7 0) ∧ InStk 0 (newF 0 7 0) ∧ Below w.heap.size w wx))
  case first =>
    rcases hmc with ⟨rfl, h⟩ | ⟨rfl, h⟩
    all_goals
      go_wp2_with fail
      go_meet
      exact ⟨rfl, HI.out⟩
  obtain ⟨rfl, hcut⟩ := hcut
  clear HI hmc
  go_wp2_with fail
  go_loopw [3, 22] (fun s c wr => ∃ i gi cap : Nat, ∃ zz : List Int, i ≤ m ∧ c = .int .i64 i ∧ s = .slice (some ⟨gi, 0, none⟩) (i + 1) cap ∧ Hid (StkAt wr gi (i + 1) cap zz ∧ InStk i zz ∧ Below w.heap.size w wr)) (fun _ c _ => m - (intOf c).toNat)
  case atStart => exact ⟨0, g, 1, newF 0 7 0, by omega, rfl, rfl, hcut⟩
  case round =>
    obtain ⟨i, gi, cap, zz, hi, rfl, rfl, hr⟩ := hrel
    by_cases hlt : i < m
    · obtain ⟨b, off, rfl, c1⟩ := HZC.out i (by omega)
      have c2 := cell_below c1 hr.out.2.2
      have hli : (i : Int) < (len0 : Int) := by omega
      have hl5 : (i : Int) < (m : Int) := by omega
      have ha7 := and_7 i (by omega)
      clear c1
      go_wp2_with fail
      refine (call_any gi (i + 1) cap zz i (z i) ((i % 8 : Nat) : Int) _ hr.out.1 (by omega) (by omega)).mono ?_
      rintro e w3 ⟨g3, cap3, rfl, hg3, h3, b3⟩
      have H3 : Hid (StkAt w3 g3 (i + 1 + 1) cap3 (zz ++ newF i (z i) ((i % 8 : Nat) : Int)) ∧ InStk (i + 1) (zz ++ newF i (z i) ((i % 8 : Nat) : Int)) ∧ Below w.heap.size w w3) :=
        Lib.hid ⟨h3, hr.out.2.1.call hr.out.1.len _ _, below_on hr.out.2.2 b3⟩
      have d0 : w3.cell? ⟨g3, (i + 1) * 11 + 2, none⟩ = some (.int .i64 (z i)) := (h3.at (x := z i) (by rw [List.getElem?_append_right (by rw [hr.out.1.len]; omega), hr.out.1.len, Nat.add_sub_cancel_left]; rfl)).1
      have d1 : w3.cell? ⟨g3, (i + 1) * 11, none⟩ = some (.int .i64 (i : Int)) := (h3.at (x := (i : Int)) (by rw [List.getElem?_append_right (by rw [hr.out.1.len]; omega), hr.out.1.len, Nat.sub_self]; rfl)).1
      have d2 := cell_below c2 b3
      clear hg3 h3 b3 c2
      go_wp2_with fail
      go_quiet ((go_at_call 9; first | exact Calls.quiet_of_same (top_two g3 i cap3 _ (by omega)) | exact Calls.quiet_of_same (top_any g3 (i + 1) cap3 _ (by omega))))
      go_wp2_with fail
      exact ⟨⟨i + 1, g3, cap3, _, by omega, by go_num, rfl, Lib.hid ⟨H3.out.1.below (below_drewN1 _ _), H3.out.2.1, below_on H3.out.2.2 (below_drewN1 _ _)⟩⟩, by simp [intOf]; omega⟩
    · obtain rfl : m = i := by omega
      have hcase : m < 15 ∨ m = 15 := by omega
      go_wp2_with fail
      clear hlt hi
      rcases hcase with q | q
      case' inl => have q2 : (m : Int) < 15 := by omega
      case' inl => refine (call_any gi (m + 1) cap zz 0 0 0 _ hr.out.1 (by omega) (by omega)).mono ?_
      case' inl => rintro e w3 ⟨g3, cap3, rfl, -, -, b3⟩
      case' inr => have q2 : ¬ (m : Int) < 15 := by omega
      case' inr => refine (call_deep' gi (m + 1) cap zz 0 0 0 _ hr.out.1 (by omega)).mono ?_
      case' inr => rintro e w3 ⟨g3, cap3, rfl, b3⟩
      all_goals
        clear q
        have HR3 : Hid (StkAt w3 gi (m + 1) cap zz ∧ InStk m zz ∧ Below w.heap.size w w3) := Lib.hid ⟨hr.out.1.below b3, hr.out.2.1, below_on hr.out.2.2 b3⟩
        clear b3
        go_wp2_with fail
        go_loopw [3, 10] (fun s c wx => ∃ k gk ck : Nat, ∃ i : Int, ∃ zk : List Int, k ≤ m ∧ i = (k : Int) - 1 ∧ c = .int .i64 i ∧ s = .slice (some ⟨gk, 0, none⟩) (k + 1) ck ∧ Hid (StkAt wx gk (k + 1) ck zk ∧ InStk k zk ∧ Below w.heap.size w wx)) (fun _ c _ => (intOf c + 1).toNat)
        case atStart => exact ⟨m, gi, cap, _, zz, by omega, rfl, rfl, rfl, HR3.out⟩
        case round =>
          clear HR3 hr
          obtain ⟨k, gk, ck, i, zk, hk, hik, rfl, rfl, hr⟩ := hrel
          by_cases hk0 : k = 0
          · subst hk0
            have hi0 : i < 0 := by omega
            clear hik
            go_wp2_with fail
            refine (return_none gk ck 0 _).mono ?_
            rintro e w4 ⟨rfl, rfl⟩
            go_wp2_with fail
            go_ret
            exact ⟨rfl, hr.out.2.2⟩
          · obtain ⟨j, rfl⟩ : ∃ j, k = j + 1 := ⟨k - 1, by omega⟩
            obtain rfl : i = (j : Int) := by omega
            clear hik hk0
            obtain ⟨b, off, rfl, c1⟩ := HZC.out j (by omega)
            have c2 := cell_below c1 hr.out.2.2
            have hlj : (j : Int) < (len0 : Int) := by omega
            have ha7 := and_7 j (by omega)
            have hin := hr.out.2.1 j (by omega)
            rw [show (j + 1) * 11 + 10 = j * 11 + 21 by omega] at hin
            have HIN := Lib.hid hin
            clear c1 hin
            go_wp2_with fail
            refine (return_any gk j ck zk _ (j % 8) _ hr.out.1 (by omega) HIN.out (by omega)).mono ?_
            rintro e w4 ⟨g4, cap4, rfl, -, h4, b4⟩
            obtain ⟨d0, -⟩ := h4.at (List.getElem?_set_self (by rw [List.length_take, hr.out.1.len]; omega))
            have d2 := cell_below c2 b4
            have HR4 : ∀ nq, Hid (StkAt (w4.drewN nq) g4 (j + 1) cap4 ((zk.take ((j + 1) * 11)).set (j * 11 + 2 + j % 8) (wrap64 (z j + 1))) ∧ InStk j ((zk.take ((j + 1) * 11)).set (j * 11 + 2 + j % 8) (wrap64 (z j + 1))) ∧ Below w.heap.size w (w4.drewN nq)) := fun nq => Lib.hid ⟨h4.below (below_drewN1 _ _), hr.out.2.1.ret (j % 8) (by omega) _, below_on (below_on hr.out.2.2 b4) (below_drewN1 _ _)⟩
            clear h4 b4 c2
            go_wp2_with fail
            go_quiet ((go_at_call 9; exact Calls.quiet_of_same (top_any g4 j cap4 _ (by omega))))
            go_wp2_with fail
            exact ⟨⟨j, g4, cap4, _, _, by omega, rfl, rfl, rfl, HR4 nq⟩, by simp [intOf]⟩
end Go.Proofs.Ytfllplfpeibocaa.frameDeep
