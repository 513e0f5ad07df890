/-
  The walk of a number's word.
-/
import Derived.Test.YtdeilfnfpgjnnaaDoorAsM0
import Derived.Test.YtdeilfnfpgjnnaaDoorAsSh
import Derived.Test.YtdeilfnfpgjnnaaDoorBase
import Derived.Test.YtdeilfnfpgjnnaaDoorRowG2
import Derived.WalkKit
import Derived.LoopTactic
import Derived.BigCall
import Derived.BigQuiet
import Derived.Deep.QuietTactic
import Derived.Deep.RegionHeld3
import Derived.Deep.Cut
open Go Go.RowKit
set_option linter.unusedVariables false
set_option linter.unusedSimpArgs false
namespace Go.Proofs.YtdeilfnfpgjnnaaDoor
/-- A text of bytes. -/
def bs (l : By) : ByteArray := ⟨l.toArray⟩
theorem bs_size (l : By) : (bs l).size = l.length := by simp [bs, ByteArray.size]
theorem bs_list (l : By) : (bs l).data.toList = l := by simp [bs]
theorem bs_inj {l m : By} : bs l = bs m ↔ l = m := ⟨fun h => by have := congrArg (fun s : ByteArray => s.data.toList) h; simpa [bs] using this, fun h => by rw [h]⟩
theorem bs_of (s : ByteArray) : bs s.data.toList = s := rfl
theorem bs_tl (l : By) : (bs l).toList = l := by rw [ByteArray.toList_eq]; rfl
theorem eq_bs (l m : By) : ((bs l).toList == m) = decide (l = m) := by rw [bs_tl]; by_cases h : l = m <;> simp [h]
theorem index_bs (l : By) (i : Nat) (h : i < l.length) (z : Int) (hz : z = i) (w : World) :
    (Instr.index 9 (.string (bs l)) (.int .i64 z)).run Tryd.prog w = .ok (.int .u8 l[i].toNat) w := by
  subst hz
  rw [run_index_string w _ (bs l) .i64 _ Tryd.underlying9, dif_pos ⟨by omega, by rw [bs_size]; omega⟩]
  simp [bs]
  rfl
set_option maxRecDepth 100000 in
set_option maxHeartbeats 1000000 in
theorem hasForm_any (l : By) (w : World) (hs : l.length ≤ 100000) :
    Calls Tryd.prog 63 #[.string (bs l)] w fun e w' => e = .returned (.bool (frm l)) ∧ w' = w := by
  have HT : Hid (∀ W, Calls Tryd.prog 72 #[.string (bs l), .string ⟨#[45]⟩] W fun e w' => e = .returned (.string (bs (sgn l))) ∧ w' = W) := Lib.hid fun W => by
    have := Tryd.strings_TrimPrefix (bs l) ⟨#[45]⟩ W
    rw [bs_list, show (⟨#[45]⟩ : ByteArray).data.toList = [45] from rfl, sgn_trim] at this
    exact this
  by_cases h0 : l = [48]
  · have hz : ((bs l).toList == [48]) = true := by rw [eq_bs]; simpa using h0
    have HF : Hid (frm l = true) := Lib.hid (by unfold frm; rw [if_pos h0])
    clear h0
    go_enter Tryd.func63, Tryd.ntmps63
    go_wp2_with fail
    go_ret
    exact ⟨by rw [HF.out]; rfl, rfl⟩
  · have hz : ((bs l).toList == [48]) = false := by rw [eq_bs]; simpa using h0
    have hF : frm l = frm2 (sgn l) := by unfold frm; rw [if_neg h0]
    have hsl : (sgn l).length ≤ 100000 := by
      have : (sgn l).length ≤ l.length := by unfold sgn; split <;> simp <;> omega
      omega
    clear h0
    generalize frm l = F at hF ⊢
    obtain ⟨d, hd⟩ : ∃ d, sgn l = d := ⟨_, rfl⟩
    rw [hd] at HT hF hsl
    clear hd hs
    cases d with
    | nil =>
      have hy : ((bs []).toList == []) = true := by rw [eq_bs]; rfl
      have HF := Lib.hid hF
      clear hF
      go_enter Tryd.func63, Tryd.ntmps63
      go_wp2_with fail
      refine (HT.out _).mono ?_
      rintro e w' ⟨rfl, rfl⟩
      go_wp2_with fail
      go_ret
      exact ⟨by rw [HF.out]; rfl, rfl⟩
    | cons c r =>
      have hy : ((bs (c :: r)).toList == []) = false := by rw [eq_bs]; rfl
      have hi0 : ∀ w, (Instr.index 9 (.string (bs (c :: r))) (.int .i64 0)).run Tryd.prog w = .ok (.int .u8 c.toNat) w := fun w => index_bs (c :: r) 0 (by simp) 0 rfl w
      by_cases hc : c = 48
      · have h48 : ((c.toNat : Int) == 48) = true := by subst hc; rfl
        have HF : Hid (F = false) := Lib.hid (by rw [hF]; simp [frm2, hc])
        clear hF hc
        go_enter Tryd.func63, Tryd.ntmps63
        go_wp2_with fail
        refine (HT.out _).mono ?_
        rintro e w' ⟨rfl, rfl⟩
        go_wp2_with fail
        go_ret
        exact ⟨by rw [HF.out]; rfl, rfl⟩
      · have h48 : ((c.toNat : Int) == 48) = false := by
          simp only [beq_eq_false_iff_ne, ne_eq]
          intro h
          exact hc (UInt8.toNat_inj.1 (by have : (48 : UInt8).toNat = 48 := rfl; omega))
        have hF2 : F = (c :: r).all dig := by
          rw [hF]
          have : (c == 48) = false := by simpa using hc
          unfold frm2
          simp only [this, Bool.not_false, Bool.true_and]
        clear hF hc
        obtain ⟨m, hm⟩ : ∃ m, (c :: r).length = m := ⟨_, rfl⟩
        have hsz : (bs (c :: r)).size = m := by rw [bs_size]; exact hm
        have HIX : Hid (∀ i (h : i < m) W, (Instr.index 9 (.string (bs (c :: r))) (.int .i64 (i : Int))).run Tryd.prog W = .ok (.int .u8 ((c :: r).getD i 0).toNat) W) := Lib.hid fun i h W => by
          have := index_bs (c :: r) i (by rw [hm]; exact h) _ rfl W
          rw [List.getD_eq_getElem?_getD, List.getElem?_eq_getElem (by rw [hm]; exact h)]
          exact this
        rw [hm] at hsl
        generalize hL : c :: r = L at *
        have HF := Lib.hid hF2
        have HM := Lib.hid hm
        clear hF2 hm
        go_enter Tryd.func63, Tryd.ntmps63
        go_wp2_with fail
        refine (HT.out _).mono ?_
        rintro e w' ⟨rfl, hw⟩
        subst w'
        go_wp2_with fail
        go_loopw [18] (fun s wr => ∃ i : Nat, i ≤ m ∧ s = .int .i64 (i : Int) ∧ Hid ((L.take i).all dig = true) ∧ wr = w) (fun s _ => m - (intOf s).toNat)
        case atStart => exact ⟨0, by omega, rfl, Lib.hid rfl, rfl⟩
        case round =>
          obtain ⟨i, hi, rfl, HD, hwr⟩ := hrel
          subst wr
          by_cases hlt : i < m
          · have hx := HIX.out i hlt
            have hsn : (L.take (i + 1)).all dig = ((L.take i).all dig && dig (L.getD i 0)) := by
              have := HM.out
              rw [List.take_succ_eq_append_getElem (by omega), List.all_append, List.getD_eq_getElem?_getD, List.getElem?_eq_getElem (by omega)]
              simp
            have hno : dig (L.getD i 0) = false → F = false := fun h => by
              have := HM.out
              rw [HF.out]
              refine List.all_eq_false.2 ⟨L.getD i 0, ?_, by rw [h]; decide⟩
              rw [List.getD_eq_getElem?_getD, List.getElem?_eq_getElem (by omega)]
              exact List.getElem_mem _
            rw [HD.out, Bool.true_and] at hsn
            generalize L.getD i 0 = x at hx hsn hno
            have HSN := Lib.hid hsn
            have HNO := Lib.hid hno
            clear hsn hno
            have hx256 := x.toNat_lt
            obtain ⟨n, hn⟩ : ∃ n, x.toNat = n := ⟨_, rfl⟩
            rw [hn] at hx hx256
            have HDG : Hid (dig x = (decide (48 ≤ n) && decide (n ≤ 57))) := Lib.hid (by rw [← hn]; rfl)
            clear hn
            by_cases hd : dig x = true
            · have hd2 := hd
              rw [HDG.out] at hd2
              simp only [Bool.and_eq_true, decide_eq_true_eq] at hd2
              have t1 : decide ((n : Int) < 48) = false := by simp; omega
              have t2 : decide (57 < (n : Int)) = false := by simp; omega
              have HN : Hid ((L.take (i + 1)).all dig = true) := Lib.hid (by rw [HSN.out, hd])
              clear hd hd2
              go_wp2_with fail
              exact ⟨⟨i + 1, by omega, by go_num, HN, trivial⟩, by simp [intOf]; omega⟩
            · have hd2 : dig x = false := by simpa using hd
              have HFF := Lib.hid (HNO.out hd2)
              rw [HDG.out] at hd2
              simp only [Bool.and_eq_false_iff, decide_eq_false_iff_not] at hd2
              clear hd
              by_cases hn : n < 48
              · have t1 : decide ((n : Int) < 48) = true := by simp; omega
                clear hd2
                go_wp2_with fail
                go_ret
                exact ⟨by rw [HFF.out]; rfl, rfl⟩
              · have t1 : decide ((n : Int) < 48) = false := by simp; omega
                have t2 : decide (57 < (n : Int)) = true := by simp; omega
                clear hd2
                go_wp2_with fail
                go_ret
                exact ⟨by rw [HFF.out]; rfl, rfl⟩
          · obtain rfl : i = m := by omega
            have HR : Hid (F = true) := Lib.hid (by rw [HF.out, ← HD.out, ← HM.out, List.take_length])
            go_wp2_with fail
            go_ret
            exact ⟨by rw [HR.out]; rfl, rfl⟩
end Go.Proofs.YtdeilfnfpgjnnaaDoor
