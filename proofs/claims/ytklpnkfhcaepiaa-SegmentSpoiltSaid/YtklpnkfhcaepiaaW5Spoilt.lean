/-
  The walk of the law SegmentSpoilt.
-/
import Derived.Test.YtklpnkfhcaepiaaWSeg3
import Derived.Test.YtklpnkfhcaepiaaWCut
import Derived.Test.YtklpnkfhcaepiaaBurst
import Derived.Deep.RegionHeld3
import Derived.Deep.DrawnRows
import Derived.RegionTactic
import Derived.ChangeAlike
import Derived.WalkSmall
import Derived.OpenShut
import Derived.Deep.DeepCutAuto
open Go Go.RowKit
set_option linter.unusedVariables false
namespace Go.Proofs.Ytklpnkfhcaepiaa.segmentSpoilt
open Go.Proofs.Ytklpnkfhcaepiaa.burst
attribute [local go_sem ↓] Go.wp_at_zero Go.wp_at_succ
theorem mk_list (b : ByteArray) : ByteArray.mk b.data.toList.toArray = b := bytes_ext (by simp)
set_option maxRecDepth 100000 in
set_option maxHeartbeats 1000000 in
theorem walk (a0 : Int) (a1 : ByteArray) (a2 a3 : Int) (w : World) (v0 : (Lit.int .u64 a0).wf = true) (v1 : a1.size ≤ maxLen) (v2 : (Lit.int .i64 a2).wf = true) (v3 : (Lit.int .u32 a3).wf = true) :
    Calls Try.prog 5 #[.int .u64 a0, .string a1, .int .i64 a2, .int .u32 a3] w fun e w' => e = .returned (.bool true) ∧ Below w.heap.size w w' := by
  obtain ⟨l0, u0⟩ := bounds_u64 v0
  obtain ⟨q, rfl⟩ := Int.eq_ofNat_of_zero_le l0
  have hq : q < 18446744073709551616 := by omega
  obtain ⟨l2, u2⟩ := bounds_i64 v2
  have hw3 := bounds_u32 v3
  obtain ⟨m3, rfl⟩ := Int.eq_ofNat_of_zero_le hw3.1
  have hm3 : m3 < 4294967296 := by omega
  clear v0 l0 u0 v2 v3 hw3
  have c1 := cutB_size a1 200
  have Hq := Lib.hid hq; clear hq
  go_enter Try.func5, Try.ntmps5
  go_wp2_with fail
  refine (cut_any a1 200 _ v1 (by omega)).mono ?_
  rintro e w' ⟨rfl, rfl⟩
  generalize cutB a1 200 = b at c1
  go_wp2_with fail
  refine (awake5_any _).mono ?_
  rintro e w1 ⟨rfl, hb⟩
  have Hb := Lib.hid hb; clear hb
  by_cases he : b = ByteArray.empty
  · subst he
    go_wp2_with fail
    refine (awake5_any _).mono ?_
    rintro e w2 ⟨rfl, hb2⟩
    go_wp2
    go_ret
    exact ⟨rfl, below_on Hb.out hb2⟩
  · have hpos : 0 < b.size := by
      refine Nat.pos_of_ne_zero fun h => he ?_
      apply ByteArray.ext
      exact Array.eq_empty_of_size_eq_zero h
    have e1 : b.toList.isEmpty = false := by
      rw [ByteArray.toList_eq, List.isEmpty_eq_false_iff]
      intro h
      have h2 : b.data.toList.length = b.size := by simp
      rw [h] at h2; simp at h2; omega
    clear he
    go_wp2_with fail
    refine (frame_any q b _ Hq.out (by omega)).mono ?_
    rintro e w2 ⟨rfl, hb2⟩
    have B2 := Lib.hid (below_on Hb.out hb2); clear hb2 Hb
    obtain ⟨F, hF⟩ : ∃ F, F = ByteArray.mk (frameL q b.data.toList).toArray := ⟨_, rfl⟩
    rw [← hF]
    obtain ⟨p, hp⟩ : ∃ p, p = (headL q b.size).length := ⟨_, rfl⟩
    have hFe : F.size = p + b.size + 4 := by rw [hF, hp, size_list, frameL_len, headL_len, ← size_list]; omega
    have hFs1 : F.size ≤ p + b.size + 4 := by omega
    have hFs2 : p + b.size + 4 ≤ F.size := by omega
    clear hFe
    have hp2 : p ≤ 100 := by rw [hp, headL_len]; have := putL_len q; have := putL_len b.size; omega
    have hFl : F.data.toList = frameL q b.data.toList := by rw [hF]
    have hop := openR_frame F 0 q b.data.toList [] (by omega) Hq.out (by rw [← size_list]; omega) (by unfold from_; rw [hFl]; simp)
    have hto := fun B cs => told q B b.data.toList [] [] cs Hq.out (by rw [← size_list]; omega)
    simp only [List.nil_append, List.append_nil, List.length_nil, Nat.zero_add] at hto
    rw [← size_list, ← hp, ← hFl] at hto
    have HO := Lib.hid hop; clear hop
    have HT := Lib.hid hto; clear hto hF hFl
    have HP := Lib.hid hp; clear hp
    obtain ⟨cap, w3, hconv, hcap, hby, hbel⟩ := conv_bytes (P := Try.prog) w2 9 36 5 F Try.underlying9 Try.underlying36 Try.underlying5
    have B3 := Lib.hid (below_on B2.out hbel); clear hbel
    obtain ⟨g, hg⟩ : ∃ g, g = w2.heap.size := ⟨_, rfl⟩
    rw [← hg] at hconv hby
    have hgw : Hid (w.heap.size ≤ g) := Lib.hid (by rw [hg]; exact B2.out.size)
    have HBY := Lib.hid hby; clear hby hg B2
    go_upto_region 8 with fail
    go_cut [2, 12, 13, 14] (fun s2 s12 s13 s14 wx => ∃ B : Nat, B < 8 * b.size ∧ s2 = .int .i64 B ∧ s12 = .int .i64 (8 * (p : Int)) ∧ s13 = .int .i64 (8 * (b.size : Int)) ∧ s14 = .int .i64 0 ∧ wx = w3)
    case first =>
      go_wp2_with fail
      go_meet
      obtain ⟨r1, r2⟩ := turn_in a2 (8 * (b.size : Int)) (by omega) (by omega)
      exact ⟨_, by omega, int_nat _ r1, by congr 1; omega, rfl, rfl, rfl⟩
    case rest =>
      obtain ⟨B, hB, rfl, rfl, rfl, rfl, rfl⟩ := hcut
      clear hconv l2 u2 v1 hcap
      go_wp2_with fail
      go_loopw [14, 15] (fun iv kv wr => ∃ i : Nat, ∃ cs : List UInt8, i ≤ 32 ∧ iv = .int .i64 i ∧ Hid (cs.length = F.size ∧ Bytes wr g cs ∧ Below w.heap.size w wr ∧ ∀ k, (k < 8 * p + B ∨ 8 * p + B + 32 ≤ k ∨ 8 * (p + b.size) ≤ k) → bitAt cs k = bitAt F.data.toList k)) (fun iv _ _ => 32 - (intOf iv).toNat)
      case atStart => exact ⟨0, F.data.toList, by omega, rfl, by simp, HBY.out, B3.out, fun _ _ => rfl⟩
      case round =>
        obtain ⟨i, cs, hi, rfl, hr⟩ := hrel
        by_cases hc : i < 32 ∧ B + i < 8 * b.size
        · obtain ⟨hi1, hi2⟩ := hc
          have t1 : decide ((B : Int) < 8 * (b.size : Int) - (i : Int)) = true := by rw [decide_eq_true_eq]; omega
          go_wp2_with fail
          · obtain ⟨hcl, hby, hbel, hbit⟩ := hr.out
            obtain ⟨k, hk⟩ : ∃ k : Nat, k = p + (B + i) / 8 := ⟨_, rfl⟩
            obtain ⟨r, hrr⟩ : ∃ r : Nat, r = (B + i) % 8 := ⟨_, rfl⟩
            have hqs : k < cs.length := by omega
            have hq1 : (8 * (p : Int) + (B : Int) + i) / 8 = (k : Int) := by omega
            have hr1 : (8 * (p : Int) + (B : Int) + i) % 8 = (r : Int) := by omega
            have hqi : (0 : Int) ≤ (k : Int) := by omega
            have hqj : (k : Int) < (F.size : Int) := by omega
            have hr8 : (r : Int) < 8 := by omega
            have hc1 := hby.1 k hqs
            have hc2 := hby.2 k hqs
            obtain ⟨c, hc⟩ : ∃ c, c = cs[k] := ⟨_, rfl⟩
            rw [← hc] at hc1
            have Hc := Lib.hid hc; clear hc
            have Hby := Lib.hid hby; clear hby
            have Hbit := Lib.hid hbit; clear hbit
            have Hbel := Lib.hid hbel; clear hbel
            have Hcl := Lib.hid hcl; clear hcl
            have Hk := Lib.hid hk; clear hk
            have Hr := Lib.hid hrr; clear hrr hr
            go_region
            go_wp2
            have e8 := xor_pow_u8 c r (by omega)
            refine ⟨⟨i + 1, cs.set k (UInt8.ofNat (c.toNat ^^^ 2 ^ r)), by omega, by go_num, ?_⟩, by simp [intOf]; omega⟩
            refine ⟨by rw [List.length_set]; exact Hcl.out, ((Hby.out.set k hqs _ _ e8).below (below_drew1 _)), (Hbel.out.setCell hgw.out _).drew, fun k' hk' => ?_⟩
            · rw [← Hbit.out k' hk', Hc.out]
              refine bit_set cs k r k' hqs (by omega) ?_
              have := Hk.out
              have := Hr.out
              omega
          · exact ⟨⟨i + 1, cs, by omega, by go_num, hr⟩, by simp [intOf]; omega⟩
        · obtain ⟨hcl, hby, hbel, hbit⟩ := hr.out
          have htell := HT.out B cs (by rw [hcl, size_list]) (fun k hk => hbit k (by omega))
          obtain ⟨T, hTe⟩ : ∃ T : ByteArray, T = ⟨cs.toArray⟩ := ⟨_, rfl⟩
          have hT1 : T.data.toList = cs := by rw [hTe]
          rw [← hTe] at htell
          have hTs : T.size ≤ 1000 := by rw [size_list, hT1, hcl]; omega
          have hCV : Bytes wr g cs ∧ cs.length = F.size ∧ T = ⟨cs.toArray⟩ := ⟨hby, hcl, hTe⟩
          have HCV := Lib.hid hCV; clear hCV hTe hby hbit hr
          have HB := Lib.hid hbel; clear hbel
          have hcv : ∀ W, Below wr.heap.size wr W → (convert 36 9 (.slice (some ⟨g, 0, none⟩) F.size cap)).run Try.prog W = .ok (.string T) W := fun W hb => by
            rw [HCV.out.2.2]; exact conv_back (HCV.out.1.below hb) HCV.out.2.1 _ _ 5 Try.underlying36 Try.underlying5 Try.underlying9
          have HC := Lib.hid hcv
          have hc1 := hcv wr (Below.refl _ _)
          have hres : ∃ x y z e : Nat, ∃ body : ByteArray, ∃ bb : Bool, openR T 0 = (x, body, z, e) ∧ ((T.toList == F.toList) = bb) ∧ ((bb = true ∧ e = 0) ∨ (bb = false ∧ e = 7)) := by
            by_cases hE : T = F
            · subst hE; exact ⟨q, 0, _, 0, _, true, HO.out, by simp, .inl ⟨rfl, rfl⟩⟩
            · have hne : cs ≠ F.data.toList := fun h => hE (bytes_ext (by rw [hT1, h]))
              exact ⟨0, 0, 0, 7, _, false, (htell hne).1, by rw [beq_eq_false_iff_ne, ByteArray.toList_eq, ByteArray.toList_eq]; exact fun h => hE (bytes_ext h), .inr ⟨rfl, rfl⟩⟩
          obtain ⟨x, y, z, e, body, bb, hR, hbb, hee⟩ := hres
          have HR := Lib.hid hR; clear hR htell hT1 hcl hcv
          have hcase : (¬ i < 32) ∨ (i < 32 ∧ decide ((B : Int) < 8 * (b.size : Int) - (i : Int)) = false) := by
            by_cases h1 : i < 32
            · exact .inr ⟨h1, by rw [decide_eq_false_iff_not]; omega⟩
            · exact .inl h1
          clear hc
          rcases hee with ⟨rfl, rfl⟩ | ⟨rfl, rfl⟩
          all_goals
            rcases hcase with h1 | ⟨h1, t1⟩
            all_goals
              go_wp2_with fail
              refine (open_any T 0 _ (by omega) (by omega) (by omega)).mono ?_
              rintro e w5 ⟨rfl, hb5⟩
              rw [HR.out]
              simp only [openV]
              have hc2 := HC.out _ hb5
              have B5 := Lib.hid (below_on HB.out hb5); clear hb5
              go_wp2
              go_ret
              exact ⟨rfl, B5.out⟩
end Go.Proofs.Ytklpnkfhcaepiaa.segmentSpoilt
