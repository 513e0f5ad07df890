/-
  The walk of the law CrcBurst.
-/
import Derived.Test.YtbiegmpjekkpkaaWCrc2
import Derived.Test.YtbiegmpjekkpkaaWCut
import Derived.Deep.RegionHeld3
import Derived.Deep.DrawnRows
import Derived.RegionTactic
import Derived.ChangeAlike
import Derived.WalkSmall
import Derived.OpenShut
import Derived.Deep.DeepCutAuto
open Go Go.RowKit
set_option linter.unusedVariables false
namespace Go.Proofs.Ytbiegmpjekkpkaa.crcBurst
attribute [local go_sem ↓] Go.wp_at_zero Go.wp_at_succ
theorem flip_far (c r j : Nat) (h : j ≠ r) : (c ^^^ 2 ^ r) / 2 ^ j % 2 = c / 2 ^ j % 2 := by
  have h1 : (c ^^^ 2 ^ r).testBit j = c.testBit j := by rw [Nat.testBit_xor, Nat.testBit_two_pow]; simp [show ¬ r = j by omega]
  rw [Nat.testBit_eq_decide_div_mod_eq, Nat.testBit_eq_decide_div_mod_eq, decide_eq_decide] at h1
  omega
theorem bit_set (cs : List UInt8) (q r k : Nat) (hq : q < cs.length) (hr : r < 8) (hk : k ≠ 8 * q + r) : bitAt (cs.set q (UInt8.ofNat (cs[q].toNat ^^^ 2 ^ r))) k = bitAt cs k := by
  unfold bitAt
  have h256 : cs[q].toNat ^^^ 2 ^ r < 256 := Nat.xor_lt_two_pow (n := 8) cs[q].toNat_lt (Nat.lt_of_le_of_lt (Nat.pow_le_pow_right (by omega) (show r ≤ 7 by omega)) (by decide))
  by_cases h : k / 8 = q
  · have h1 : (cs.set q (UInt8.ofNat (cs[q].toNat ^^^ 2 ^ r))).getD (k / 8) 0 = UInt8.ofNat (cs[q].toNat ^^^ 2 ^ r) := by
      rw [h, List.getD_eq_getElem?_getD, List.getElem?_set_self hq]; rfl
    have h2 : cs.getD (k / 8) 0 = cs[q] := by rw [h, List.getD_eq_getElem?_getD, List.getElem?_eq_getElem hq]; rfl
    rw [h1, h2, UInt8.toNat_ofNat', Nat.mod_eq_of_lt h256]
    exact flip_far _ _ _ (by omega)
  · rw [List.getD_eq_getElem?_getD, List.getElem?_set_ne (by omega), ← List.getD_eq_getElem?_getD]
theorem xor_pow_u8 (c : UInt8) (r : Nat) (hr : r < 8) : bits BinOp.xor IntKind.u8 (c.toNat : Int) (2 ^ r % 256) = ((UInt8.ofNat (c.toNat ^^^ 2 ^ r)).toNat : Int) := by
  have hp : 2 ^ r < 256 := Nat.lt_of_le_of_lt (Nat.pow_le_pow_right (by omega) (show r ≤ 7 by omega)) (by decide)
  have h256 : c.toNat ^^^ 2 ^ r < 256 := Nat.xor_lt_two_pow (n := 8) c.toNat_lt hp
  have e : ((2 : Int) ^ r % 256) = ((2 ^ r : Nat) : Int) := by
    rw [show ((2 : Int) ^ r) = ((2 ^ r : Nat) : Int) from (Int.natCast_pow 2 r).symm]; exact Int.emod_eq_of_lt (Int.natCast_nonneg _) (Int.ofNat_lt.2 hp)
  rw [e, xor_u8 _ _ c.toNat_lt hp, UInt8.toNat_ofNat', Nat.mod_eq_of_lt h256]
theorem st_conv {W w' : World} {g n cap : Nat} {cs : List UInt8} {T : ByteArray} (h : Hid (Bytes W g cs ∧ cs.length = n ∧ T = ⟨cs.toArray⟩)) (hb : Below W.heap.size W w') :
    (convert 32 9 (.slice (some ⟨g, 0, none⟩) n cap)).run Try.prog w' = .ok (.string T) w' ∧ Below W.heap.size W w' :=
  ⟨by rw [h.out.2.2]; exact conv_back (h.out.1.below hb) h.out.2.1 _ _ 5 Try.underlying32 Try.underlying5 Try.underlying9, hb⟩
theorem st_conv_b {W w' : World} {v T : Value} {w'' : World} (h : (convert 32 9 v).run Try.prog w' = .ok T w'' ∧ Below W.heap.size W w') : Below W.heap.size W w' := h.2
theorem turn_in (a n : Int) (h : 0 < n) (h2 : n ≤ 1000) : 0 ≤ (wrap64 (a.tmod n + n)).tmod n ∧ (wrap64 (a.tmod n + n)).tmod n < n := by
  have h1 := Int.tmod_lt_of_pos a h
  have h3 := Int.lt_tmod_of_pos a h
  rw [IntWalk.wrap64_in _ (by omega)]
  rw [Int.tmod_eq_emod_of_nonneg (by omega)]
  exact ⟨Int.emod_nonneg _ (by omega), Int.emod_lt_of_pos _ h⟩
set_option maxRecDepth 100000 in
set_option maxHeartbeats 1000000 in
theorem walk (a0 : ByteArray) (a1 a2 : Int) (w : World) (v0 : a0.size ≤ maxLen) (v1 : (Lit.int .i64 a1).wf = true) (v2 : (Lit.int .u32 a2).wf = true) :
    Calls Try.prog 4 #[.string a0, .int .i64 a1, .int .u32 a2] w fun e w' => e = .returned (.bool true) ∧ Below w.heap.size w w' := by
  obtain ⟨l1, u1⟩ := bounds_i64 v1
  have hw2 := bounds_u32 v2
  obtain ⟨m2, rfl⟩ := Int.eq_ofNat_of_zero_le hw2.1
  have hm2 : m2 < 4294967296 := by omega
  clear v1 v2 hw2
  have c0 := cutB_size a0 100
  go_enter Try.func4, Try.ntmps4
  go_wp2_with fail
  refine (cut_any a0 100 _ v0 (by omega)).mono ?_
  rintro e w' ⟨rfl, rfl⟩
  generalize cutB a0 100 = s at c0
  go_wp2_with fail
  refine (awake3_any _).mono ?_
  rintro e w1 ⟨rfl, hb⟩
  have Hb := Lib.hid hb; clear hb
  by_cases he : s = ByteArray.empty
  · subst he
    go_wp2_with fail
    refine (awake3_any _).mono ?_
    rintro e w2 ⟨rfl, hb2⟩
    go_wp2
    go_ret
    exact ⟨rfl, below_on Hb.out hb2⟩
  · have hpos : 0 < s.size := by
      refine Nat.pos_of_ne_zero fun h => he ?_
      apply ByteArray.ext
      exact Array.eq_empty_of_size_eq_zero h
    have e1 : s.toList.isEmpty = false := by
      rw [ByteArray.toList_eq, List.isEmpty_eq_false_iff]
      intro h
      have h2 : s.data.toList.length = s.size := by simp
      rw [h] at h2; simp at h2; omega
    clear he
    obtain ⟨cap, w2, hconv, hcap, hby, hbel⟩ := conv_bytes (P := Try.prog) w1 9 32 5 s Try.underlying9 Try.underlying32 Try.underlying5
    have B2 := Lib.hid (below_on Hb.out hbel); clear hbel
    have Hb' := Hb; clear Hb
    obtain ⟨g, hg⟩ : ∃ g, g = w1.heap.size := ⟨_, rfl⟩
    rw [← hg] at hconv hby
    have hgw : Hid (w.heap.size ≤ g) := Lib.hid (by rw [hg]; exact Hb'.out.size)
    have HBY := Lib.hid hby; clear hby hg Hb'
    go_upto_region 6 with fail
    go_cut [1] (fun s1 wx => ∃ B : Nat, B < 8 * s.size ∧ s1 = .int .i64 B ∧ wx = w2)
    case first =>
      go_wp2_with fail
      go_meet
      obtain ⟨r1, r2⟩ := turn_in a1 (8 * (s.size : Int)) (by omega) (by omega)
      exact ⟨_, by omega, int_nat _ r1, rfl⟩
    case rest =>
      obtain ⟨B, hB, rfl, rfl⟩ := hcut
      clear hconv l1 u1 v0 hcap
      go_wp2_with fail
      go_loopw [9, 10] (fun iv kv wr => ∃ i : Nat, ∃ cs : List UInt8, i ≤ 32 ∧ iv = .int .i64 i ∧ Hid (cs.length = s.size ∧ Bytes wr g cs ∧ Below w.heap.size w wr ∧ ∀ k, (k < B ∨ B + 32 ≤ k) → bitAt cs k = bitAt s.data.toList k)) (fun iv _ _ => 32 - (intOf iv).toNat)
      case atStart => exact ⟨0, s.data.toList, by omega, rfl, by simp, HBY.out, B2.out, fun _ _ => rfl⟩
      case round =>
        obtain ⟨i, cs, hi, rfl, hr⟩ := hrel
        by_cases hc : i < 32 ∧ B + i < 8 * s.size
        · obtain ⟨hi1, hi2⟩ := hc
          have t1 : decide ((B : Int) < 8 * (s.size : Int) - (i : Int)) = true := by rw [decide_eq_true_eq]; omega
          go_wp2_with fail
          · obtain ⟨hcl, hby, hbel, hbit⟩ := hr.out
            obtain ⟨q, hq⟩ : ∃ q : Nat, q = (B + i) / 8 := ⟨_, rfl⟩
            obtain ⟨r, hrr⟩ : ∃ r : Nat, r = (B + i) % 8 := ⟨_, rfl⟩
            have hqs : q < cs.length := by omega
            have hq1 : ((B : Int) + i) / 8 = (q : Int) := by omega
            have hr1 : ((B : Int) + i) % 8 = (r : Int) := by omega
            have hqi : (0 : Int) ≤ (q : Int) := by omega
            have hqj : (q : Int) < (s.size : Int) := by omega
            have hr8 : (r : Int) < 8 := by omega
            have hc1 := hby.1 q hqs
            have hc2 := hby.2 q hqs
            obtain ⟨c, hc⟩ : ∃ c, c = cs[q] := ⟨_, rfl⟩
            rw [← hc] at hc1
            have Hc := Lib.hid hc; clear hc
            have Hby := Lib.hid hby; clear hby
            have Hbit := Lib.hid hbit; clear hbit
            have Hbel := Lib.hid hbel; clear hbel
            have Hcl := Lib.hid hcl; clear hcl
            have Hq := Lib.hid hq; clear hq
            have Hr := Lib.hid hrr; clear hrr hr
            go_region
            go_wp2
            have e8 := xor_pow_u8 c r (by omega)
            refine ⟨⟨i + 1, cs.set q (UInt8.ofNat (c.toNat ^^^ 2 ^ r)), by omega, by go_num, ?_⟩, by simp [intOf]; omega⟩
            refine ⟨by rw [List.length_set]; exact Hcl.out, ((Hby.out.set q hqs _ _ e8).below (below_drew1 _)), (Hbel.out.setCell hgw.out _).drew, fun k hk => ?_⟩
            · rw [← Hbit.out k hk, Hc.out]
              refine bit_set cs q r k hqs (by omega) ?_
              have := Hq.out
              have := Hr.out
              omega
          · exact ⟨⟨i + 1, cs, by omega, by go_num, hr⟩, by simp [intOf]; omega⟩
        · obtain ⟨hcl, hby, hbel, hbit⟩ := hr.out
          have htell := crc_tells cs s.data.toList B (by simpa using hcl) (fun k _ hk => hbit k hk)
          have HT := Lib.hid htell; clear htell hbit hr
          have Hby := Lib.hid hby; clear hby
          have Hcl := Lib.hid hcl; clear hcl
          have Hbel := Lib.hid hbel; clear hbel
          have hs1 : s.size ≤ maxLen := Nat.le_trans c0 (by decide)
          have HS := Lib.hid hs1; clear hs1
          obtain ⟨T, hTe⟩ : ∃ T : ByteArray, T = ⟨cs.toArray⟩ := ⟨_, rfl⟩
          have hT1 : T.data.toList = cs := by rw [hTe]
          have hTs : T.size ≤ maxLen := by rw [hTe]; show cs.toArray.size ≤ maxLen; rw [List.size_toArray, Hcl.out]; exact HS.out
          have hCV : Bytes wr g cs ∧ cs.length = s.size ∧ T = ⟨cs.toArray⟩ := ⟨Hby.out, Hcl.out, hTe⟩
          have HCV := Lib.hid hCV; clear hCV
          have HTS := Lib.hid hTs; clear hTs hTe
          have hcase : (¬ i < 32) ∨ (i < 32 ∧ decide ((B : Int) < 8 * (s.size : Int) - (i : Int)) = false) := by
            by_cases h1 : i < 32
            · exact .inr ⟨h1, by rw [decide_eq_false_iff_not]; omega⟩
            · exact .inl h1
          have hsum : ∃ x y : Nat, ∃ b : Bool, x = crcSum T.data.toList ∧ y = crcSum s.data.toList ∧ ((x : Int) == (y : Int)) = b ∧ (T.toList == s.toList) = b ∧ (b = true → T = s) := by
            by_cases hE : T = s
            · subst hE; exact ⟨_, _, true, rfl, rfl, by simp, by simp, fun _ => rfl⟩
            · have hE2 : cs ≠ s.data.toList := fun h => hE (by
                apply ByteArray.ext; apply Array.toList_inj.1; rw [hT1, h])
              have h3 := HT.out hE2
              refine ⟨_, _, false, rfl, rfl, ?_, ?_, fun h => by cases h⟩
              · rw [beq_eq_false_iff_ne, hT1]; omega
              · rw [beq_eq_false_iff_ne, ByteArray.toList_eq, ByteArray.toList_eq, hT1]; exact hE2
          obtain ⟨x, y, bb, hx, hy, hxy, hTs2, hTs3⟩ := hsum
          have HX := Lib.hid hx; clear hx
          have HY := Lib.hid hy; clear hy HT hT1 hc hTs3
          rcases hcase with h1 | ⟨h1, t1⟩
          all_goals
            go_wp2_with fail
            go_region_held3 (fun w' => (convert 32 9 (.slice (some ⟨g, 0, none⟩) s.size cap)).run Try.prog w' = .ok (.string T) w' ∧ Below wr.heap.size wr w')
              ((refine st_conv HCV ?_; repeat (first | exact Below.refl _ _ | exact st_conv_b (by assumption) | refine below_on ?_ hb5 | refine below_on ?_ (below_alloc1 _ _) | refine Below.drew ?_)))
              (first
                | (go_at_call 11; first
                  | (with_reducible refine (of1_any _ _ s _ (by first | (simp; done) | (rw [hb5.cell (p := ⟨_, 0, none⟩) (by first | (simp; done) | (simp; omega))]; simp; done)) HS.out).mono ?_); rintro e w5 ⟨rfl, hb5⟩; rw [← HY.out]
                  | (with_reducible refine (of1_any _ _ T _ (by first | (simp; done) | (rw [hb5.cell (p := ⟨_, 0, none⟩) (by first | (simp; done) | (simp; omega))]; simp; done)) HTS.out).mono ?_); rintro e w5 ⟨rfl, hb5⟩; rw [← HX.out]))
            all_goals
              go_wp2
              go_ret
              exact ⟨rfl, below_on Hbel.out (st_conv_b (by assumption))⟩
end Go.Proofs.Ytbiegmpjekkpkaa.crcBurst
