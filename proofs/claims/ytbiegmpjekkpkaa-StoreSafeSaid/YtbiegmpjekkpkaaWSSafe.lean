/-
  The walk of the law StoreSafe.
-/
import Derived.Test.YtbiegmpjekkpkaaWStore4
import Derived.Test.YtbiegmpjekkpkaaInArgs
import Derived.Test.YtbiegmpjekkpkaaWCut
import Derived.OpenShut
open Go Go.RowKit
set_option linter.unusedVariables false
namespace Go.Proofs.Ytbiegmpjekkpkaa.storeSafe
attribute [local go_sem ↓] Go.wp_at_zero Go.wp_at_succ
/-- A store of this law. -/
def mkS (l : List UInt8) (sf : Nat) : SSt := ⟨l, sf, 100000, false, 0, false⟩
theorem mkS_safe (l : List UInt8) (sf : Nat) : (mkS l sf).safe = sf := rfl
theorem mkS_app (l t : List UInt8) (sf : Nat) (h : l.length + t.length ≤ 100000) : (mkS l sf).appendE t = 0 ∧ (mkS l sf).append t = mkS (l ++ t) sf := by
  constructor
  · simp [SSt.appendE, SSt.may, mkS]; omega
  · simp [SSt.append, SSt.may, SSt.call, mkS]; intro h'; omega
theorem mkS_sync (l : List UInt8) (sf : Nat) : (mkS l sf).syncE = 0 ∧ (mkS l sf).sync = mkS l l.length := by
  constructor
  · simp [SSt.syncE, SSt.may, mkS]
  · simp [SSt.sync, SSt.may, SSt.call, mkS]
theorem ba_list (a b : ByteArray) : (a ++ b).data.toList = a.data.toList ++ b.data.toList := by simp
theorem mkS_crash (l m t : List UInt8) (k : Int) (K : Nat) (hK : K = min k.toNat m.length) : (mkS (l ++ m) l.length).crash k t = mkS (l ++ overlay (m.take K) t) (l.length + K) := by
  have hk : (mkS (l ++ m) l.length).keeps k = K := by unfold SSt.keeps mkS; simp only [List.length_append]; omega
  unfold SSt.crash
  rw [hk]
  unfold mkS
  simp
theorem ba_of (l : List UInt8) : (ByteArray.mk l.toArray).data.toList = l := by simp
theorem ba_ext {a b : ByteArray} (h : a.data.toList = b.data.toList) : a = b := by
  apply ByteArray.ext; exact Array.toList_inj.1 h
/-- A byte of what lies there. -/
theorem overlay_at (l m : List UInt8) (i : Nat) (h : i < l.length) : (overlay l m)[i]'(by unfold overlay; rw [List.length_append, List.length_take, List.length_drop]; omega) = if h2 : i < m.length then m[i] else l[i] := by
  unfold overlay
  by_cases h2 : i < m.length
  · rw [dif_pos h2, List.getElem_append_left (by rw [List.length_take]; omega), List.getElem_take]
  · rw [dif_neg h2, List.getElem_append_right (by rw [List.length_take]; omega), List.getElem_drop]
    congr 1
    rw [List.length_take]; omega
set_option maxRecDepth 100000 in
set_option maxHeartbeats 2000000 in
theorem walk (a0 : Option Addr) (len0 cap0 : Nat) (l0 : List ByteArray) (a1 : Option Addr) (len1 cap1 : Nat) (l1 : List ByteArray) (a2 : Int) (a3 : ByteArray) (w : World) (w0 : IsStrs w a0 len0 cap0 l0) (w1 : IsStrs w a1 len1 cap1 l1)
    (w2 : (Lit.int .i64 a2).wf = true) (w3 : a3.size ≤ maxLen) :
    Calls Try.prog 6 #[.slice a0 len0 cap0, .slice a1 len1 cap1, .int .i64 a2, .string a3] w fun e w' => e = .returned (.bool true) ∧ Below w.heap.size w w' := by
  obtain ⟨rfl, hlc0, hcm0, hat0, hz0⟩ := w0
  obtain ⟨rfl, hlc1, hcm1, hat1, hz1⟩ := w1
  have hk2 := bounds_i64 w2
  clear w2
  have hlm0 : l0.length ≤ maxLen := Nat.le_trans hlc0 hcm0
  have hlm1 : l1.length ≤ maxLen := Nat.le_trans hlc1 hcm1
  unfold maxLen at hlm0 hlm1 w3
  obtain ⟨m0, hm0⟩ : ∃ m, m = l0.length := ⟨_, rfl⟩
  obtain ⟨m1, hm1⟩ : ∃ m, m = l1.length := ⟨_, rfl⟩
  rw [← hm0] at hlm0 ⊢
  rw [← hm1] at hlm1 ⊢
  have Hat0 := Lib.hid hat0; clear hat0 hlc0 hcm0
  have Hat1 := Lib.hid hat1; clear hat1 hlc1 hcm1
  have Hz0 := Lib.hid hz0; clear hz0
  have Hz1 := Lib.hid hz1; clear hz1
  have Hm0 := Lib.hid hm0; clear hm0
  have Hm1 := Lib.hid hm1; clear hm1
  go_enter Try.func6, Try.ntmps6
  go_wp2_with fail
  refine (awake4_any _).mono ?_
  rintro e wa ⟨rfl, hb1⟩
  have Ha0 := Lib.hid (Hat0.out.below hb1)
  have Ha1 := Lib.hid (Hat1.out.below hb1)
  have B1 := Lib.hid hb1; clear hb1 Hat0 Hat1
  go_wp2_with fail
  refine (inv_new 100000 wa _ (Below.refl _ _) (by omega) (by omega)).mono ?_
  rintro e w2 ⟨rfl, h2⟩
  obtain ⟨p, hp⟩ : ∃ p, p = wa.heap.size := ⟨_, rfl⟩
  rw [← hp] at h2 ⊢
  have h2' : Inv wa w2 p (mkS [] 0) := h2
  have H2 := Lib.hid h2'; clear h2 h2' hp
  go_wp2_with fail
  go_loopw [10, 12] (fun sv iv wr => ∃ i : Nat, ∃ S : ByteArray, i ≤ 10 ∧ iv = .int .i64 i ∧ sv = .string S ∧ S.size ≤ 60 * i ∧ Hid (Inv wa wr p (mkS S.data.toList 0))) (fun _ iv _ => 10 - (intOf iv).toNat)
  case atStart => exact ⟨0, ByteArray.empty, by omega, rfl, rfl, by decide, H2.out⟩
  case round =>
    obtain ⟨i, S, hi, rfl, rfl, hS, hr⟩ := hrel
    by_cases hlt : i < m0 ∧ i < 10
    · obtain ⟨hl1, hl2⟩ := hlt
      obtain ⟨b, off, rfl, hcell⟩ := (Ha0.out.below hr.out.bel) i (by have := Hm0.out; omega)
      have hsz := Hz0.out _ (List.getElem_mem (by have := Hm0.out; omega : i < l0.length))
      generalize l0[i]'(by have := Hm0.out; omega) = t at hcell hsz
      have hc := cutB_size t 60
      have Hsz := Lib.hid hsz; clear hsz
      go_wp2_with fail
      refine (cut_any t 60 _ Hsz.out (by omega)).mono ?_
      rintro e w4 ⟨rfl, rfl⟩
      have hadd : ∀ w, (Op.stringOp .add S (cutB t 60)).run Try.prog w = .ok (.string (S ++ cutB t 60)) w := fun w => run_string_add_sum w _ _ (by omega)
      go_wp2_with fail
      refine (cut_any t 60 _ Hsz.out (by omega)).mono ?_
      rintro e w4 ⟨rfl, rfl⟩
      generalize cutB t 60 = c at hc hadd
      obtain ⟨e1, e2⟩ := mkS_app S.data.toList c.data.toList 0 (by simp; omega)
      have E2 := Lib.hid e2; clear e2
      go_wp2_with fail
      refine (inv_append hr.out c (by show S.data.toList.length + c.size ≤ _; simp; omega)).mono ?_
      rw [e1, E2.out]
      rintro e w5 ⟨rfl, h5⟩
      have h5' : Inv wa w5 p (mkS (S ++ c).data.toList 0) := by rw [ba_list]; exact h5
      have H5 := Lib.hid h5'; clear h5 h5' e1
      go_wp2
      exact ⟨⟨i + 1, S ++ c, by omega, by go_num, rfl, by rw [ByteArray.size_append]; omega, H5⟩, by simp [intOf]; omega⟩
    · obtain ⟨n, hn⟩ : ∃ n : Nat, n = S.size := ⟨_, rfl⟩
      have hn6 : n ≤ 600 := by omega
      have HN := Lib.hid hn
      have H3 : Hid (Inv wa wr p (mkS S.data.toList n)) → True := fun _ => trivial
      clear H3
      obtain ⟨y1, y2⟩ := mkS_sync S.data.toList 0
      rw [show S.data.toList.length = n by rw [hn]; simp] at y2
      clear hn
      have Y2 := Lib.hid y2; clear y2
      have hcase : (i < m0 ∧ ¬ i < 10) ∨ ¬ i < m0 := by omega
      rcases hcase with ⟨h1, h2⟩ | h1
      all_goals
        go_wp2_with fail
        refine (inv_sync hr.out).mono ?_
        rw [y1, Y2.out]
        rintro e w5 ⟨rfl, h5⟩
        have H5 := Lib.hid h5; clear h5
        go_wp2_with fail
        go_loopw [11, 13] (fun sv jv wq => ∃ j : Nat, ∃ T : ByteArray, j ≤ 10 ∧ jv = .int .i64 j ∧ sv = .string T ∧ T.size ≤ 60 * j ∧ Hid (Inv wa wq p (mkS (S.data.toList ++ T.data.toList) n))) (fun _ jv _ => 10 - (intOf jv).toNat)
        case atStart => exact ⟨0, ByteArray.empty, by omega, rfl, rfl, by decide, Lib.hid (by simpa using H5.out)⟩
        case round =>
          obtain ⟨j, T, hj, rfl, rfl, hT, hq⟩ := hrel
          by_cases hlt2 : j < m1 ∧ j < 10
          · obtain ⟨hl1, hl2⟩ := hlt2
            obtain ⟨b, off, rfl, hcell⟩ := (Ha1.out.below hq.out.bel) j (by have := Hm1.out; omega)
            have hsz := Hz1.out _ (List.getElem_mem (by have := Hm1.out; omega : j < l1.length))
            generalize l1[j]'(by have := Hm1.out; omega) = t at hcell hsz
            have hc := cutB_size t 60
            have Hsz := Lib.hid hsz; clear hsz
            go_wp2_with fail
            refine (cut_any t 60 _ Hsz.out (by omega)).mono ?_
            rintro e w4 ⟨rfl, rfl⟩
            have hadd : ∀ w, (Op.stringOp .add T (cutB t 60)).run Try.prog w = .ok (.string (T ++ cutB t 60)) w := fun w => run_string_add_sum w _ _ (by omega)
            go_wp2_with fail
            refine (cut_any t 60 _ Hsz.out (by omega)).mono ?_
            rintro e w4 ⟨rfl, rfl⟩
            generalize cutB t 60 = c at hc hadd
            have hll : (S.data.toList ++ T.data.toList).length = n + T.size := by rw [List.length_append, HN.out]; simp
            obtain ⟨e1, e2⟩ := mkS_app (S.data.toList ++ T.data.toList) c.data.toList n (by rw [hll]; simp; omega)
            have E2 := Lib.hid e2; clear e2
            go_wp2_with fail
            refine (inv_append hq.out c (by show (S.data.toList ++ T.data.toList).length + c.size ≤ _; rw [hll]; omega)).mono ?_
            rw [e1, E2.out]
            rintro e w5 ⟨rfl, h5⟩
            have h5' : Inv wa w5 p (mkS (S.data.toList ++ (T ++ c).data.toList) n) := by rw [ba_list, ← List.append_assoc]; exact h5
            have H6 := Lib.hid h5'; clear h5 h5' e1 hll
            go_wp2
            exact ⟨⟨j + 1, T ++ c, by omega, by go_num, rfl, by rw [ByteArray.size_append]; omega, H6⟩, by simp [intOf]; omega⟩
          · obtain ⟨K, hK⟩ : ∃ K : Nat, K = min a2.toNat T.data.toList.length := ⟨_, rfl⟩
            have hTl : T.data.toList.length = T.size := by simp
            have hSl : S.data.toList.length = n := by rw [HN.out]; simp
            have hcr := mkS_crash S.data.toList T.data.toList a3.data.toList a2 K hK
            rw [hSl] at hcr
            rw [hTl] at hK
            obtain ⟨O, hO⟩ : ∃ O, O = overlay (T.data.toList.take K) a3.data.toList := ⟨_, rfl⟩
            rw [← hO] at hcr
            have hOl : O.length = K := by rw [hO, overlay_len, List.length_take]; omega
            have hOat : ∀ i, i < K → ∃ x : UInt8, O[i]? = some x ∧ (i < a3.size → ∃ h2, x = a3[i]'h2) ∧ (¬ i < a3.size → ∃ h2, x = T[i]'h2) := fun i h => by
              have hov := overlay_at (T.data.toList.take K) a3.data.toList i (by rw [List.length_take]; omega)
              refine ⟨O[i]'(by omega), List.getElem?_eq_getElem _, ?_, ?_⟩
              · intro h3
                refine ⟨h3, ?_⟩
                simp only [hO]
                rw [hov, dif_pos (by simpa using h3)]; rfl
              · intro h3
                refine ⟨by omega, ?_⟩
                simp only [hO]
                rw [hov, dif_neg (by simpa using h3), List.getElem_take]; rfl
            have HO := Lib.hid hOat; clear hOat hO
            have HCR := Lib.hid hcr; clear hcr
            obtain ⟨G, hG⟩ : ∃ G : ByteArray, G = ⟨(S.data.toList ++ O).toArray⟩ := ⟨_, rfl⟩
            have hGl : G.data.toList = S.data.toList ++ O := by rw [hG]
            have hGs : G.size = n + K := by
              have : G.data.toList.length = G.size := by simp
              rw [← this, hGl, List.length_append, hSl, hOl]
            obtain ⟨R, hR⟩ : ∃ R : ByteArray, R = ⟨O.toArray⟩ := ⟨_, rfl⟩
            have hRl : R.data.toList = O := by rw [hR]
            have hRs : R.size = K := by
              have : R.data.toList.length = R.size := by simp
              rw [← this, hRl, hOl]
            have hsl1 : ∀ w, (Instr.slice 9 (.string G) none (some (.int .i64 (n : Int))) none).run Try.prog w = .ok (.string S) w := fun w => by
              rw [run_slice_string_h (P := Try.prog) (w := w) (t := 9) (s := G) (ht := Try.underlying9) (kh := .i64) (h := (n : Int)) (h0 := by omega) (h2 := by rw [hGs]; omega), Int.toNat_natCast]
              congr 2
              apply ba_ext
              rw [extract_list, hGl, List.drop_zero, List.take_left' hSl]
            have hsl2 : ∀ w, (Instr.slice 9 (.string G) (some (.int .i64 (n : Int))) none none).run Try.prog w = .ok (.string R) w := fun w => by
              rw [run_slice_string_l (P := Try.prog) (w := w) (t := 9) (s := G) (ht := Try.underlying9) (kl := .i64) (l := (n : Int)) (h0 := by omega) (h1 := by rw [hGs]; omega), Int.toNat_natCast]
              congr 2
              apply ba_ext
              rw [extract_list, hGl, hGs, List.take_of_length_le (by rw [List.length_append, hSl, hOl]; exact Nat.le_refl _), List.drop_left' hSl, hRl]
            have HG := Lib.hid hG; clear hG
            have HRl := Lib.hid hRl; clear hRl hR
            have hTn : T.size ≤ 600 := by omega
            have HNs : Hid (S.size = n) := Lib.hid (by rw [HN.out])
            have hcase2 : (j < m1 ∧ ¬ j < 10) ∨ ¬ j < m1 := by omega
            have hcase3 : (a2 < 0 ∧ K = 0) ∨ (a2 = (K : Int) ∧ K ≤ T.size) ∨ ((T.size : Int) < a2 ∧ K = T.size) := by omega
            have hKT : K ≤ T.size := by omega
            clear hK hTl
            rcases hcase2 with ⟨h3, h4⟩ | h3
            all_goals
              go_wp2_with fail
              refine (inv_crash hq.out a2 a3 hk2.1 hk2.2).mono ?_
              rw [HCR.out]
              rintro e w6 ⟨rfl, h6⟩
              have H6 := Lib.hid h6; clear h6
              go_wp2_with fail
              refine (inv_bytes H6.out).mono ?_
              rintro e w7 ⟨rfl, rfl⟩
              rw [show (ByteArray.mk (mkS (S.data.toList ++ O) (n + K)).bs.toArray) = G from HG.out.symm]
              go_wp2_with fail
              refine (inv_len H6.out).mono ?_
              rintro e w7 ⟨rfl, rfl⟩
              rw [show (mkS (S.data.toList ++ O) (n + K)).bs.length = n + K by show (S.data.toList ++ O).length = _; rw [List.length_append, hSl, hOl]]
              rw [Int.natCast_add]
              obtain ⟨cap, w8, hconv, hcap, hby, hbel⟩ := conv_bytes (P := Try.prog) w6 9 32 5 R Try.underlying9 Try.underlying32 Try.underlying5
              obtain ⟨g, hg⟩ : ∃ g, g = w6.heap.size := ⟨_, rfl⟩
              rw [← hg, hRs] at hconv
              rw [← hg, HRl.out] at hby
              rw [hRs] at hcap
              have HBy := Lib.hid hby; clear hby hg
              have H8 := Lib.hid (H6.out.step hbel); clear hbel
              have hn := HNs.out
              have HGl := Lib.hid hGl; clear hGl
              have HOl := Lib.hid hOl; clear hOl hRs hGs
              have HSl := Lib.hid hSl; clear hSl
              have hkk := hk2
              rcases hcase3 with ⟨k1, rfl⟩ | ⟨rfl, k1⟩ | ⟨k1, rfl⟩
              all_goals
                go_wp2_with fail
                have hol := HOl.out
                clear hconv hsl1 hsl2 hn
                go_loopw [15, 16, 17, 105] (fun _ _ _ cv wr => ∃ c : Nat, c ≤ O.length ∧ cv = .int .i64 c ∧ wr = w8) (fun _ _ _ cv _ => O.length - (intOf cv).toNat)
                case atStart => exact ⟨0, by omega, rfl, rfl⟩
                case round =>
                  obtain ⟨c, hc, rfl, rfl⟩ := hrel
                  by_cases hlt3 : c < O.length
                  · obtain ⟨x, hx1, hx2, hx3⟩ := HO.out c (by omega)
                    have hcell := HBy.out.1 c hlt3
                    have hx4 : O[c] = x := by rw [List.getElem?_eq_getElem hlt3] at hx1; simpa using hx1
                    rw [hx4] at hcell
                    have hcT : c < T.size := by omega
                    by_cases h5 : c < a3.size
                    · obtain ⟨h6, rfl⟩ := hx2 h5
                      clear hx1 hx2 hx3 hx4
                      go_wp2
                      all_goals exact ⟨⟨c + 1, by omega, by go_num, trivial⟩, by simp [intOf]; omega⟩
                    · obtain ⟨h6, rfl⟩ := hx3 h5
                      clear hx1 hx2 hx3 hx4
                      go_wp2
                      all_goals exact ⟨⟨c + 1, by omega, by go_num, trivial⟩, by simp [intOf]; omega⟩
                  · go_wp2_with fail
                    refine (inv_safe H8.out).mono ?_
                    rintro e w9 ⟨rfl, rfl⟩
                    rw [mkS_safe]
                    go_wp2_with fail
                    refine (inv_len H8.out).mono ?_
                    rintro e w9 ⟨rfl, rfl⟩
                    rw [show (mkS (S.data.toList ++ O) _).bs.length = (S.data.toList ++ O).length from rfl, List.length_append, HSl.out, HOl.out]
                    go_wp2
                    go_ret
                    exact ⟨rfl, below_on B1.out H8.out.bel⟩
end Go.Proofs.Ytbiegmpjekkpkaa.storeSafe
