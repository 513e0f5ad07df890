/-
  The walks of the reference's Frame and Open.
-/
import Derived.Test.YtklpnkfhcaepiaaWSeg2
import Derived.Test.YtklpnkfhcaepiaaWRget
open Go Go.RowKit
set_option linter.unusedVariables false
namespace Go.Proofs.Ytklpnkfhcaepiaa
theorem sumL_snoc (n k : Nat) (hk : k < 4) : (sumL n).take (k + 1) = (sumL n).take k ++ [UInt8.ofNat (n / 256 ^ k)] := by
  rw [List.take_succ_eq_append_getElem (by rw [sumL_len]; exact hk), sum_byte n k hk, show 8 * k = k * 8 by omega, Nat.mul_comm k 8, Nat.pow_mul]
set_option maxRecDepth 100000 in
set_option maxHeartbeats 1000000 in
theorem rframe_any (q : Nat) (b : ByteArray) (w : World) (hq : q < 18446744073709551616) (hb : b.size ≤ 4096) :
    Calls Try.prog 16 #[.int .u64 q, .string b] w fun e w' => e = .returned (.string ⟨(frameL q b.data.toList).toArray⟩) ∧ Below w.heap.size w w' := by
  have hpl := putL_len q
  have hpl2 := putL_len b.size
  have Hq := Lib.hid hq
  have hbl : b.data.toList.length = b.size := by simp
  have Hbl := Lib.hid hbl; clear hbl
  go_enter Try.func16, Try.ntmps16
  go_wp2_with fail
  refine (rput_any 10 q _ (lim10 q Hq.out) Hq.out).mono ?_
  rintro e w1 ⟨rfl, hb1⟩
  have Hb1 := Lib.hid hb1; clear hb1
  go_wp2_with fail
  refine (rput_any 10 b.size _ (lim10 _ (by omega)) (by omega)).mono ?_
  rintro e w2 ⟨rfl, hb2⟩
  have Hb2 := Lib.hid (below_on Hb1.out hb2); clear hb2 Hb1
  obtain ⟨P1, hP1⟩ : ∃ P1, P1 = putL q := ⟨_, rfl⟩
  obtain ⟨P2, hP2⟩ : ∃ P2, P2 = putL b.size := ⟨_, rfl⟩
  rw [← hP1] at hpl ⊢
  rw [← hP2] at hpl2 ⊢
  have HP := Lib.hid (And.intro hP1 hP2); clear hP1 hP2
  obtain ⟨T, hT⟩ : ∃ T, T = ByteArray.mk #[83, 103] ++ ByteArray.mk P1.toArray ++ ByteArray.mk P2.toArray ++ b := ⟨_, rfl⟩
  have hTl : T.data.toList = textL q b.data.toList := by
    obtain ⟨e1, e2⟩ := HP.out
    rw [hT, app_list, app_list, app_list, textL, Hbl.out, e1, e2]; simp
  have hTs : T.size ≤ 10000 := by
    have e : T.size = T.data.toList.length := by simp
    rw [e, hTl, textL_len, Hbl.out]
    have := putL_len q; have := putL_len b.size
    omega
  have HT := Lib.hid hT
  have HTl := Lib.hid hTl; clear hTl
  go_wp2_with fail
  rw [← HT.out]
  refine (rsum_any T _ (by unfold maxLen; omega)).mono ?_
  rintro e w3 ⟨rfl, rfl⟩
  obtain ⟨n, hn⟩ : ∃ n, n = crcSum T.data.toList := ⟨_, rfl⟩
  have hn2 : n < 4294967296 := by rw [hn]; exact crcSum_lt _
  rw [← hn]
  have Hn := Lib.hid hn; clear hn
  clear hT
  go_wp2_with fail
  go_loopw [5, 6, 7] (fun tv sv i wr => ∃ k m : Nat, ∃ U : ByteArray, k ≤ 4 ∧ m < 4294967296 ∧ U.size ≤ 10000 + k ∧ i = .int .i64 k ∧ sv = .int .u32 m ∧ tv = .string U ∧ Hid (m = n / 256 ^ k ∧ U.data.toList = T.data.toList ++ (sumL n).take k ∧ Below w.heap.size w wr)) (fun _ _ i _ => 4 - (intOf i).toNat)
  case atStart => exact ⟨0, n, T, by omega, hn2, by omega, rfl, rfl, rfl, by simp, by simp, Hb2.out⟩
  case round =>
    obtain ⟨k, m, U, hk, hm, hU, rfl, rfl, rfl, hr⟩ := hrel
    by_cases hk4 : k < 4
    · have hcv : ∀ W b, W.cell? ⟨b, 0, none⟩ = some (.int .u8 ((m : Int) % 256)) → (convert 36 9 (.slice (some ⟨b, 0, none⟩) 1 1)).run Try.prog W = .ok (.string ⟨#[UInt8.ofNat m]⟩) W := fun W b hc => conv_one W b _ _ (by simp) hc
      go_wp2
      refine ⟨⟨k + 1, m / 256, U ++ ⟨#[UInt8.ofNat m]⟩, by omega, by omega, ?_, by go_num, by go_num, rfl, ?_⟩, by simp [intOf]; omega⟩
      · rw [ByteArray.size_append]; show U.size + 1 ≤ _; omega
      · obtain ⟨h1, h2, h3⟩ := hr.out
        refine ⟨by rw [h1, Nat.div_div_eq_div_mul, Nat.pow_succ], ?_, h3.alloc h3.size _⟩
        rw [app_list, h2, sumL_snoc n k hk4, ← h1, List.append_assoc]
    · obtain rfl : k = 4 := by omega
      go_wp2
      go_ret
      obtain ⟨h1, h2, h3⟩ := hr.out
      refine ⟨ret_string (bytes_ext ?_), h3⟩
      rw [h2, List.take_of_length_le (by rw [sumL_len]; omega), Hn.out, HTl.out]
      simp [frameL]
theorem mark_slice (k : Nat) (hk : k < 2) (z z1 : Int) (hz : z = k) (hz1 : z1 = (k : Int) + 1) (w : World) :
    (Instr.slice 9 (.string ⟨#[83, 103]⟩) (some (.int .i64 z)) (some (.int .i64 z1)) none).run Try.prog w = .ok (.string ⟨#[markB k]⟩) w := by
  rw [slice_mid ⟨#[83, 103]⟩ k (k + 1) z z1 hz (by omega) (by omega) (by show k + 1 ≤ 2; omega)]
  match k, hk with
  | 0, _ => rfl
  | 1, _ => rfl
theorem one_slice (s : ByteArray) (k : Nat) (hk : k < s.size) (z z1 : Int) (hz : z = k) (hz1 : z1 = (k : Int) + 1) (w : World) :
    (Instr.slice 9 (.string s) (some (.int .i64 z)) (some (.int .i64 z1)) none).run Try.prog w = .ok (.string ⟨#[s[k]]⟩) w := by
  rw [slice_mid s k (k + 1) z z1 hz (by omega) (by omega) (by omega)]
  congr 2
  apply bytes_ext
  rw [extract_from, from_cons s k hk, show k + 1 - k = 1 by omega]; rfl
set_option maxRecDepth 100000 in
set_option maxHeartbeats 1000000 in
theorem ropen_in (s : ByteArray) (a : Nat) (w : World) (hs : s.size ≤ 4294967296) (ha : a ≤ s.size) :
    Calls Try.prog 17 #[.string s, .int .i64 a] w fun e w' => e = .returned (openV (openR s a)) ∧ Below w.heap.size w w' := by
  obtain ⟨R, hR⟩ : ∃ R, R = openR s a := ⟨_, rfl⟩
  rw [← hR]
  unfold openR at hR
  rw [if_pos ⟨by omega, by omega⟩, Int.toNat_natCast] at hR
  have HR := Lib.hid hR; clear hR
  go_enter Try.func17, Try.ntmps17
  go_wp2_with fail
  go_loopw [8] (fun i wr => ∃ k : Nat, k ≤ 2 ∧ a + k ≤ s.size ∧ i = .int .i64 k ∧ Hid (markL (from_ s a) = markK k (from_ s (a + k)) ∧ Below w.heap.size w wr)) (fun i _ => 2 - (intOf i).toNat)
  case atStart => exact ⟨0, by omega, by omega, rfl, rfl, Below.refl _ _⟩
  case round =>
    obtain ⟨k, hk, hak, rfl, hr⟩ := hrel
    by_cases hk2 : k < 2
    · have hzk := hr.out.1
      by_cases he : a + k = s.size
      · have He : ((a : Int) + k == s.size) = true := by simp; omega
        rw [from_nil s (a + k) (by omega), markK_nil k hk2] at hzk
        have hR := HR.out
        rw [hzk] at hR
        rw [if_neg (by decide)] at hR
        have HR' := Lib.hid hR; clear hR hzk
        have He' := Lib.hid he; clear he
        go_wp2
        refine bodyPost_ret (results_tmp4 rfl _ _ _) rfl ?_
        exact ⟨ret_open HR'.out, hr.out.2⟩
      · have hlt : a + k < s.size := by omega
        have He : ((a : Int) + k == s.size) = false := by simp; omega
        have hms := mark_slice k hk2
        have hos := one_slice s (a + k) hlt
        rw [from_cons s (a + k) hlt, markK_cons k hk2] at hzk
        generalize s[a + k] = b at hzk hos
        have hms1 : ∀ w, (Instr.slice 9 (.string ⟨#[83, 103]⟩) (some (.int .i64 (k : Int))) (some (.int .i64 ((k : Int) + 1))) none).run Try.prog w = .ok (.string ⟨#[markB k]⟩) w := fun w => hms _ _ rfl rfl w
        have hos1 : ∀ w, (Instr.slice 9 (.string s) (some (.int .i64 ((a : Int) + k))) (some (.int .i64 ((a : Int) + k + 1))) none).run Try.prog w = .ok (.string ⟨#[b]⟩) w := fun w => hos _ _ (by omega) (by omega) w
        clear hms hos
        by_cases hb : b = markB k
        · rw [if_pos hb] at hzk
          have hne : (b == markB k) = true := by rw [beq_iff_eq]; exact hb
          generalize markB k = m at *
          have Hzk := Lib.hid hzk; clear hzk
          have Hb := Lib.hid hb; clear hb
          go_wp2_with fail
          go_quiet (fail)
          go_wp2
          exact ⟨⟨k + 1, by omega, by omega, by go_num, by rw [Hzk.out]; rfl, below_drewN hr.out.2 _⟩, by simp [intOf]; omega⟩
        · rw [if_neg hb] at hzk
          have hne : (b == markB k) = false := by rw [beq_eq_false_iff_ne]; exact hb
          generalize markB k = m at *
          have hR := HR.out
          rw [hzk] at hR
          rw [if_neg (by decide)] at hR
          have HR' := Lib.hid hR; clear hR hzk
          have Hb := Lib.hid hb; clear hb
          go_wp2_with fail
          go_quiet (fail)
          go_wp2
          refine bodyPost_ret (results_tmp4 rfl _ _ _) rfl ?_
          exact ⟨ret_open HR'.out, below_drewN hr.out.2 _⟩
    · obtain rfl : k = 2 := by omega
      have hm0 : markL (from_ s a) = 0 := hr.out.1
      have hb0 := hr.out.2
      have hR := HR.out
      rw [if_pos hm0] at hR
      have HB := Lib.hid hb0; clear hb0 hr HR
      obtain ⟨n1, c1, e1, hg⟩ : ∃ n c e, getR s ((a : Int) + 2) = (n, c, e) := ⟨_, _, _, rfl⟩
      obtain ⟨H, hH⟩ : ∃ H, headR s (a + 2) = H := ⟨_, rfl⟩
      have hH' := hH
      unfold headR at hH'
      rw [show ((a + 2 : Nat) : Int) = (a : Int) + 2 by omega, hg] at hH'
      simp only at hH'
      rw [hH] at hR
      by_cases he1 : e1 = 0
      · subst he1
        rw [if_pos rfl] at hH'
        obtain ⟨G, hg2⟩ : ∃ G, getR s (c1 : Nat) = G := ⟨_, rfl⟩
        obtain ⟨n2, c2, e2⟩ := G
        rw [hg2] at hH'
        simp only at hH'
        by_cases he2 : e2 = 0
        · subst he2
          rw [if_pos rfl] at hH'
          have HG := Lib.hid hg; clear hg
          have HG2 := Lib.hid hg2; clear hg2
          by_cases hle : n2 ≤ 4096
          · rw [if_pos hle] at hH'
            subst hH'
            simp only [if_true] at hR
            obtain ⟨q', n', f', hq1, hq2, hq3, hq4, hq5, hq6⟩ := headR_ok s (a + 2) (by rw [hH])
            have htx := text_of_head s a n1 c2 n2 hm0 hH
            rw [hH] at hq1
            simp only [Prod.mk.injEq, and_true] at hq1
            obtain ⟨rfl, rfl, ht⟩ := hq1
            have Hn1 := Lib.hid hq2
            clear hq6 hq2 hq3 ht hH
            by_cases hend : c2 + n2 + 4 ≤ s.size
            · rw [if_pos hend] at hR
              obtain ⟨t1, t2, t3, t4, t5⟩ := htx (by omega)
              have hat : a ≤ c2 + n2 := by omega
              have hs1 : ∀ w, (Instr.slice 9 (.string s) (some (.int .i64 (c2 : Int))) (some (.int .i64 ((c2 : Int) + n2))) none).run Try.prog w = .ok (.string (s.extract c2 (c2 + n2))) w := fun w => slice_mid s c2 (c2 + n2) _ _ rfl (by omega) (by omega) (by omega) w
              have hs2 : ∀ w, (Instr.slice 9 (.string s) (some (.int .i64 (a : Int))) (some (.int .i64 ((c2 : Int) + n2 + 4))) none).run Try.prog w = .ok (.string (s.extract a (c2 + n2 + 4))) w := fun w => slice_mid s a (c2 + n2 + 4) _ _ rfl (by omega) (by omega) hend w
              have hX : (s.extract a (c2 + n2 + 4)).data.toList = textL n1 (s.extract c2 (c2 + n2)).data.toList ++ (s.extract (c2 + n2) (c2 + n2 + 4)).data.toList := by
                rw [← t5, extract_from, extract_from, extract_from, show c2 + n2 + 4 - a = (c2 + n2 - a) + 4 by omega, List.take_add, ← from_add, show a + (c2 + n2 - a) = c2 + n2 by omega, show c2 + n2 + 4 - (c2 + n2) = 4 by omega]
              rw [t5] at hR
              have hcond : ((s.extract (c2 + n2) (c2 + n2 + 4)).data.toList = sumL (crcSum (textL n1 (s.extract c2 (c2 + n2)).data.toList))) ↔ ByteArray.mk (frameL n1 (s.extract c2 (c2 + n2)).data.toList).toArray = s.extract a (c2 + n2 + 4) := by
                constructor
                · intro h; apply bytes_ext; rw [hX, h]; rfl
                · intro h
                  have h2 := congrArg (fun x : ByteArray => x.data.toList) h
                  simp only [hX] at h2
                  exact (List.append_cancel_left h2).symm
              have hBs : (s.extract c2 (c2 + n2)).size ≤ 4096 := by
                rw [size_list, t4]; exact t2
              have hw1 : IntKind.i64.wrap ((c2 : Int) + n2 + 4) = (c2 : Int) + n2 + 4 := by rw [IntKind.wrap_i64]; omega
              clear t3 t4 t5 hX htx
              generalize s.extract (c2 + n2) (c2 + n2 + 4) = E at *
              generalize s.extract c2 (c2 + n2) = B at *
              generalize s.extract a (c2 + n2 + 4) = X at *
              obtain ⟨Y, hY⟩ : ∃ Y, Y = ByteArray.mk (frameL n1 B.data.toList).toArray := ⟨_, rfl⟩
              rw [← hY] at hcond
              have HY := Lib.hid hY; clear hY
              by_cases hXY : Y = X
              · rw [if_pos (hcond.2 hXY)] at hR
                subst hXY
                have HR := Lib.hid hR; clear hR hcond
                go_wp2_with fail
                refine (rget_any s _ _ hs).mono ?_
                rintro e w1 ⟨rfl, rfl⟩
                rw [HG.out]
                go_wp2_with fail
                refine (rget_any s _ _ hs).mono ?_
                rintro e w1 ⟨rfl, rfl⟩
                rw [HG2.out]
                go_wp2_with fail
                go_region_held3 (fun w' => Below wr.heap.size wr w') (first | exact Below.refl _ _ | exact (Below.refl _ _).drew | exact below_on (Below.refl _ _).drew hb2)
                  (first | (go_at_call 16; refine (rframe_any n1 B _ Hn1.out hBs).mono ?_; rintro e w2 ⟨rfl, hb2⟩; rw [← HY.out]))
                all_goals
                  clear hs2
                  go_wp2_with fail
                  go_quiet (fail)
                  go_wp2
                  refine bodyPost_ret (results_tmp4 rfl _ _ _) rfl ?_
                  exact ⟨ret_open HR.out, below_drewN (below_on HB.out (by assumption)) _⟩
              · rw [if_neg (fun h => hXY (hcond.1 h))] at hR
                have hne : (Y.toList == X.toList) = false := by rw [beq_eq_false_iff_ne, ByteArray.toList_eq, ByteArray.toList_eq]; exact fun h => hXY (bytes_ext h)
                have HR := Lib.hid hR; clear hR hcond
                go_wp2_with fail
                refine (rget_any s _ _ hs).mono ?_
                rintro e w1 ⟨rfl, rfl⟩
                rw [HG.out]
                go_wp2_with fail
                refine (rget_any s _ _ hs).mono ?_
                rintro e w1 ⟨rfl, rfl⟩
                rw [HG2.out]
                go_wp2_with fail
                go_region_held3 (fun w' => Below wr.heap.size wr w') (first | exact Below.refl _ _ | exact (Below.refl _ _).drew | exact below_on (Below.refl _ _).drew hb2)
                  (first | (go_at_call 16; refine (rframe_any n1 B _ Hn1.out hBs).mono ?_; rintro e w2 ⟨rfl, hb2⟩; rw [← HY.out]))
                all_goals
                  clear hs2
                  go_wp2
                  refine bodyPost_ret (results_tmp4 rfl _ _ _) rfl ?_
                  exact ⟨ret_open HR.out, below_on HB.out (by assumption)⟩
            · rw [if_neg hend] at hR
              have HR := Lib.hid hR; clear hR htx
              go_wp2_with fail
              refine (rget_any s _ _ hs).mono ?_
              rintro e w1 ⟨rfl, rfl⟩
              rw [HG.out]
              go_wp2_with fail
              refine (rget_any s _ _ hs).mono ?_
              rintro e w1 ⟨rfl, rfl⟩
              rw [HG2.out]
              go_wp2
              refine bodyPost_ret (results_tmp4 rfl _ _ _) rfl ?_
              exact ⟨ret_open HR.out, HB.out⟩
          · rw [if_neg hle] at hH'
            subst hH'
            simp only at hR
            rw [if_neg (by decide)] at hR
            have HR := Lib.hid hR; clear hR
            go_wp2_with fail
            refine (rget_any s _ _ hs).mono ?_
            rintro e w1 ⟨rfl, rfl⟩
            rw [HG.out]
            go_wp2_with fail
            refine (rget_any s _ _ hs).mono ?_
            rintro e w1 ⟨rfl, rfl⟩
            rw [HG2.out]
            go_wp2
            refine bodyPost_ret (results_tmp4 rfl _ _ _) rfl ?_
            exact ⟨ret_open HR.out, HB.out⟩
        · rw [if_neg he2] at hH'
          subst hH'
          simp only at hR
          rw [if_neg he2] at hR
          have HG := Lib.hid hg; clear hg
          have HG2 := Lib.hid hg2; clear hg2
          have HR := Lib.hid hR; clear hR
          have hne : ((e2 : Int) != 0) = true := by rw [bne_iff_ne]; omega
          clear he2 hH
          go_wp2_with fail
          refine (rget_any s _ _ hs).mono ?_
          rintro e w1 ⟨rfl, rfl⟩
          rw [HG.out]
          go_wp2_with fail
          refine (rget_any s _ _ hs).mono ?_
          rintro e w1 ⟨rfl, rfl⟩
          rw [HG2.out]
          go_wp2
          refine bodyPost_ret (results_tmp4 rfl _ _ _) rfl ?_
          exact ⟨ret_open HR.out, HB.out⟩
      · rw [if_neg he1] at hH'
        subst hH'
        simp only at hR
        rw [if_neg he1] at hR
        have HG := Lib.hid hg; clear hg
        have HR := Lib.hid hR; clear hR
        have hne : ((e1 : Int) != 0) = true := by rw [bne_iff_ne]; omega
        clear he1 hH
        go_wp2_with fail
        refine (rget_any s _ _ hs).mono ?_
        rintro e w1 ⟨rfl, rfl⟩
        rw [HG.out]
        go_wp2
        refine bodyPost_ret (results_tmp4 rfl _ _ _) rfl ?_
        exact ⟨ret_open HR.out, HB.out⟩
set_option maxRecDepth 100000 in
set_option maxHeartbeats 1000000 in
theorem ropen_any (s : ByteArray) (a : Int) (w : World) (hs : s.size ≤ 4294967296) :
    Calls Try.prog 17 #[.string s, .int .i64 a] w fun e w' => e = .returned (openV (openR s a)) ∧ Below w.heap.size w w' := by
  by_cases h : a < 0 ∨ (s.size : Int) < a
  · have hR : openR s a = (0, ⟨#[]⟩, 0, 4) := by unfold openR; rw [if_neg (by omega)]
    rw [hR]
    rcases h with h | h
    · go_enter Try.func17, Try.ntmps17
      go_wp2
      refine bodyPost_ret (results_tmp4 rfl _ _ _) rfl ?_
      exact ⟨rfl, Below.refl _ _⟩
    · go_enter Try.func17, Try.ntmps17
      go_wp2
      refine bodyPost_ret (results_tmp4 rfl _ _ _) rfl ?_
      exact ⟨rfl, Below.refl _ _⟩
  · obtain ⟨k, rfl⟩ := Int.eq_ofNat_of_zero_le (show 0 ≤ a by omega)
    exact ropen_in s k w hs (by omega)
/-- Answers that the document fixes. -/
theorem aw5_frame : (frameL 0 []).length = 8 := by rw [frameL_len]; rfl
theorem aw5_head : (frameL 0 []).take 4 = [83, 103, 0, 0] := by rw [frameL_eq]; rfl
theorem aw5_open : openR ⟨#[83, 104]⟩ 0 = (0, ⟨#[]⟩, 0, 1) := by decide +kernel
set_option maxRecDepth 100000 in
set_option maxHeartbeats 1000000 in
theorem awake5_any (w : World) : Calls Try.prog 13 #[] w fun e w' => e = .returned (.bool true) ∧ Below w.heap.size w w' := by
  have h8 := aw5_frame
  have h4 := aw5_head
  obtain ⟨F, hF⟩ : ∃ F, F = ByteArray.mk (frameL 0 []).toArray := ⟨_, rfl⟩
  have hFs : F.size = 8 := by rw [hF, size_list]; exact h8
  have hsl : ∀ w, (Instr.slice 9 (.string F) none (some (.int .i64 4)) none).run Try.prog w = .ok (.string ⟨#[83, 103, 0, 0]⟩) w := fun w => by
    rw [run_slice_string_h w 9 F Try.underlying9 .i64 4 (by omega) (by omega)]
    congr 2
    apply bytes_ext
    rw [extract_list, hF]
    simpa using h4
  have HF := Lib.hid hF; clear hF h8 h4
  go_enter Try.func13, Try.ntmps13
  go_wp2_with fail
  refine (frame_any 0 ⟨#[]⟩ _ (by omega) (by decide)).mono ?_
  rintro e w1 ⟨rfl, hb1⟩
  rw [show (ByteArray.mk #[]).data.toList = [] from rfl, ← HF.out]
  have Hb1 := Lib.hid hb1; clear hb1
  go_wp2_with fail
  refine (open_any ⟨#[83, 104]⟩ 0 _ (by decide) (by omega) (by omega)).mono ?_
  rintro e w2 ⟨rfl, hb2⟩
  rw [aw5_open]
  unfold openV
  have Hb2 := Lib.hid (below_on Hb1.out hb2); clear hb2 Hb1
  go_wp2
  go_ret
  exact ⟨rfl, Hb2.out⟩
end Go.Proofs.Ytklpnkfhcaepiaa
