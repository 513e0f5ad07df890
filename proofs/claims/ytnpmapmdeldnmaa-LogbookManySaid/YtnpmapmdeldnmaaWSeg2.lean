/-
  The walks of segment.Frame and segment.Open.
-/
import Derived.Test.YtnpmapmdeldnmaaWSeg1
import Derived.Deep.RegionHeld3
open Go Go.RowKit
set_option linter.unusedVariables false
namespace Go.Proofs.Ytnpmapmdeldnmaa
theorem size_list (s : ByteArray) : s.size = s.data.toList.length := by simp
theorem mk_list (b : ByteArray) : ByteArray.mk b.data.toList.toArray = b := bytes_ext (by simp)
theorem app_list (a b : ByteArray) : (a ++ b).data.toList = a.data.toList ++ b.data.toList := by simp
theorem ret_pair {a a' : ByteArray} {k k' : Int} (h : a = a') (h2 : k = k') : Ending.returned (.tuple #[.string a, .int .i64 k]) = .returned (.tuple #[.string a', .int .i64 k']) := by rw [h, h2]
set_option maxRecDepth 100000 in
set_option maxHeartbeats 1000000 in
theorem frame_any (q : Nat) (b : ByteArray) (w : World) (hq : q < 18446744073709551616) (hb : b.size ≤ 4096) :
    Calls Try.prog 20 #[.int .u64 q, .string b] w fun e w' => e = .returned (.tuple #[.string ⟨(frameL q b.data.toList).toArray⟩, .int .i64 0]) ∧ Below w.heap.size w w' := by
  have hpl := putL_len q
  have hpl2 := putL_len b.size
  have Hq := Lib.hid hq
  have hbl : b.data.toList.length = b.size := by simp
  have Hbl := Lib.hid hbl; clear hbl
  go_enter Try.func20, Try.ntmps20
  go_wp2_with fail
  refine (put_any q _ Hq.out).mono ?_
  rintro e w1 ⟨rfl, hb1⟩
  have Hb1 := Lib.hid hb1; clear hb1
  go_wp2_with fail
  refine (put_any b.size _ (by omega)).mono ?_
  rintro e w2 ⟨rfl, hb2⟩
  have Hb2 := Lib.hid (below_on Hb1.out hb2); clear hb2 Hb1
  obtain ⟨P1, hP1⟩ : ∃ P1, P1 = putL q := ⟨_, rfl⟩
  obtain ⟨P2, hP2⟩ : ∃ P2, P2 = putL b.size := ⟨_, rfl⟩
  rw [← hP1] at hpl ⊢
  rw [← hP2] at hpl2 ⊢
  have HP := Lib.hid (And.intro hP1 hP2); clear hP1 hP2
  obtain ⟨T, hT⟩ : ∃ T, T = ByteArray.mk #[83, 103] ++ ByteArray.mk P1.toArray ++ ByteArray.mk P2.toArray ++ b := ⟨_, rfl⟩
  have hTl : T.data.toList = textL q b.data.toList := by
    obtain ⟨e1, e2⟩ := HP.out
    rw [hT, app_list, app_list, app_list, textL, Hbl.out, e1, e2]; simp
  have hTs : T.size ≤ 10000 := by
    have e : T.size = T.data.toList.length := by simp
    rw [e, hTl, textL_len, Hbl.out]
    have := putL_len q; have := putL_len b.size
    omega
  have HT := Lib.hid hT
  have HTl := Lib.hid hTl; clear hTl
  go_wp2_with fail
  rw [← HT.out]
  refine (sumb_any T _ (by unfold maxLen; omega)).mono ?_
  rintro e w3 ⟨rfl, hb3⟩
  rw [HTl.out]
  have Hb3 := Lib.hid (below_on Hb2.out hb3); clear hb3 Hb2 hT
  have hfin : T ++ ByteArray.mk (sumL (crcSum (textL q b.data.toList))).toArray = ByteArray.mk (frameL q b.data.toList).toArray := by
    apply bytes_ext; rw [app_list, HTl.out]; simp [frameL]
  have HF := Lib.hid hfin; clear hfin
  have hSL := sumL_len (crcSum (textL q b.data.toList))
  generalize sumL (crcSum (textL q b.data.toList)) = SL at HF hSL ⊢
  go_wp2
  go_ret2
  exact ⟨ret_pair HF.out rfl, Hb3.out⟩
set_option maxRecDepth 100000 in
set_option maxHeartbeats 1000000 in
theorem frame_big (q : Nat) (b : ByteArray) (w : World) (hb : 4096 < b.size) (hb2 : b.size ≤ maxLen) :
    Calls Try.prog 20 #[.int .u64 q, .string b] w fun e w' => e = .returned (.tuple #[.string ⟨#[]⟩, .int .i64 3]) ∧ w = w' := by
  unfold maxLen at hb2
  go_enter Try.func20, Try.ntmps20
  go_wp2
  go_ret2
  exact ⟨rfl, rfl⟩
/-- s[lo:hi]. -/
theorem slice_mid (s : ByteArray) (lo hi : Nat) (zl zh : Int) (hl : zl = lo) (hh : zh = hi) (h : lo ≤ hi) (h2 : hi ≤ s.size) (w : World) :
    (Instr.slice 9 (.string s) (some (.int .i64 zl)) (some (.int .i64 zh)) none).run Try.prog w = .ok (.string (s.extract lo hi)) w := by
  subst hl hh
  rw [run_slice_string w 9 s .i64 .i64 (lo : Int) (hi : Int) Try.underlying9 (by omega) (by omega) (by omega)]
  rfl
/-- What Open's answer is as a value. -/
def openV (R : Nat × ByteArray × Nat × Nat) : Value := .tuple #[.int .u64 (R.1 : Int), .string R.2.1, .int .i64 (R.2.2.1 : Int), .int .i64 (R.2.2.2 : Int)]
theorem ret_open {R : Nat × ByteArray × Nat × Nat} {b : ByteArray} {a c d : Nat} (h : R = (a, b, c, d)) :
    Ending.returned (.tuple #[.int .u64 (a : Int), .string b, .int .i64 (c : Int), .int .i64 (d : Int)]) = .returned (openV R) := by rw [h]; rfl
set_option maxRecDepth 100000 in
set_option maxHeartbeats 1000000 in
theorem open_out (s : ByteArray) (a : Int) (w : World) (hs : s.size ≤ 140737488355328) (h : a < 0 ∨ (s.size : Int) < a) (h1 : -9223372036854775808 ≤ a) (h2 : a ≤ 9223372036854775807) :
    Calls Try.prog 32 #[.string s, .int .i64 a] w fun e w' => e = .returned (openV (openR s a)) ∧ Below w.heap.size w w' := by
  have hR : openR s a = (0, ⟨#[]⟩, 0, 4) := by unfold openR; rw [if_neg (by omega)]
  rw [hR]
  rcases h with h | h
  · go_enter Try.func32, Try.ntmps32
    go_wp2
    refine bodyPost_ret (results_tmp4 rfl _ _ _) rfl ?_
    exact ⟨rfl, Below.refl _ _⟩
  · go_enter Try.func32, Try.ntmps32
    go_wp2
    refine bodyPost_ret (results_tmp4 rfl _ _ _) rfl ?_
    exact ⟨rfl, Below.refl _ _⟩
set_option maxRecDepth 100000 in
set_option maxHeartbeats 1000000 in
theorem open_in (s : ByteArray) (a : Nat) (w : World) (hs : s.size ≤ 140737488355328) (ha : a ≤ s.size) :
    Calls Try.prog 32 #[.string s, .int .i64 a] w fun e w' => e = .returned (openV (openR s a)) ∧ Below w.heap.size w w' := by
  obtain ⟨R, hR⟩ : ∃ R, R = openR s a := ⟨_, rfl⟩
  rw [← hR]
  unfold openR at hR
  rw [if_pos ⟨by omega, by omega⟩, Int.toNat_natCast] at hR
  have hml : s.size ≤ maxLen := by unfold maxLen; omega
  obtain ⟨m, hm⟩ : ∃ m, m = markL (from_ s a) := ⟨_, rfl⟩
  by_cases hm0 : markL (from_ s a) = 0
  · rw [if_pos hm0] at hR
    rw [hm0] at hm
    obtain ⟨H, hH⟩ : ∃ H, headR s (a + 2) = H := ⟨_, rfl⟩
    obtain ⟨q, f, t, e⟩ := H
    rw [hH] at hR
    simp only at hR
    by_cases he : e = 0
    · subst he
      rw [if_pos rfl] at hR
      obtain ⟨q', n, f', hq1, hq2, hq3, hq4, hq5, hq6⟩ := headR_ok s (a + 2) (by rw [hH])
      rw [hH] at hq1
      simp only [Prod.mk.injEq, and_true] at hq1
      obtain ⟨rfl, rfl, ht⟩ := hq1
      have hft : f ≤ t := by omega
      have hat : a ≤ t := by omega
      have htb : t ≤ 140737488359424 := by omega
      clear hq6 hq2 hq3 hq4 ht
      have HM := Lib.hid hm0; clear hm0 hm
      have HH := Lib.hid hH; clear hH
      by_cases hend : t + 4 ≤ s.size
      · rw [if_pos hend] at hR
        have hs1 : ∀ w, (Instr.slice 9 (.string s) (some (.int .i64 (t : Int))) (some (.int .i64 ((t : Int) + 4))) none).run Try.prog w = .ok (.string (s.extract t (t + 4))) w := fun w => slice_mid s t (t + 4) _ _ rfl (by omega) (by omega) hend w
        have hs2 : ∀ w, (Instr.slice 9 (.string s) (some (.int .i64 (a : Int))) (some (.int .i64 (t : Int))) none).run Try.prog w = .ok (.string (s.extract a t)) w := fun w => slice_mid s a t _ _ rfl rfl (by omega) (by omega) w
        have hs3 : ∀ w, (Instr.slice 9 (.string s) (some (.int .i64 (f : Int))) (some (.int .i64 (t : Int))) none).run Try.prog w = .ok (.string (s.extract f t)) w := fun w => slice_mid s f t _ _ rfl rfl (by omega) (by omega) w
        have hz : (s.extract a t).size ≤ maxLen := Nat.le_trans (extract_size_le _ _ _) hml
        obtain ⟨Y, hY⟩ : ∃ Y, Y = ByteArray.mk (sumL (crcSum (s.extract a t).data.toList)).toArray := ⟨_, rfl⟩
        have hcond : ((s.extract t (t + 4)).data.toList = sumL (crcSum (s.extract a t).data.toList)) ↔ s.extract t (t + 4) = Y := by
          rw [hY]; exact ⟨fun h => bytes_ext (by rw [h]), fun h => by rw [h]⟩
        generalize s.extract t (t + 4) = X at *
        generalize s.extract f t = B at *
        generalize hT : s.extract a t = T at *
        have HY := Lib.hid hY; clear hY
        by_cases hXY : X = Y
        · rw [if_pos (hcond.2 hXY)] at hR
          subst hXY
          have HR := Lib.hid hR; clear hR hcond hT
          go_enter Try.func32, Try.ntmps32
          go_wp2_with fail
          refine (mark_any s a _ hml ha).mono ?_
          rintro e w1 ⟨rfl, hb1⟩
          rw [HM.out]
          have Hb1 := Lib.hid hb1; clear hb1
          go_wp2_with fail
          refine (head_any s (a + 2) _ hs).mono ?_
          rintro e w2 ⟨rfl, rfl⟩
          rw [HH.out]
          go_wp2_with fail
          go_region_held3 (fun w' => Below w1.heap.size w1 w') (first | exact Below.refl _ _ | exact (Below.refl _ _).drew | exact below_on (Below.refl _ _).drew hb2)
            (first | (go_at_call 28; refine (sumb_any T _ hz).mono ?_; rintro e w2 ⟨rfl, hb2⟩; rw [← HY.out]))
          all_goals
            clear hs1 hs2
            go_wp2_with fail
            go_quiet (fail)
            go_wp2
            refine bodyPost_ret (results_tmp4 rfl _ _ _) rfl ?_
            exact ⟨ret_open HR.out, below_drewN (below_on Hb1.out (by assumption)) _⟩
        · rw [if_neg (fun h => hXY (hcond.1 h))] at hR
          have hne : (X.toList == Y.toList) = false := by rw [beq_eq_false_iff_ne, ByteArray.toList_eq, ByteArray.toList_eq]; exact fun h => hXY (bytes_ext h)
          have HR := Lib.hid hR; clear hR hcond hT
          go_enter Try.func32, Try.ntmps32
          go_wp2_with fail
          refine (mark_any s a _ hml ha).mono ?_
          rintro e w1 ⟨rfl, hb1⟩
          rw [HM.out]
          have Hb1 := Lib.hid hb1; clear hb1
          go_wp2_with fail
          refine (head_any s (a + 2) _ hs).mono ?_
          rintro e w2 ⟨rfl, rfl⟩
          rw [HH.out]
          go_wp2_with fail
          go_region_held3 (fun w' => Below w1.heap.size w1 w') (first | exact Below.refl _ _ | exact (Below.refl _ _).drew | exact below_on (Below.refl _ _).drew hb2)
            (first | (go_at_call 28; refine (sumb_any T _ hz).mono ?_; rintro e w2 ⟨rfl, hb2⟩; rw [← HY.out]))
          all_goals
            clear hs1 hs2
            go_wp2
            refine bodyPost_ret (results_tmp4 rfl _ _ _) rfl ?_
            exact ⟨ret_open HR.out, below_on Hb1.out (by assumption)⟩
      · rw [if_neg hend] at hR
        have HR := Lib.hid hR; clear hR
        go_enter Try.func32, Try.ntmps32
        go_wp2_with fail
        refine (mark_any s a _ hml ha).mono ?_
        rintro e w1 ⟨rfl, hb1⟩
        rw [HM.out]
        have Hb1 := Lib.hid hb1; clear hb1
        go_wp2_with fail
        refine (head_any s (a + 2) _ hs).mono ?_
        rintro e w2 ⟨rfl, rfl⟩
        rw [HH.out]
        go_wp2
        refine bodyPost_ret (results_tmp4 rfl _ _ _) rfl ?_
        exact ⟨ret_open HR.out, Hb1.out⟩
    · rw [if_neg he] at hR
      have HR := Lib.hid hR; clear hR
      have HM := Lib.hid hm0; clear hm0 hm
      have HH := Lib.hid hH; clear hH
      have hne : ((e : Int) != 0) = true := by rw [bne_iff_ne]; omega
      clear he
      go_enter Try.func32, Try.ntmps32
      go_wp2_with fail
      refine (mark_any s a _ hml ha).mono ?_
      rintro e w1 ⟨rfl, hb1⟩
      rw [HM.out]
      have Hb1 := Lib.hid hb1; clear hb1
      go_wp2_with fail
      refine (head_any s (a + 2) _ hs).mono ?_
      rintro e w2 ⟨rfl, rfl⟩
      rw [HH.out]
      go_wp2
      refine bodyPost_ret (results_tmp4 rfl _ _ _) rfl ?_
      exact ⟨ret_open HR.out, Hb1.out⟩
  · rw [if_neg hm0] at hR
    rw [← hm] at hm0 hR
    have HR := Lib.hid hR; clear hR
    have HM := Lib.hid hm; clear hm
    have hne : ((m : Int) != 0) = true := by rw [bne_iff_ne]; omega
    clear hm0
    go_enter Try.func32, Try.ntmps32
    go_wp2_with fail
    refine (mark_any s a _ hml ha).mono ?_
    rintro e w1 ⟨rfl, hb1⟩
    rw [← HM.out]
    have Hb1 := Lib.hid hb1; clear hb1
    go_wp2
    refine bodyPost_ret (results_tmp4 rfl _ _ _) rfl ?_
    exact ⟨ret_open HR.out, Hb1.out⟩
theorem open_any (s : ByteArray) (a : Int) (w : World) (hs : s.size ≤ 140737488355328) (h1 : -9223372036854775808 ≤ a) (h2 : a ≤ 9223372036854775807) :
    Calls Try.prog 32 #[.string s, .int .i64 a] w fun e w' => e = .returned (openV (openR s a)) ∧ Below w.heap.size w w' := by
  by_cases h : a < 0 ∨ (s.size : Int) < a
  · exact open_out s a w hs h h1 h2
  · obtain ⟨k, rfl⟩ := Int.eq_ofNat_of_zero_le (show 0 ≤ a by omega)
    exact open_in s k w hs (by omega)
end Go.Proofs.Ytnpmapmdeldnmaa
