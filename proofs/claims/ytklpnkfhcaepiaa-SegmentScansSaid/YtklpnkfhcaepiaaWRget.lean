/-
  The walk of the reference's Get.
-/
import Derived.Test.YtklpnkfhcaepiaaRows
import Derived.Test.YtklpnkfhcaepiaaWGet
open Go Go.RowKit
set_option linter.unusedVariables false
namespace Go.Proofs.Ytklpnkfhcaepiaa
theorem index_run (s : ByteArray) (i : Nat) (h : i < s.size) (z : Int) (hz : z = i) (w : World) :
    (Instr.index 9 (.string s) (.int .i64 z)).run Try.prog w = .ok (.int .u8 s[i].toNat) w := by
  subst hz
  rw [run_index_string w _ s .i64 _ Try.underlying9, dif_pos ⟨by omega, by omega⟩]; rfl
set_option maxRecDepth 100000 in
set_option maxHeartbeats 1000000 in
theorem rget_in (s : ByteArray) (a : Nat) (w : World) (hs : s.size ≤ 4294967296) (h2 : a ≤ s.size) :
    Calls Try.prog 45 #[.string s, .int .i64 a] w fun e w' =>
      e = .returned (.tuple #[.int .u64 ((getR s a).1 : Int), .int .i64 ((getR s a).2.1 : Int), .int .i64 ((getR s a).2.2 : Int)]) ∧ w = w' := by
  have H : ∀ n c e, getL 10 0 (from_ s a) = (n, c, e) → getR s a = if e = 0 then (n, a + c, 0) else (0, 0, e) := fun n c e h => getR_of s a n c e h2 h
  generalize getR s a = R at H ⊢
  obtain ⟨R1, R2, R3⟩ := R
  have HG := Lib.hid H; clear H
  go_enter Try.func45, Try.ntmps45
  go_wp2
  go_loop [7] (fun m => ∃ c : Nat, c ≤ 10 ∧ a + c ≤ s.size ∧ m = .int .i64 ((a : Int) + c) ∧ Hid (comb (accF (from_ s a) c) c (getL (10 - c) c (from_ s (a + c))) = getL 10 0 (from_ s a))) (fun m => 10 + a - (intOf m).toNat)
  case atStart => exact ⟨0, by omega, by omega, by simp, comb_zero _ _ _ (getL_clean _ _ _)⟩
  case round =>
    obtain ⟨c, hc, hac, rfl, hG⟩ := hrel
    by_cases hc10 : c < 10
    · have hf : Hid (10 - c = (9 - c) + 1) := Lib.hid (by omega)
      by_cases hlt : a + c < s.size
      · have hix : ∀ w, (Instr.index 9 (.string s) (.int .i64 ((a : Int) + c))).run Try.prog w = .ok (.int .u8 s[a + c].toNat) w := fun w => index_run s (a + c) hlt _ (by simp) w
        have hfc := from_cons s (a + c) hlt
        have hgd := from_getD s a c hlt
        have hb := s[a + c].toNat_lt
        generalize s[a + c] = b at hix hfc hb hgd
        have Hfc := Lib.hid hfc; clear hfc
        have Hgd := Lib.hid hgd; clear hgd
        by_cases hb8 : 128 ≤ b.toNat
        · go_wp2
          refine ⟨⟨c + 1, by omega, by omega, by go_num, ?_⟩, by simp [intOf]; omega⟩
          show _ = _
          rw [← hG.out, hf.out, Hfc.out, comb_step _ _ _ _ _ hb8, show 10 - (c + 1) = 9 - c by omega, Nat.add_assoc, accF, Hgd.out]
        · cases hE : endB c b.toNat
          · have HE := Lib.hid hE; clear hE
            have HGe : getL 10 0 (from_ s a) = (0, 0, 1) := by rw [← hG.out, hf.out, Hfc.out, comb_bad _ _ _ _ _ hb8 HE.out]
            have HR := HG.out _ _ _ HGe
            obtain ⟨rfl, rfl, rfl⟩ : R1 = 0 ∧ R2 = 0 ∧ R3 = 1 := by simpa using HR
            clear HR HGe
            have hcase : (b.toNat = 0 ∧ 0 < c) ∨ (b.toNat ≠ 0 ∧ c = 9 ∧ 1 < b.toNat) := by
              have := HE.out
              unfold endB at this
              split at this
              · simp at this; omega
              · simp at this; omega
            rcases hcase with ⟨hb0, hc0⟩ | ⟨hb0, hc9, hb1⟩
            · go_wp2
              go_ret3
              exact ⟨rfl, rfl⟩
            · have h9 : ((a : Int) + c == (a : Int) + 9) = true := by rw [beq_iff_eq]; omega
              have h0 : ((b.toNat : Int) == 0) = false := by rw [beq_eq_false_iff_ne]; omega
              have Hc9 := Lib.hid hc9; clear hc9
              clear hb0
              go_wp2
              go_ret3
              exact ⟨rfl, rfl⟩
          · have HE := Lib.hid hE; clear hE
            have HGe : getL 10 0 (from_ s a) = (accF (from_ s a) (c + 1), c + 1, 0) := by rw [← hG.out, hf.out, Hfc.out, comb_last _ _ _ _ _ hb8 HE.out, accF, Hgd.out]
            have HR := HG.out _ _ _ HGe
            rw [if_pos rfl] at HR
            have hk : c ≤ 8 ∨ (c = 9 ∧ b.toNat ≤ 1) := by
              by_cases h9 : c = 9
              · subst h9; have := HE.out; simp [endB] at this; omega
              · omega
            have hT := acc_most (from_ s a) c b.toNat (by rw [Hgd.out]) hk
            have hT' := Lib.hid hT; clear hT
            obtain ⟨rfl, rfl, rfl⟩ : R1 = accF (from_ s a) (c + 1) ∧ R2 = a + (c + 1) ∧ R3 = 0 := by simpa using HR
            clear HR HGe HG
            have hcase : (b.toNat = 0 ∧ c = 0) ∨ (b.toNat ≠ 0 ∧ c ≠ 9) ∨ (b.toNat ≠ 0 ∧ c = 9 ∧ ¬ 1 < b.toNat) := by
              have := HE.out
              unfold endB at this
              split at this
              · simp at this; omega
              · simp at this; omega
            clear hk
            clear HE
            rcases (show (((b.toNat : Int) == 0) = true ∧ ¬ (a : Int) < a + c ∧ ((a : Int) + c == (a : Int) + 9) = false) ∨ (((b.toNat : Int) == 0) = false ∧ ((a : Int) + c == (a : Int) + 9) = false ∧ True) ∨ (((b.toNat : Int) == 0) = false ∧ ((a : Int) + c == (a : Int) + 9) = true ∧ ¬ 1 < (b.toNat : Int)) from by
              rcases hcase with ⟨h, h'⟩ | ⟨h, h'⟩ | ⟨h, h', h''⟩
              · exact .inl ⟨by rw [beq_iff_eq]; omega, by omega, by rw [beq_eq_false_iff_ne]; omega⟩
              · exact .inr (.inl ⟨by rw [beq_eq_false_iff_ne]; omega, by rw [beq_eq_false_iff_ne]; omega, trivial⟩)
              · exact .inr (.inr ⟨by rw [beq_eq_false_iff_ne]; omega, by rw [beq_iff_eq]; omega, by omega⟩)) with ⟨t1, t2, t3⟩ | ⟨t1, t2, t3⟩ | ⟨t1, t2, t3⟩
            all_goals
              clear hcase
              go_wp2
              go_loop [8, 9] (fun n i => ∃ d q : Nat, ∃ z : Int, d ≤ c + 1 ∧ n = .int .u64 q ∧ i = .int .i64 z ∧ Hid (z + 1 = a + d) ∧ Hid (q * 2 ^ (7 * d) + accF (from_ s a) d = accF (from_ s a) (c + 1))) (fun _ i => (intOf i + 1 - a).toNat)
              case atStart => exact ⟨c + 1, 0, _, by omega, rfl, rfl, Lib.hid (by omega), Lib.hid (horner_start _ _)⟩
              case round =>
                obtain ⟨d, q, z, hd, rfl, rfl, hz, hq⟩ := hrel
                cases d with
                | zero =>
                  have hz1 : z < a := by have := hz.out; omega
                  go_wp2
                  go_ret3
                  exact ⟨ret_get (by have := horner_end _ _ _ hq.out; omega) (by omega) rfl, rfl⟩
                | succ d =>
                  have hz1 : (a : Int) ≤ z := by have := hz.out; omega
                  have hz2 : z < s.size := by have := hz.out; omega
                  have hix2 : ∀ w, (Instr.index 9 (.string s) (.int .i64 z)).run Try.prog w = .ok (.int .u8 s[a + d].toNat) w := fun w => index_run s (a + d) (by omega) _ (by have := hz.out; omega) w
                  have hgd2 := from_getD s a d (by omega)
                  have hb2 := s[a + d].toNat_lt
                  generalize s[a + d] = b2 at hix2 hgd2 hb2
                  have hh := horner _ d q _ hq.out hT'.out
                  rw [hgd2] at hh
                  have hlt2 : 128 * (q : Int) + (b2.toNat : Int) % 128 ≤ 18446744073709551615 := by omega
                  have hlt3 : (q : Int) ≤ 144115188075855871 := by omega
                  have Hh := Lib.hid hh; clear hh
                  have Hgd2 := Lib.hid hgd2; clear hgd2
                  go_wp2
                  exact ⟨⟨d, 128 * q + b2.toNat % 128, z - 1, by omega, congrArg (Value.int .u64) (by omega), rfl, Lib.hid (by have := hz.out; omega), Lib.hid Hh.out.1⟩, by simp [intOf]; omega⟩
      · have hn : a + c = s.size := by omega
        have HGe : getL 10 0 (from_ s a) = (0, 0, 2) := by rw [← hG.out, hf.out, from_nil s (a + c) (by omega), comb_end]
        have HR := HG.out _ _ _ HGe
        obtain ⟨rfl, rfl, rfl⟩ : R1 = 0 ∧ R2 = 0 ∧ R3 = 2 := by simpa using HR
        clear HR HGe
        have t1 : ((a : Int) + c == (s.size : Int)) = true := by rw [beq_iff_eq]; omega
        have t2 : ((a : Int) + c == (a : Int) + 10) = false := by rw [beq_eq_false_iff_ne]; omega
        have hn' : (s.size : Int) ≤ a + c := by omega
        clear hn
        go_wp2
        go_ret3
        exact ⟨rfl, rfl⟩
    · have h10 : c = 10 := by omega
      have HGe : getL 10 0 (from_ s a) = (0, 0, 1) := by rw [← hG.out, h10]; exact comb_long _ _ _
      have HR := HG.out _ _ _ HGe
      obtain ⟨rfl, rfl, rfl⟩ : R1 = 0 ∧ R2 = 0 ∧ R3 = 1 := by simpa using HR
      clear HR HGe
      have t2 : ((a : Int) + c == (a : Int) + 10) = true := by rw [beq_iff_eq]; omega
      have h10' : ¬ (a : Int) + c < a + 10 := by omega
      clear h10 hc10
      by_cases hlt : a + c < s.size
      · go_wp2
        go_ret3
        exact ⟨rfl, rfl⟩
      · go_wp2
        go_ret3
        exact ⟨rfl, rfl⟩

set_option maxRecDepth 100000 in
set_option maxHeartbeats 400000 in
theorem rget_out (s : ByteArray) (a : Int) (w : World) (hs : s.size ≤ 4294967296) (h : a < 0 ∨ (s.size : Int) < a) :
    Calls Try.prog 45 #[.string s, .int .i64 a] w fun e w' => e = .returned (.tuple #[.int .u64 0, .int .i64 0, .int .i64 4]) ∧ w = w' := by
  by_cases h0 : a < 0
  · clear h
    go_enter Try.func45, Try.ntmps45
    go_wp2
    go_ret3
    exact ⟨rfl, rfl⟩
  · have h1 : (s.size : Int) < a := by omega
    clear h
    go_enter Try.func45, Try.ntmps45
    go_wp2
    go_ret3
    exact ⟨rfl, rfl⟩

theorem rget_any (s : ByteArray) (a : Int) (w : World) (hs : s.size ≤ 4294967296) :
    Calls Try.prog 45 #[.string s, .int .i64 a] w fun e w' =>
      e = .returned (.tuple #[.int .u64 ((getR s a).1 : Int), .int .i64 ((getR s a).2.1 : Int), .int .i64 ((getR s a).2.2 : Int)]) ∧ w = w' := by
  by_cases h : 0 ≤ a ∧ a ≤ s.size
  · obtain ⟨n, rfl⟩ := Int.eq_ofNat_of_zero_le h.1
    exact rget_in s n w hs (by omega)
  · have hR : getR s a = (0, 0, 4) := by unfold getR; rw [if_neg h]
    rw [hR]
    exact rget_out s a w hs (by omega)
end Go.Proofs.Ytklpnkfhcaepiaa
