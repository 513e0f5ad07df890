/-
  The walks of leb.mayEnd and leb.Get.
-/
import Derived.Test.YtnpmapmdeldnmaaRows
import Derived.Test.YtnpmapmdeldnmaaGet
import Derived.WalkKit
import Derived.ProofKit
import Derived.WalkSpells
import Derived.WalkLawsBesides
import Derived.IntWalk
import Derived.Lib.Hide
import Derived.LoopTactic
open Go Go.RowKit
set_option linter.unusedVariables false
namespace Go.Proofs.Ytnpmapmdeldnmaa


theorem ret_get {n n' c c' e e' : Int} (h1 : n = n') (h2 : c = c') (h3 : e = e') :
    Ending.returned (.tuple #[.int .u64 n, .int .i64 c, .int .i64 e]) = .returned (.tuple #[.int .u64 n', .int .i64 c', .int .i64 e']) := by rw [h1, h2, h3]

set_option maxRecDepth 100000 in
set_option maxHeartbeats 400000 in
theorem mayEnd_any (i : Nat) (b : Nat) (w : World) (hi : i ≤ 9) (hb : b < 256) :
    Calls Try.prog 42 #[.int .i64 i, .int .u8 b] w fun e w' => e = .returned (.bool (endB i b)) ∧ w = w' := by
  have e1 : endB i b = if i = 9 then ((b : Int) == 1) else ((b : Int) != 0 || (i : Int) == 0) := by
    have c1 : ((b : Int) == 1) = (b == 1) := by rw [Bool.eq_iff_iff, beq_iff_eq, beq_iff_eq]; omega
    have c2 : ((b : Int) != 0) = (b != 0) := by rw [Bool.eq_iff_iff, bne_iff_ne, bne_iff_ne]; omega
    have c3 : ((i : Int) == 0) = (i == 0) := by rw [Bool.eq_iff_iff, beq_iff_eq, beq_iff_eq]; omega
    rw [c1, c2, c3]; rfl
  rw [e1]; clear e1
  by_cases h9 : i = 9
  · subst h9
    rw [if_pos rfl]
    go_enter Try.func42, Try.ntmps42
    go_wp2
    go_ret
    exact ⟨rfl, rfl⟩
  · rw [if_neg h9]
    have H9 : ((i : Int) == 9) = false := by simp; omega
    by_cases hb0 : b = 0
    · subst hb0
      go_enter Try.func42, Try.ntmps42
      go_wp2
      go_ret
      exact ⟨rfl, rfl⟩
    · have Hb : ((b : Int) != 0) = true := by simp; omega
      rw [Hb, Bool.true_or]
      go_enter Try.func42, Try.ntmps42
      go_wp2
      go_ret
      exact ⟨rfl, rfl⟩

set_option maxRecDepth 100000 in
set_option maxHeartbeats 1000000 in
theorem get_in (s : ByteArray) (a : Nat) (w : World) (hs : s.size ≤ maxLen) (h2 : a ≤ s.size) :
    Calls Try.prog 38 #[.string s, .int .i64 a] w fun e w' =>
      e = .returned (.tuple #[.int .u64 ((getR s a).1 : Int), .int .i64 ((getR s a).2.1 : Int), .int .i64 ((getR s a).2.2 : Int)]) ∧ w = w' := by
  unfold maxLen at hs
  have H : ∀ n c e, getL 10 0 (from_ s a) = (n, c, e) → getR s a = if e = 0 then (n, a + c, 0) else (0, 0, e) := fun n c e h => getR_of s a n c e h2 h
  generalize getR s a = R at H ⊢
  obtain ⟨R1, R2, R3⟩ := R
  have HG := Lib.hid H; clear H
  go_enter Try.func38, Try.ntmps38
  go_wp2
  go_loop [7, 8, 9, 18] (fun m i b c => ∃ k : Nat, ∃ z : Int, k ≤ 10 ∧ m = .int .u64 z ∧ c = .int .i64 k ∧
      ((k ≤ 9 ∧ ∃ q : Nat, z = q ∧ q < 2 ^ (7 * k) ∧ a + k ≤ s.size ∧ comb q k (getL (10 - k) k (from_ s (a + k))) = getL 10 0 (from_ s a)) ∨ (k = 10 ∧ getL 10 0 (from_ s a) = (0, 0, 1)))) (fun _ _ _ c => 10 - (intOf c).toNat)
  case atStart => exact ⟨0, 0, by omega, rfl, rfl, .inl ⟨by omega, 0, rfl, by simp, h2, comb_zero _ _ _ (getL_clean _ _ _)⟩⟩
  case round =>
    obtain ⟨k, z, hk, rfl, rfl, ⟨hk9, q, rfl, hq, hak, hG⟩ | ⟨rfl, hG⟩⟩ := hrel
    · have hf : 10 - k = (9 - k) + 1 := by omega
      rw [hf] at hG
      have Hq := Lib.hid hq; clear hq
      have HG' := Lib.hid hG; clear hG
      have Hf := Lib.hid hf; clear hf
      by_cases he : a + k = s.size
      · have He : ((a : Int) + k == s.size) = true := by simp; omega
        have HGe : getL 10 0 (from_ s a) = (0, 0, 2) := by rw [← HG'.out, from_nil _ _ (by omega), comb_end]
        have HR := HG.out _ _ _ HGe
        obtain ⟨rfl, rfl, rfl⟩ : R1 = 0 ∧ R2 = 0 ∧ R3 = 2 := by simpa using HR
        clear HR HGe
        have He' := Lib.hid he; clear he
        go_wp2
        go_ret3
        exact ⟨rfl, rfl⟩
      · have hlt : a + k < s.size := by omega
        have He : ((a : Int) + k == s.size) = false := by simp; omega
        have hfc := from_cons s (a + k) hlt
        have hb := s[a + k].toNat_lt
        obtain ⟨b, hbe⟩ : ∃ b, b = s[a + k] := ⟨_, rfl⟩
        rw [← hbe] at hfc hb
        have Hfc := Lib.hid hfc; clear hfc
        have hix : ∀ w, (Instr.index 9 (.string s) (.int .i64 ((a : Int) + k))).run Try.prog w = .ok (.int .u8 b.toNat) w := fun w => by
          rw [run_index_string w _ s .i64 _ Try.underlying9, dif_pos ⟨by omega, by omega⟩, hbe]; rfl
        have Hbe := Lib.hid hbe; clear hbe
        by_cases hb8 : 128 ≤ b.toNat
        · go_wp2
          by_cases hk8 : k ≤ 8
          · refine ⟨⟨k + 1, _, by omega, congrArg (Value.int .u64) (lay_bits q b.toNat k (by omega) Hq.out (.inl hk8)), by go_num, .inl ⟨by omega, _, rfl, lay_lt _ _ _ Hq.out, by omega, ?_⟩⟩, by simp [intOf]; omega⟩
            rw [← HG'.out, Hfc.out, comb_step _ _ _ _ _ hb8, show 10 - (k + 1) = 9 - k by omega, Nat.add_assoc]
          · obtain rfl : k = 9 := by omega
            refine ⟨⟨10, _, by omega, rfl, by go_num, .inr ⟨rfl, ?_⟩⟩, by simp [intOf]⟩
            rw [← HG'.out, Hfc.out, comb_step _ _ _ _ _ hb8]
            exact comb_long _ _ _
        · cases hE : endB k b.toNat
          · have HE := Lib.hid hE; clear hE
            have HGe : getL 10 0 (from_ s a) = (0, 0, 1) := by rw [← HG'.out, Hfc.out, comb_bad _ _ _ _ _ hb8 HE.out]
            have HR := HG.out _ _ _ HGe
            obtain ⟨rfl, rfl, rfl⟩ : R1 = 0 ∧ R2 = 0 ∧ R3 = 1 := by simpa using HR
            clear HR HGe
            go_wp2_with fail
            refine (mayEnd_any k b.toNat _ hk9 (by omega)).mono ?_
            rintro e w' ⟨rfl, rfl⟩
            rw [HE.out]
            go_wp2
            go_ret3
            exact ⟨rfl, rfl⟩
          · have HE := Lib.hid hE; clear hE
            have HGe : getL 10 0 (from_ s a) = (q + (b.toNat % 128) * 2 ^ (7 * k), k + 1, 0) := by rw [← HG'.out, Hfc.out, comb_last _ _ _ _ _ hb8 HE.out]
            have hl8 : k ≤ 8 ∨ (k = 9 ∧ b.toNat % 128 ≤ 1) := by
              by_cases h9 : k = 9
              · subst h9; have := HE.out; simp [endB] at this; omega
              · omega
            have HL := Lib.hid (lay_bits q b.toNat k (by omega) Hq.out hl8)
            have HR := HG.out _ _ _ HGe
            rw [if_pos rfl] at HR
            obtain ⟨rfl, rfl, rfl⟩ : R1 = q + (b.toNat % 128) * 2 ^ (7 * k) ∧ R2 = a + (k + 1) ∧ R3 = 0 := by simpa using HR
            clear HR HGe hl8
            go_wp2_with fail
            refine (mayEnd_any k b.toNat _ hk9 (by omega)).mono ?_
            rintro e w' ⟨rfl, rfl⟩
            rw [HE.out]
            go_wp2
            go_ret3
            refine ⟨?_, rfl⟩
            refine ret_get HL.out (by omega) rfl
    · have HR := HG.out _ _ _ hG
      obtain ⟨rfl, rfl, rfl⟩ : R1 = 0 ∧ R2 = 0 ∧ R3 = 1 := by simpa using HR
      clear HR hG
      go_wp2
      go_ret3
      exact ⟨rfl, rfl⟩
set_option maxRecDepth 100000 in
set_option maxHeartbeats 400000 in
theorem get_out (s : ByteArray) (a : Int) (w : World) (hs : s.size ≤ maxLen) (h : a < 0 ∨ (s.size : Int) < a) :
    Calls Try.prog 38 #[.string s, .int .i64 a] w fun e w' => e = .returned (.tuple #[.int .u64 0, .int .i64 0, .int .i64 4]) ∧ w = w' := by
  unfold maxLen at hs
  by_cases h0 : a < 0
  · clear h
    go_enter Try.func38, Try.ntmps38
    go_wp2
    go_ret3
    exact ⟨rfl, rfl⟩
  · have h1 : (s.size : Int) < a := by omega
    clear h
    go_enter Try.func38, Try.ntmps38
    go_wp2
    go_ret3
    exact ⟨rfl, rfl⟩

/-- leb.Get, at any bytes and any place. -/
theorem get_any (s : ByteArray) (a : Int) (w : World) (hs : s.size ≤ maxLen) :
    Calls Try.prog 38 #[.string s, .int .i64 a] w fun e w' =>
      e = .returned (.tuple #[.int .u64 ((getR s a).1 : Int), .int .i64 ((getR s a).2.1 : Int), .int .i64 ((getR s a).2.2 : Int)]) ∧ w = w' := by
  by_cases h : 0 ≤ a ∧ a ≤ s.size
  · obtain ⟨n, rfl⟩ := Int.eq_ofNat_of_zero_le h.1
    exact get_in s n w hs (by omega)
  · have hR : getR s a = (0, 0, 4) := by unfold getR; rw [if_neg h]
    rw [hR]
    exact get_out s a w hs (by omega)

end Go.Proofs.Ytnpmapmdeldnmaa
