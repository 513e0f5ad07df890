/-
  The walks of the reference's sum of a text, and of the table of the 256 bytes.
-/
import Derived.Test.YtigjaopafhjhaaaRows
import Derived.Test.YtigjaopafhjhaaaCrcNums
import Derived.Test.YtigjaopafhjhaaaBase
import Derived.Lib.BitFns
import Derived.Deep.MidRow
import Derived.Deep.QuietTactic
import Derived.BigQuiet
open Go Go.RowKit
set_option linter.unusedVariables false
namespace Go.Proofs.Ytigjaopafhjhaaa
theorem xor_u32 (a b : Nat) (ha : a < 4294967296) (hb : b < 4294967296) : bits BinOp.xor IntKind.u32 (a : Int) (b : Int) = ((a ^^^ b : Nat) : Int) := by
  show IntKind.u32.wrap ((BitVec.ofInt 32 (a : Int) ^^^ BitVec.ofInt 32 (b : Int)).toNat : Int) = _
  have e : ∀ n : Nat, BitVec.ofInt 32 (n : Int) = BitVec.ofNat 32 n := fun n => by apply BitVec.eq_of_toNat_eq; rw [BitVec.toNat_ofInt, BitVec.toNat_ofNat]; omega
  rw [e, e, BitVec.toNat_xor, BitVec.toNat_ofNat, BitVec.toNat_ofNat, Nat.mod_eq_of_lt (by omega), Nat.mod_eq_of_lt (by omega), IntKind.wrap_u32]
  have := Nat.xor_lt_two_pow (n := 32) (by omega : a < _) (by omega : b < _)
  omega
set_option maxRecDepth 100000 in
set_option maxHeartbeats 1000000 in
theorem rsum_any (s : ByteArray) (w : World) (hs : s.size ≤ maxLen) :
    Calls Try.prog 14 #[.string s] w fun e w' => e = .returned (.int .u32 (crcSum s.data.toList : Int)) ∧ w = w' := by
  unfold maxLen at hs
  go_enter Try.func14, Try.ntmps14
  go_wp2_with fail
  go_loop [3, 4] (fun x i => ∃ k y : Nat, k ≤ s.size ∧ y < 4294967296 ∧ i = .int .i64 k ∧ x = .int .u32 y ∧ Hid (y = crcF (s.data.toList.take k) 4294967295)) (fun _ i => s.size - (intOf i).toNat)
  case atStart => exact ⟨0, 4294967295, by omega, by omega, rfl, rfl, rfl⟩
  case round =>
    obtain ⟨k, y, hk, hy, rfl, rfl, H⟩ := hrel
    by_cases hlt : k < s.size
    · obtain ⟨b, hb⟩ : ∃ b, b = s[k].toNat := ⟨_, rfl⟩
      have hb2 : b < 256 := by rw [hb]; exact s[k].toNat_lt
      have hm : ((s[k].toNat : Int) % 4294967296) = (b : Int) := by omega
      have Hb := Lib.hid hb; clear hb
      go_wp2_with fail
      clear hm
      go_loop [3, 5, 6] (fun x b' j' => ∃ j X B : Nat, j ≤ 8 ∧ X < 4294967296 ∧ B < 256 ∧ x = .int .u32 X ∧ b' = .int .u32 B ∧ j' = .int .i64 j ∧ Hid (X = crcK j (y ^^^ b % 2 ^ j) ∧ B = b / 2 ^ j)) (fun _ _ j' => 8 - (intOf j').toNat)
      case atStart => exact ⟨0, y, b, by omega, hy, hb2, rfl, rfl, rfl, ⟨by simp [crcK, Nat.mod_one], by simp⟩⟩
      case round =>
        obtain ⟨j, X, B, hj, hX, hB, rfl, rfl, rfl, Hj⟩ := hrel
        have hbp : b / 2 ^ j % 2 = B % 2 := by rw [Hj.out.2]
        have hnew := crc_inner y b j
        rw [hbp, ← Hj.out.1, crcL_two] at hnew
        have hB2 : B / 2 = b / 2 ^ (j + 1) := by rw [Hj.out.2, Nat.div_div_eq_div_mul, Nat.pow_succ]
        have HN := Lib.hid hnew; clear hnew hbp
        have HB := Lib.hid hB2; clear hB2
        by_cases hj2 : j < 8
        · go_wp2
          · have hp : ((X : Int) + B) % 2 = 1 := by simpa using ‹(((X : Int) + B) % 2 == 1) = true›
            refine ⟨⟨j + 1, X / 2 ^^^ 3988292384, B / 2, by omega, Nat.xor_lt_two_pow (n := 32) (by omega) (by omega), by omega, ?_, rfl, by go_num, ?_⟩, by simp [intOf]; omega⟩
            · rw [show ((X : Int) / 2) = ((X / 2 : Nat) : Int) by omega]; exact congrArg (Value.int .u32) (xor_u32 (X / 2) 3988292384 (by omega) (by omega))
            · refine ⟨?_, HB.out⟩
              rw [← HN.out, if_pos (by omega)]
          · have hp : ¬ ((X : Int) + B) % 2 = 1 := by simpa using ‹(((X : Int) + B) % 2 == 1) = false›
            refine ⟨⟨j + 1, X / 2, B / 2, by omega, by omega, by omega, rfl, rfl, by go_num, ?_⟩, by simp [intOf]; omega⟩
            refine ⟨?_, HB.out⟩
            rw [← HN.out, if_neg (by omega)]
        · obtain rfl : j = 8 := by omega
          have hX2 : X = crcB y b := by unfold crcB; rw [Hj.out.1, Nat.mod_eq_of_lt (a := b) (by omega)]
          have HX := Lib.hid hX2; clear hX2
          go_wp2
          go_round
          case rel =>
            refine ⟨k + 1, X, by omega, hX, by go_num, rfl, ?_⟩
            show X = _
            rw [HX.out, crcF_snoc _ k (by simpa using hlt), ← H.out, Hb.out]; rfl
          case measure => simp [intOf]; omega
    · obtain rfl : k = s.size := by omega
      have hfin : 4294967295 - y = crcSum s.data.toList := by
        unfold crcSum
        rw [H.out, List.take_of_length_le (by simp)]
      have HF := Lib.hid hfin; clear hfin
      go_wp2
      go_ret
      exact ⟨ret_int (by rw [← HF.out]; omega), rfl⟩

/-- What becomes of the first bytes. -/
def tabL (k : Nat) : List Value := (List.range k).map fun i => .int .u32 (crcK 8 i : Int)
/-- The zero table. -/
def tab0 : List Value := List.replicate 256 (.int .u32 0)
theorem tab0_len : tab0.length = 256 := by unfold tab0; rw [List.length_replicate]
set_option maxRecDepth 100000 in
theorem tab_size : (Try.prog.info? 51).map (·.size) = some (tabL 256).length := by kernel_rfl
theorem tab_one : (tabL 256).toArray.all (·.oneCell') = true := all_oneCell_toArray (fun v hv => by unfold tabL at hv; simp only [List.mem_map] at hv; obtain ⟨i, _, rfl⟩ := hv; rfl)
theorem and_u32_one (x : Nat) (h : x < 4294967296) : bits BinOp.and IntKind.u32 (x : Int) 1 = ((x % 2 : Nat) : Int) := by
  show IntKind.u32.wrap ((BitVec.ofInt 32 (x : Int) &&& BitVec.ofInt 32 1).toNat : Int) = _
  have e : BitVec.ofInt 32 (x : Int) = BitVec.ofNat 32 x := by apply BitVec.eq_of_toNat_eq; rw [BitVec.toNat_ofInt, BitVec.toNat_ofNat]; omega
  have e1 : BitVec.ofInt 32 1 = BitVec.ofNat 32 1 := rfl
  rw [e, e1, BitVec.toNat_and, BitVec.toNat_ofNat, BitVec.toNat_ofNat, Nat.mod_eq_of_lt (by omega), show 1 % 2 ^ 32 = 1 from rfl, Nat.and_one_is_mod, IntKind.wrap_u32]
  omega
theorem tab_zero (w : World) : Sem.run Try.prog (zeroValue 51) w = .ok (.agg tab0.toArray) w := by
  have h : (Try.prog.info? 51).map (·.zero) = some (some (.agg tab0.toArray)) := by kernel_rfl
  cases hq : Try.prog.info? 51 with
  | none => simp [hq] at h
  | some i => simp [hq] at h; simp [zeroValue, typeInfo, hq, h, Sem.run_bind]
set_option maxRecDepth 100000 in
set_option maxHeartbeats 1000000 in
theorem table_any (w : World) :
    Calls Try.prog 19 #[] w fun e w' => e = .returned (.agg (tabL 256).toArray) ∧ Below w.heap.size w w' := by
  have hz := tab_zero
  go_enter Try.func19, Try.ntmps19
  go_wp2_with fail
  go_loopw [2, 3, 4] (fun i x c wr => ∃ k : Nat, k ≤ 256 ∧ c = .int .i64 k ∧ Hid (Blk wr w.heap.size tab0 ∧ (∃ cs, cs.length = 256 ∧ cs.take k = tabL k ∧ Blk wr (w.heap.size + 1) cs) ∧ Below w.heap.size w wr)) (fun i x c _ => 256 - (intOf c).toNat)
  case atStart =>
    exact ⟨0, by omega, rfl, ⟨(Blk.mk w tab0 _ _ rfl).alloc _, ⟨tab0, tab0_len, rfl, Blk.mk _ tab0 _ _ (by simp)⟩, ((Below.refl _ _).alloc (Nat.le_refl _) _).alloc (by simp) _⟩⟩
  case round =>
    obtain ⟨k, hk, rfl, hr⟩ := hrel
    by_cases hlt : k < 256
    · obtain ⟨hc0, ⟨cs, hcl, hct, hc1⟩, hbel⟩ := hr.out
      obtain ⟨g1, g2⟩ := hc1.at k (by omega)
      generalize cs[k] = cv at g1
      have Hcl := Lib.hid hcl; clear hcl
      have Hct := Lib.hid hct; clear hct
      have H0 := Lib.hid hc0; clear hc0
      have H1 := Lib.hid hc1; clear hc1
      have Hb := Lib.hid hbel; clear hbel hr
      have hkm : ((k : Int) % 4294967296) = k := by omega
      go_wp2_with fail
      go_loopw [3, 9] (fun x c wi => ∃ j X : Nat, j ≤ 8 ∧ X < 4294967296 ∧ x = .int .u32 X ∧ c = .int .i64 j ∧ wi = wr ∧ Hid (X = crcK j k)) (fun x c _ => 8 - (intOf c).toNat)
      case atStart => exact ⟨0, k, by omega, by omega, rfl, rfl, rfl, rfl⟩
      case round =>
        obtain ⟨j, X, hj, hX, rfl, rfl, rfl, Hj⟩ := hrel
        by_cases hj2 : j < 8
        · by_cases ho : X % 2 = 1
          · have ha : bits BinOp.and IntKind.u32 (X : Int) 1 = 1 := by rw [and_u32_one X hX]; omega
            have HN : Hid (crcK (j + 1) k = X / 2 ^^^ 3988292384) := Lib.hid (by rw [crcK, ← Hj.out, crcL, if_pos ho])
            clear ho
            go_wp2
            refine ⟨⟨j + 1, X / 2 ^^^ 3988292384, by omega, Nat.xor_lt_two_pow (n := 32) (by omega) (by omega), ?_, by go_num, trivial, HN.out.symm⟩, by simp [intOf]; omega⟩
            rw [show ((X : Int) / 2) = ((X / 2 : Nat) : Int) by omega]; exact congrArg (Value.int .u32) (xor_u32 (X / 2) 3988292384 (by omega) (by omega))
          · have ha : bits BinOp.and IntKind.u32 (X : Int) 1 = 0 := by rw [and_u32_one X hX]; omega
            have HN : Hid (crcK (j + 1) k = X / 2) := Lib.hid (by rw [crcK, ← Hj.out, crcL, if_neg ho])
            clear ho
            go_wp2
            refine ⟨⟨j + 1, X / 2, by omega, by omega, ?_, by go_num, trivial, HN.out.symm⟩, by simp [intOf]; omega⟩
            rw [show ((X : Int) / 2) = ((X / 2 : Nat) : Int) by omega]; exact congrArg (Value.int .u32) ((xor_u32 (X / 2) 0 (by omega) (by omega)).trans (by rw [Nat.xor_zero]))
        · obtain rfl : j = 8 := by omega
          go_wp2
          refine ⟨⟨k + 1, by omega, by go_num, H0.out.setFar (by omega), ⟨cs.set k (.int .u32 X), by rw [List.length_set]; exact Hcl.out, ?_, H1.out.set k _⟩, Hb.out.setCell (by simp) _⟩, by simp [intOf]; omega⟩
          rw [take_set_succ _ _ _ (by have := Hcl.out; omega), Hct.out]
          unfold tabL
          rw [List.range_succ, List.map_append, Hj.out]; rfl
    · obtain rfl : k = 256 := by omega
      obtain ⟨hc0, ⟨cs, hcl, hct, hc1⟩, hbel⟩ := hr.out
      rw [List.take_of_length_le (by omega)] at hct
      subst hct
      have hl := hc1.range
      have ht := hc0.there 256 (by rw [tab0_len]; omega)
      clear hr
      go_wp2_with (first | (with_reducible refine wpList_load_mid rfl _ _ rfl _ _ rfl _ _ hl Try.underlying51 rfl tab_size ?_) | (with_reducible refine wpList_store_mid rfl _ _ _ rfl _ _ _ rfl rfl ht tab_size tab_one ?_))
      have hl2 := World.rangeAt_setCells_same wr w.heap.size 0 (tabL 256) (by rw [show (tabL 256).length = 256 from hcl]; exact ht)
      refine bodyPost_ret (v := .agg (tabL 256).toArray) ?_ rfl ⟨rfl, below_setCells hbel _ (Nat.le_refl _) _ _⟩
      have hL := run_loadVar_mid (P := Try.prog) _ _ 0 _ (tabL 256) _ hl2 Try.underlying51 rfl tab_size
      exact results_cell Try.results19 _ ⟨_, 0, none⟩ rfl hL
end Go.Proofs.Ytigjaopafhjhaaa
