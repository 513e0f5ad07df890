/-
  The walk of the law SegmentBig.
-/
import Derived.Test.YtklpnkfhcaepiaaWSeg3
import Derived.OpenShut
open Go Go.RowKit
set_option linter.unusedVariables false
namespace Go.Proofs.Ytklpnkfhcaepiaa.segmentBig
theorem and_65535 (k : Int) : bits BinOp.and IntKind.i64 k 65535 = k % 65536 := by
  show IntKind.i64.wrap (((BitVec.ofInt 64 k) &&& (BitVec.ofInt 64 65535)).toNat : Int) = k % 65536
  have e : (BitVec.ofInt 64 65535).toNat = 65535 := by decide
  rw [BitVec.toNat_and, e, show (65535 : Nat) = 2 ^ 16 - 1 from rfl, Nat.and_two_pow_sub_one_eq_mod, IntKind.wrap_i64, BitVec.toNat_ofInt]; omega
theorem info_u8 : (Try.prog.info? 5).map (fun i => (i.zero, i.size, i.bytes)) = some (some (.int .u8 0), 1, 1) := by kernel_rfl
theorem run_make_full_cells (n : Nat) (hn : n ≤ 5000) (w : World) : (Instr.makeSlice 36 (.int .i64 (n : Int)) (.int .i64 (n : Int))).run Try.prog w = .ok (.slice (some ⟨w.heap.size, 0, none⟩) n n) (w.alloc (.cells (List.replicate n (Value.int .u8 0)).toArray 5)) := by
  obtain ⟨i0, hi, hz0, hz1, hz2⟩ := info_parts info_u8
  rw [run_make w 36 5 i0 _ Try.underlying36 hi hz0 .i64 .i64 n n (by omega) (by omega) (by rw [hz2]; omega) (by omega)]
  rw [hz1]
  have e : madeCells (Value.int .u8 0).cells ((n : Int).toNat * 1) = (List.replicate n (Value.int .u8 0)).toArray := by
    apply Array.toList_inj.1
    rw [show (Value.int .u8 0).cells = #[Value.int .u8 0] from rfl, toList_madeCells_one, Int.toNat_natCast, Nat.mul_one]
  rw [e]; simp
set_option maxRecDepth 100000 in
set_option maxHeartbeats 1000000 in
theorem walk (a0 : Int) (w : World) (v0 : (Lit.int .i64 a0).wf = true) :
    Calls Try.prog 7 #[.int .i64 a0] w fun e w' => e = .returned (.bool true) ∧ Below w.heap.size w w' := by
  obtain ⟨l1, u1⟩ := bounds_i64 v0
  clear v0
  obtain ⟨n, hn⟩ : ∃ n : Nat, (bits BinOp.and IntKind.i64 a0 65535).tmod 5001 = (n : Int) := ⟨((a0 % 65536).tmod 5001).toNat, by rw [and_65535, Int.toNat_of_nonneg (Int.tmod_nonneg _ (by omega))]⟩
  have hn2 : n ≤ 5000 := by
    have := Int.tmod_lt_of_pos (bits BinOp.and IntKind.i64 a0 65535) (show (0 : Int) < 5001 by omega)
    omega
  go_enter Try.func7, Try.ntmps7
  go_wp2_with fail
  refine (awake5_any _).mono ?_
  rintro e w1 ⟨rfl, hb1⟩
  have B1 := Lib.hid hb1; clear hb1
  obtain ⟨w2, hmk, hby, hb2⟩ : ∃ w2, (Instr.makeSlice 36 (.int .i64 (n : Int)) (.int .i64 (n : Int))).run Try.prog w1 = .ok (.slice (some ⟨w1.heap.size, 0, none⟩) n n) w2 ∧ Bytes w2 w1.heap.size (List.replicate n 0) ∧ Below w1.heap.size w1 w2 := by
    obtain ⟨i0, hi, hz0, hz1, hz2⟩ := info_parts info_u8
    refine ⟨_, run_make_full_cells n hn2 w1, ?_, below_alloc1 _ _⟩
    exact Bytes.fresh w1 5 n
  have hcv := conv_back (P := Try.prog) (n := n) (cap := n) hby (by simp) 36 9 5 Try.underlying36 Try.underlying5 Try.underlying9
  obtain ⟨S, hS⟩ : ∃ S, S = ByteArray.mk (List.replicate n (0 : UInt8)).toArray := ⟨_, rfl⟩
  rw [← hS] at hcv
  have hSs : S.size = n := by rw [hS, size_list]; simp
  have HS := Lib.hid hS; clear hS hby
  have B2 := Lib.hid (below_on B1.out hb2); clear hb2 B1
  by_cases hbig : 4096 < n
  · go_wp2_with fail
    refine (frame_big 7 S _ (by omega) (by unfold maxLen; omega)).mono ?_
    rintro e w3 ⟨rfl, rfl⟩
    go_wp2
    go_ret
    exact ⟨rfl, B2.out⟩
  · go_wp2_with fail
    refine (frame_any 7 S _ (by omega) (by omega)).mono ?_
    rintro e w3 ⟨rfl, hb3⟩
    have B3 := Lib.hid (below_on B2.out hb3); clear hb3 B2
    have hop := openR_frame ⟨(frameL 7 S.data.toList).toArray⟩ 0 7 S.data.toList [] (by omega) (by omega) (by rw [← size_list]; omega) (by simp [from_])
    have hlen : (ByteArray.mk (frameL 7 S.data.toList).toArray).size ≤ 5000 := by rw [size_list, frameL_len, ← size_list]; have := putL_len 7; have := putL_len S.size; omega
    obtain ⟨F, hF⟩ : ∃ F, F = ByteArray.mk (frameL 7 S.data.toList).toArray := ⟨_, rfl⟩
    rw [← hF] at hop hlen ⊢
    have HO := Lib.hid hop; clear hop hF
    go_wp2_with fail
    refine (open_any F 0 _ (by omega) (by omega) (by omega)).mono ?_
    rintro e w4 ⟨rfl, hb4⟩
    rw [show ((0 : Nat) : Int) = 0 from rfl] at HO
    rw [HO.out]
    have B4 := Lib.hid (below_on B3.out hb4); clear hb4 B3
    simp only [openV]
    go_wp2
    go_ret
    exact ⟨rfl, B4.out⟩
end Go.Proofs.Ytklpnkfhcaepiaa.segmentBig
