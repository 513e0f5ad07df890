/-
  The walk of the law SegmentBack.
-/
import Derived.Test.YtklpnkfhcaepiaaWSeg3
import Derived.Test.YtklpnkfhcaepiaaWCut
import Derived.OpenShut
open Go Go.RowKit
set_option linter.unusedVariables false
namespace Go.Proofs.Ytklpnkfhcaepiaa.segmentBack
theorem and_65535 (k : Int) : bits BinOp.and IntKind.i64 k 65535 = k % 65536 := by
  show IntKind.i64.wrap (((BitVec.ofInt 64 k) &&& (BitVec.ofInt 64 65535)).toNat : Int) = k % 65536
  have e : (BitVec.ofInt 64 65535).toNat = 65535 := by decide
  rw [BitVec.toNat_and, e, show (65535 : Nat) = 2 ^ 16 - 1 from rfl, Nat.and_two_pow_sub_one_eq_mod, IntKind.wrap_i64, BitVec.toNat_ofInt]; omega
theorem mk_list (b : ByteArray) : ByteArray.mk b.data.toList.toArray = b := bytes_ext (by simp)
set_option maxRecDepth 100000 in
set_option maxHeartbeats 1000000 in
theorem walk (a0 : Int) (a1 a2 a3 : ByteArray) (a4 : Int) (w : World) (v0 : (Lit.int .u64 a0).wf = true) (v1 : a1.size ≤ maxLen) (v2 : a2.size ≤ maxLen) (v3 : a3.size ≤ maxLen) (v4 : (Lit.int .i64 a4).wf = true) :
    Calls Try.prog 3 #[.int .u64 a0, .string a1, .string a2, .string a3, .int .i64 a4] w fun e w' => e = .returned (.bool true) ∧ Below w.heap.size w w' := by
  obtain ⟨l0, u0⟩ := bounds_u64 v0
  obtain ⟨q, rfl⟩ := Int.eq_ofNat_of_zero_le l0
  have hq : q < 18446744073709551616 := by omega
  clear v0 v4 l0 u0
  have c1 := cutB_size a1 300
  have c2 := cutB_size a2 20
  have c3 := cutB_size a3 20
  have Hq := Lib.hid hq; clear hq
  go_enter Try.func3, Try.ntmps3
  go_wp2_with fail
  refine (cut_any a1 300 _ v1 (by omega)).mono ?_
  rintro e w' ⟨rfl, rfl⟩
  generalize cutB a1 300 = b at c1
  go_wp2_with fail
  refine (cut_any a2 20 _ v2 (by omega)).mono ?_
  rintro e w' ⟨rfl, rfl⟩
  generalize cutB a2 20 = f at c2
  go_wp2_with fail
  refine (cut_any a3 20 _ v3 (by omega)).mono ?_
  rintro e w' ⟨rfl, rfl⟩
  generalize cutB a3 20 = m at c3
  clear v1 v2 v3
  go_wp2_with fail
  refine (awake5_any _).mono ?_
  rintro e w1 ⟨rfl, hb1⟩
  have B1 := Lib.hid hb1; clear hb1
  go_wp2_with fail
  refine (frame_any q b _ Hq.out (by omega)).mono ?_
  rintro e w2 ⟨rfl, hb2⟩
  have B2 := Lib.hid (below_on B1.out hb2); clear hb2 B1
  obtain ⟨F, hF⟩ : ∃ F, F = ByteArray.mk (frameL q b.data.toList).toArray := ⟨_, rfl⟩
  have hFs : F.size = 6 + (putL q).length + (putL b.size).length + b.size := by rw [hF, size_list, frameL_len, ← size_list]
  have hF1 : 6 ≤ F.size := by omega
  have hF2 : F.size ≤ 400 := by have := putL_len q; have := putL_len b.size; omega
  have hFl : F.data.toList = frameL q b.data.toList := by rw [hF]
  have hop := openR_frame (f ++ F ++ m) f.size q b.data.toList m.data.toList (by rw [ByteArray.size_append, ByteArray.size_append]; omega) Hq.out (by rw [← size_list]; omega) (by
    unfold from_; rw [app_list, app_list, List.append_assoc, size_list f, List.drop_left, hFl])
  rw [← hFl, ← size_list, mk_list] at hop
  have hsum : (f ++ F ++ m).size ≤ 1000 := by rw [ByteArray.size_append, ByteArray.size_append]; omega
  rw [← hF]
  have HO := Lib.hid hop; clear hop
  have HF := Lib.hid hF; clear hF
  obtain ⟨k, hk⟩ : ∃ k : Nat, (bits BinOp.and IntKind.i64 a4 65535).tmod (F.size : Int) = (k : Int) := ⟨((a4 % 65536).tmod (F.size : Int)).toNat, by rw [and_65535, Int.toNat_of_nonneg (Int.tmod_nonneg _ (by omega))]⟩
  have hk2 : k < F.size := by
    have := Int.tmod_lt_of_pos (bits BinOp.and IntKind.i64 a4 65535) (show (0 : Int) < (F.size : Int) by omega)
    omega
  have hsl : ∀ w, (Instr.slice 9 (.string F) none (some (.int .i64 (k : Int))) none).run Try.prog w = .ok (.string (F.extract 0 k)) w := fun w => by
    rw [run_slice_string_h w 9 F Try.underlying9 .i64 k (by omega) (by omega)]; rfl
  have hcs : (F.extract 0 k).size ≤ 400 := Nat.le_trans (extract_size_le _ _ _) hF2
  have hcut := openR_cut (F.extract 0 k) 0 q k b.data.toList (by omega) Hq.out (by rw [← size_list]; omega) (by rw [← hFl, ← size_list]; exact hk2) (by
    unfold from_; rw [List.drop_zero, extract_list, hFl]; simp)
  generalize F.extract 0 k = C at hsl hcs hcut
  have HC := Lib.hid hcut; clear hcut hFs hFl
  go_wp2_with fail
  refine (open_any (f ++ F ++ m) (f.size : Int) _ (by omega) (by omega) (by omega)).mono ?_
  rintro e w3 ⟨rfl, hb3⟩
  rw [HO.out]
  have B3 := Lib.hid (below_on B2.out hb3); clear hb3 B2
  simp only [openV]
  go_wp2_with fail
  refine (open_any C 0 _ (by omega) (by omega) (by omega)).mono ?_
  rintro e w4 ⟨rfl, hb4⟩
  rw [show openR C 0 = _ from HC.out]
  have B4 := Lib.hid (below_on B3.out hb4); clear hb4 B3
  simp only [openV]
  go_wp2_with fail
  refine (rframe_any q b _ Hq.out (by omega)).mono ?_
  rintro e w5 ⟨rfl, hb5⟩
  rw [← HF.out]
  have B5 := Lib.hid (below_on B4.out hb5); clear hb5 B4
  go_wp2
  go_ret
  exact ⟨rfl, B5.out⟩
end Go.Proofs.Ytklpnkfhcaepiaa.segmentBack
