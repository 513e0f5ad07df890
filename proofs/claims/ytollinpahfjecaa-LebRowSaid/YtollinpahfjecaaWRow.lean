/-
  The walk of the law LebRow.
-/
import Derived.Test.YtollinpahfjecaaWLaw1
import Derived.Test.YtollinpahfjecaaBack
import Derived.Test.YtollinpahfjecaaInts
import Derived.OpenShut
import Derived.LoopTactic
open Go Go.RowKit
set_option linter.unusedVariables false
namespace Go.Proofs.Ytollinpahfjecaa.lebRow
/-- The bytes of numbers, one behind the other. -/
def catP (zs : List Int) : List UInt8 := zs.flatMap fun z => putL z.toNat
theorem catP_len (zs : List Int) : (catP zs).length ≤ 11 * zs.length := by
  induction zs with
  | nil => simp [catP]
  | cons z zs ih => simp only [catP, List.flatMap_cons, List.length_append, List.length_cons] at *; have := putL_len z.toNat; omega
theorem catP_snoc (zs : List Int) (k : Nat) (h : k < zs.length) : catP (zs.take (k + 1)) = catP (zs.take k) ++ putL zs[k].toNat := by
  rw [List.take_succ_eq_append_getElem h]; simp only [catP, List.flatMap_append, List.flatMap_cons, List.flatMap_nil, List.append_nil]
theorem catP_part (zs : List Int) (k : Nat) (h : k < zs.length) : catP zs = catP (zs.take k) ++ (putL zs[k].toNat ++ catP (zs.drop (k + 1))) := by
  have e : zs = zs.take k ++ (zs[k] :: zs.drop (k + 1)) := by rw [← List.drop_eq_getElem_cons h, List.take_append_drop]
  conv => lhs; rw [e]
  simp only [catP, List.flatMap_append, List.flatMap_cons]
theorem from_at (l x y : List UInt8) (h : l = x ++ y) (n : Nat) (hn : n = x.length) : from_ ⟨l.toArray⟩ n = y := by
  subst h; subst hn
  unfold from_; simp
theorem sizeOf_u64 (w : World) : (sizeOf (Try.prog.elem 37)).run Try.prog w = .ok 1 w := by first | rfl | kernel_rfl | exact Try.sizeOf22 w

set_option maxRecDepth 100000 in
set_option maxHeartbeats 1000000 in
theorem walk (a0 : Option Addr) (len0 cap0 : Nat) (z0 : List Int) (w : World) (w0 : IsRow .u64 w a0 len0 cap0 z0) :
    Calls Try.prog 6 #[.slice a0 len0 cap0] w fun e w' => e = .returned (.bool true) ∧ Below w.heap.size w w' := by
  obtain ⟨hlc, hcm, hzl, hcells⟩ := w0.cells
  clear w0
  generalize List.take len0 z0 = z1 at hzl hcells
  unfold maxLen at hcm
  obtain ⟨m, hm⟩ : ∃ m : Nat, m = min len0 30 := ⟨_, rfl⟩
  have hmin : min (len0 : Int) 30 = (m : Int) := by omega
  have hml : m ≤ len0 := by omega
  have hm30 : m ≤ 30 := by omega
  clear hm
  have hcm2 := hcells.take m
  have hzl2 : (z1.take m).length = m := by simp; omega
  clear hcells hzl
  generalize List.take m z1 = zs at hcm2 hzl2
  have hsl := fun w => slice_head (P := Try.prog) (t := 37) w Try.underlying37 sizeOf_u64 a0 len0 cap0 m (by omega)
  have Hc := Lib.hid hcm2; clear hcm2
  have Hz := Lib.hid hzl2; clear hzl2
  go_enter Try.func6, Try.ntmps6
  go_wp2_with fail
  refine (awake1_any _).mono ?_
  rintro e w1 ⟨rfl, hb⟩
  have Hc1 := Lib.hid (Hc.out.below hb); clear Hc
  have Hb := Lib.hid hb; clear hb
  go_wp2_with fail
  go_loopw [3, 5, 24] (fun s n c wr => ∃ k : Nat, k ≤ m ∧ c = .int .i64 k ∧ s = .string ⟨(catP (zs.take k)).toArray⟩ ∧ Hid (Below w1.heap.size w1 wr)) (fun _ _ c _ => m - (intOf c).toNat)
  case atStart => exact ⟨0, by omega, rfl, rfl, Below.refl _ _⟩
  case round =>
    obtain ⟨k, hk, rfl, rfl, hbr⟩ := hrel
    by_cases hlt : k < m
    · obtain ⟨b, off, rfl, hcell, hwf⟩ := Hc1.out k (by have := Hz.out; omega)
      obtain ⟨l1, u1⟩ := bounds_u64 hwf
      have hcl := catP_len (zs.take k)
      have hcl2 : (zs.take k).length = k := by have := Hz.out; simp; omega
      have hcl3 : (catP (zs.take k)).length ≤ 330 := by omega
      clear hcl hcl2
      have hsn := catP_snoc zs k (by have := Hz.out; omega)
      obtain ⟨n, hn⟩ : ∃ n : Nat, n = zs[k]'(by have := Hz.out; omega) := ⟨(zs[k]'(by have := Hz.out; omega)).toNat, by omega⟩
      rw [← hn] at hcell hwf l1 u1 hsn
      clear hwf hn
      rw [Int.toNat_natCast] at hsn
      have hpl := putL_len n
      have hcell' : wr.cell? ⟨b, off + k, none⟩ = some (.int .u64 (n : Int)) := by
        rw [hbr.out.cell (p := ⟨b, off + k, none⟩) (World.block_lt_of_cell? w1 _ hcell)]; exact hcell
      clear hcell
      have hn2 : n < 18446744073709551616 := by omega
      have Hn := Lib.hid hn2; clear hn2 l1 u1
      have Hsn := Lib.hid hsn; clear hsn
      go_wp2_with fail
      refine (put_any n _ Hn.out).mono ?_
      rintro e w2 ⟨rfl, hb2⟩
      have Hb2 := Lib.hid hb2; clear hb2
      go_wp2
      refine ⟨⟨k + 1, by omega, by go_num, ?_, Lib.hid (below_on hbr.out Hb2.out)⟩, by simp [intOf]; omega⟩
      rw [Hsn.out]; exact congrArg Value.string (ByteArray.mk_append_mk _ _)
    · obtain rfl : k = m := by omega
      have hz := Hz.out
      have hall : zs.take k = zs := by rw [← hz, List.take_length]
      rw [hall]
      clear hall
      have hcl := catP_len zs
      have hcl3 : (catP zs).length ≤ 330 := by omega
      clear hz hcl
      have Hc2 := Lib.hid (Hc1.out.below hbr.out); clear Hc1
      have hsz : (ByteArray.mk (catP zs).toArray).size = (catP zs).length := by simp [ByteArray.size]
      have hend : getR ⟨(catP zs).toArray⟩ ((catP zs).length : Nat) = (0, 0, 2) := by
        have hg : getL 10 0 (from_ ⟨(catP zs).toArray⟩ (catP zs).length) = (0, 0, 2) := by rw [from_nil _ _ (by rw [hsz]; exact Nat.le_refl _)]; rfl
        rw [getR_of _ _ _ _ _ (by rw [hsz]; exact Nat.le_refl _) hg]; rfl
      have Hend := Lib.hid hend; clear hend
      have Hsz := Lib.hid hsz; clear hsz
      go_wp2_with fail
      go_loop [6, 35] (fun a c => ∃ j : Nat, j ≤ k ∧ c = .int .i64 j ∧ a = .int .i64 ((catP (zs.take j)).length : Nat)) (fun _ c => k - (intOf c).toNat)
      case atStart => exact ⟨0, by omega, rfl, rfl⟩
      case round =>
        obtain ⟨j, hj, rfl, rfl⟩ := hrel
        by_cases hjk : j < k
        · obtain ⟨b, off, rfl, hcell, hwf⟩ := Hc2.out j (by have := Hz.out; omega)
          obtain ⟨l1, u1⟩ := bounds_u64 hwf
          have hsn := catP_snoc zs j (by have := Hz.out; omega)
          have hpa := catP_part zs j (by have := Hz.out; omega)
          obtain ⟨n, hn⟩ : ∃ n : Nat, n = zs[j]'(by have := Hz.out; omega) := ⟨(zs[j]'(by have := Hz.out; omega)).toNat, by omega⟩
          rw [← hn] at hcell hwf l1 u1 hsn hpa
          clear hwf hn
          rw [Int.toNat_natCast] at hsn hpa
          have hpl := putL_len n
          have hn2 : n < 18446744073709551616 := by omega
          have hg : getR ⟨(catP zs).toArray⟩ ((catP (zs.take j)).length : Nat) = (n, (catP (zs.take j)).length + (putL n).length, 0) := by
            refine getR_put _ _ _ (catP (zs.drop (j + 1))) ?_ hn2 (from_at _ _ _ hpa _ rfl)
            rw [Hsz.out, hpa, List.length_append]; omega
          have hle : (catP (zs.take j)).length ≤ 330 := by rw [hpa, List.length_append] at hcl3; omega
          have hsn2 : (catP (zs.take (j + 1))).length = (catP (zs.take j)).length + (putL n).length := by rw [hsn, List.length_append]
          have Hn := Lib.hid hn2; clear hn2 l1 u1
          have Hsn := Lib.hid hsn2; clear hsn hsn2
          have Hg := Lib.hid hg; clear hg
          clear hpa
          go_wp2_with fail
          refine (get_any _ _ _ (by rw [Hsz.out]; unfold maxLen; omega)).mono ?_
          rintro e w' ⟨rfl, rfl⟩
          rw [Hg.out]
          go_wp2_with fail
          refine (len_any n _ Hn.out).mono ?_
          rintro e w' ⟨rfl, rfl⟩
          go_wp2
          exact ⟨⟨j + 1, by omega, by go_num, congrArg (Value.int .i64) (by have := Hsn.out; omega)⟩, by simp [intOf]; omega⟩
        · obtain rfl : j = k := by omega
          have hz := Hz.out
          have hall : zs.take j = zs := by rw [← hz, List.take_length]
          rw [hall]
          clear hall hz
          go_wp2_with fail
          refine (get_any _ _ _ (by rw [Hsz.out]; unfold maxLen; omega)).mono ?_
          rintro e w' ⟨rfl, rfl⟩
          rw [Hend.out]
          go_wp2
          go_ret
          exact ⟨rfl, below_on Hb.out hbr.out⟩
end Go.Proofs.Ytollinpahfjecaa.lebRow
