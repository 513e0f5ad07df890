/-
  The walks of snap.Digest, of the document's Digest, of awake.
-/
import Derived.Test.YtigjaopafhjhaaaShelf
import Derived.Test.YtigjaopafhjhaaaBld
import Derived.Test.YtigjaopafhjhaaaWPut
import Derived.Test.YtigjaopafhjhaaaWZig
import Derived.Test.YtigjaopafhjhaaaWCrc2
import Derived.Test.YtigjaopafhjhaaaInts
import Derived.LoopTactic
import Derived.BigQuiet
open Go Go.RowKit
set_option linter.unusedVariables false
namespace Go.Proofs.Ytigjaopafhjhaaa
/-- The bytes of numbers with a sign, one behind the other. -/
def catZ (zs : List Int) : List UInt8 := zs.flatMap fun z => putL (zigV z).toNat
theorem catZ_len (zs : List Int) : (catZ zs).length ≤ 11 * zs.length := by
  induction zs with
  | nil => simp [catZ]
  | cons z zs ih => simp only [catZ, List.flatMap_cons, List.length_append, List.length_cons] at *; have := putL_len (zigV z).toNat; omega
theorem catZ_snoc (zs : List Int) (k : Nat) (h : k < zs.length) : catZ (zs.take (k + 1)) = catZ (zs.take k) ++ putL (zigV zs[k]).toNat := by
  rw [List.take_succ_eq_append_getElem h]; simp only [catZ, List.flatMap_append, List.flatMap_cons, List.flatMap_nil, List.append_nil]
/-- The sum of numbers. -/
def digN (zs : List Int) : Nat := crcSum (catZ zs)
theorem digN_nil : digN [] = 0 := by decide +kernel
theorem digN_zero : digN [0] = 3523407757 := by decide +kernel
set_option maxRecDepth 100000 in
set_option maxHeartbeats 1000000 in
theorem digest_any (a : Option Addr) (cap m : Nat) (l : List Int) (w : World) (hl : l.length ≤ 100000) (hm : m = l.length) (hat : Cells .i64 w a l) :
    Calls Try.prog 5 #[.slice a m cap] w fun e w' => e = .returned (.int .u32 (digN l : Int)) ∧ Below w.heap.size w w' := by
  have Hat := Lib.hid hat; clear hat
  rw [← hm] at hl
  have Hm := Lib.hid hm; clear hm
  go_enter Try.func5, Try.ntmps5
  go_wp2_with fail
  go_loopw [8] (fun c wr => ∃ k : Nat, k ≤ m ∧ c = .int .i64 k ∧ Hid (Lib.IsBuilder 30 5 w.heap.size w.heap.size (Lib.byteCells (catZ (l.take k))) wr ∧ Below w.heap.size w wr)) (fun c _ => m - (intOf c).toNat)
  case atStart => exact ⟨0, by omega, rfl, Lib.fresh_isBuilder _ _ w, (Below.refl _ _).alloc (Nat.le_refl _) _⟩
  case round =>
    obtain ⟨k, hk, rfl, hr⟩ := hrel
    by_cases hlt : k < m
    · obtain ⟨b, off, rfl, hcell, hwf⟩ := (Hat.out.below hr.out.2) k (by have := Hm.out; omega)
      obtain ⟨l1, u1⟩ := bounds_i64 hwf
      clear hwf
      have hsn := catZ_snoc l k (by have := Hm.out; omega)
      generalize l[k]'(by have := Hm.out; omega) = z at hcell hsn l1 u1
      obtain ⟨z1, z2⟩ := zig_rng z l1 u1
      obtain ⟨n, hn⟩ : ∃ n : Nat, zigV z = (n : Int) := ⟨(zigV z).toNat, by omega⟩
      rw [hn] at hsn z2
      have hn2 : n < 18446744073709551616 := by omega
      rw [Int.toNat_natCast] at hsn
      have Hn := Lib.hid hn; clear hn
      have Hn2 := Lib.hid hn2; clear hn2 z1 z2
      have Hsn := Lib.hid hsn; clear hsn
      have L1 := Lib.hid l1; clear l1
      have U1 := Lib.hid u1; clear u1
      go_wp2_with fail
      refine (zig_any z _ L1.out U1.out).mono ?_
      rintro e w1 ⟨rfl, rfl⟩
      rw [Hn.out]
      go_wp2_with fail
      refine (put_any n _ Hn2.out).mono ?_
      rintro e w1 ⟨rfl, hb⟩
      have e2 := hr.out.2.trans (hb.mono hr.out.2.size)
      have b1 := builder_below hr.out.1 hb
      have E2 := Lib.hid e2; clear e2 hb
      have B1 := Lib.hid b1; clear b1
      have hlen := catZ_len (l.take k)
      have hlen2 : (l.take k).length ≤ 100000 := by simp; omega
      have hlen3 := putL_len n
      have hlen4 : (Lib.byteCells (catZ (l.take k))).length ≤ 1100000 := by rw [Lib.byteCells_length]; omega
      clear hlen hlen2
      have hsz : (ByteArray.mk (putL n).toArray).size = (putL n).length := by simp [ByteArray.size]
      have Hsz := Lib.hid hsz; clear hsz
      go_wp2_with fail
      refine (Try.Builder_WriteString w.heap.size w.heap.size (Lib.byteCells (catZ (l.take k))) _ _ B1.out (by rw [Hsz.out]; omega) E2.out.size).mono ?_
      rintro e w2 ⟨rfl, hb2, hb3⟩
      have Hb2 := Lib.hid hb2; clear hb2
      have Hb3 := Lib.hid hb3; clear hb3
      go_wp2
      refine ⟨⟨k + 1, by omega, by go_num, ?_⟩, by simp [intOf]; omega⟩
      refine ⟨.inr ?_, E2.out.trans Hb3.out⟩
      rw [Hsn.out, Lib.byteCells_append]
      exact Hb2.out
    · have hkm : k = m := by omega
      have hall : l.take k = l := by rw [hkm, Hm.out, List.take_length]
      rw [hall] at hr
      clear hall hkm
      have hcl := catZ_len l
      have hsz : (ByteArray.mk (catZ l).toArray).size ≤ maxLen := by have := Hm.out; unfold maxLen; simp [ByteArray.size]; omega
      have Hsz := Lib.hid hsz; clear hsz hcl
      go_wp2_with fail
      refine (Try.Builder_String_any w.heap.size w.heap.size (catZ l) _ hr.out.1 hr.out.2.size).mono ?_
      rintro e w2 ⟨rfl, hb3⟩
      have H3 := Lib.hid (hr.out.2.trans hb3); clear hb3
      go_wp2_with fail
      refine (of1_any _ _ ⟨(catZ l).toArray⟩ _ (by simp) Hsz.out).mono ?_
      rintro e w3 ⟨rfl, hb4⟩
      go_wp2
      go_ret
      exact ⟨rfl, below_on H3.out ((below_alloc1 _ _).trans (hb4.mono (by simp)))⟩

set_option maxRecDepth 100000 in
set_option maxHeartbeats 1000000 in
theorem rdigest_any (a : Option Addr) (cap m : Nat) (l : List Int) (w : World) (hl : l.length ≤ 100000) (hm : m = l.length) (hat : Cells .i64 w a l) :
    Calls Try.prog 6 #[.slice a m cap] w fun e w' => e = .returned (.int .u32 (digN l : Int)) ∧ Below w.heap.size w w' := by
  have Hat := Lib.hid hat; clear hat
  rw [← hm] at hl
  have Hm := Lib.hid hm; clear hm
  go_enter Try.func6, Try.ntmps6
  go_wp2_with fail
  go_loopw [3, 8] (fun s c wr => ∃ k : Nat, k ≤ m ∧ c = .int .i64 k ∧ s = .string ⟨(catZ (l.take k)).toArray⟩ ∧ Hid (Below w.heap.size w wr)) (fun _ c _ => m - (intOf c).toNat)
  case atStart => exact ⟨0, by omega, rfl, rfl, Below.refl _ _⟩
  case round =>
    obtain ⟨k, hk, rfl, rfl, hr⟩ := hrel
    by_cases hlt : k < m
    · obtain ⟨b, off, rfl, hcell, hwf⟩ := (Hat.out.below hr.out) k (by have := Hm.out; omega)
      obtain ⟨l1, u1⟩ := bounds_i64 hwf
      clear hwf
      have hsn := catZ_snoc l k (by have := Hm.out; omega)
      generalize l[k]'(by have := Hm.out; omega) = z at hcell hsn l1 u1
      obtain ⟨z1, z2⟩ := zig_rng z l1 u1
      obtain ⟨n, hn⟩ : ∃ n : Nat, zigV z = (n : Int) := ⟨(zigV z).toNat, by omega⟩
      rw [hn] at hsn z2
      have hn2 : n < 18446744073709551616 := by omega
      rw [Int.toNat_natCast] at hsn
      have hlen := catZ_len (l.take k)
      have hlen2 : (l.take k).length ≤ 100000 := by simp; omega
      have hlen3 := putL_len n
      have hlen4 : (catZ (l.take k)).length ≤ 1100000 := by omega
      clear hlen hlen2
      have Hn := Lib.hid hn; clear hn
      have Hn2 := Lib.hid hn2; clear hn2 z1 z2
      have Hsn := Lib.hid hsn; clear hsn
      have L1 := Lib.hid l1; clear l1
      have U1 := Lib.hid u1; clear u1
      go_wp2_with fail
      refine (rzig_any z _ L1.out U1.out).mono ?_
      rintro e w1 ⟨rfl, rfl⟩
      rw [Hn.out]
      go_wp2_with fail
      refine (rput_any 10 n _ (lim10 _ Hn2.out) Hn2.out).mono ?_
      rintro e w1 ⟨rfl, hb⟩
      have E2 := Lib.hid (hr.out.trans (hb.mono hr.out.size)); clear hb
      go_wp2
      refine ⟨⟨k + 1, by omega, by go_num, ?_, E2⟩, by simp [intOf]; omega⟩
      rw [Hsn.out]; exact congrArg Value.string (ByteArray.mk_append_mk _ _)
    · have hkm : k = m := by omega
      have hall : l.take k = l := by rw [hkm, Hm.out, List.take_length]
      rw [hall]
      clear hall hkm
      have hcl := catZ_len l
      have hsz : (ByteArray.mk (catZ l).toArray).size ≤ maxLen := by have := Hm.out; unfold maxLen; simp [ByteArray.size]; omega
      have Hsz := Lib.hid hsz; clear hsz hcl
      go_wp2_with fail
      refine (rsum_any ⟨(catZ l).toArray⟩ _ Hsz.out).mono ?_
      rintro e w2 ⟨rfl, rfl⟩
      go_wp2
      go_ret
      exact ⟨rfl, hr.out⟩
set_option maxRecDepth 100000 in
set_option maxHeartbeats 1000000 in
theorem awake19_any (w : World) : Calls Try.prog 4 #[] w fun e w' => e = .returned (.bool true) ∧ Below w.heap.size w w' := by
  go_enter Try.func4, Try.ntmps4
  go_wp2_with fail
  refine (digest_any none 0 0 [] _ (by simp) rfl (fun i h => by simp at h)).mono ?_
  rintro e w1 ⟨rfl, hb⟩
  rw [digN_nil]
  have Hb := Lib.hid hb; clear hb
  go_wp2_with fail
  refine (digest_any (some ⟨w1.heap.size, 0, none⟩) 1 1 [0] _ (by simp) rfl ?c1).mono ?_
  case c1 => exact fun i h => ⟨w1.heap.size, 0, rfl, by (obtain rfl : i = 0 := by simpa using h); simp, by (obtain rfl : i = 0 := by simpa using h); rfl⟩
  rintro e w2 ⟨rfl, hb⟩
  rw [digN_zero]
  go_wp2
  go_ret
  exact ⟨rfl, below_on Hb.out ((below_alloc1 _ _).trans (hb.mono (by simp)))⟩
end Go.Proofs.Ytigjaopafhjhaaa
