/-
  The walks of record.Bytes, record.All, and of what the second law holds them against.
-/
import Derived.Test.YtnpmapmdeldnmaaShelf
import Derived.Test.YtnpmapmdeldnmaaWRec1
import Derived.Test.YtnpmapmdeldnmaaWRget
import Derived.LoopTactic
import Derived.BigQuiet
import Derived.Deep.QuietTactic
import Derived.Deep.RegionHeld3
open Go Go.RowKit
set_option linter.unusedVariables false
namespace Go.Proofs.Ytnpmapmdeldnmaa
set_option maxRecDepth 100000 in
set_option maxHeartbeats 1000000 in
theorem bytes_any (a : Option Addr) (cap : Nat) (l : List Rec) (w : World) (hl : l.length ≤ 1000) (hok : ∀ r ∈ l, Rec.ok r) (hat : RecsAt w a l) :
    Calls Try.prog 21 #[.slice a l.length cap] w fun e w' => e = .returned (.string ⟨(bytesL l).toArray⟩) ∧ Below w.heap.size w w' := by
  have Hok := Lib.hid hok; clear hok
  have Hat := Lib.hid hat; clear hat
  obtain ⟨m, hm⟩ : ∃ m, m = l.length := ⟨_, rfl⟩
  rw [← hm] at hl ⊢
  have Hm := Lib.hid hm; clear hm
  go_enter Try.func21, Try.ntmps21
  go_wp2_with fail
  go_loopw [8] (fun c wr => ∃ k : Nat, k ≤ m ∧ c = .int .i64 k ∧ Hid (Lib.IsBuilder 65 5 w.heap.size w.heap.size (Lib.byteCells (bytesL (l.take k))) wr ∧ Below w.heap.size w wr)) (fun c _ => m - (intOf c).toNat)
  case atStart => exact ⟨0, by omega, rfl, Lib.fresh_isBuilder _ _ w, (Below.refl _ _).alloc (Nat.le_refl _) _⟩
  case round =>
    obtain ⟨k, hk, rfl, hr⟩ := hrel
    by_cases hlt : k < m
    · obtain ⟨b, off, rfl, h0, h1⟩ := (Hat.out.below hr.out.2) k (by have := Hm.out; omega)
      have hrok := Hok.out _ (List.getElem_mem (by have := Hm.out; omega : k < l.length))
      have hsn := bytesL_snoc l k (by have := Hm.out; omega)
      generalize l[k]'(by have := Hm.out; omega) = r at h0 h1 hrok hsn
      obtain ⟨rk, rn⟩ := r
      have Hrok := Lib.hid hrok; clear hrok
      have Hsn := Lib.hid hsn; clear hsn
      simp only at h0 h1
      go_wp2_with fail
      refine (bytes1_any rk rn _ Hrok.out).mono ?_
      rintro e w1 ⟨rfl, hb⟩
      have e1 := hr.out.2.alloc hr.out.2.size (.cells #[Value.int .i64 rk, Value.int .u64 (rn : Int)] 38)
      have e2 := e1.trans (hb.mono e1.size)
      have b1 := builder_below (builder_below hr.out.1 ((Below.refl _ _).alloc (Nat.le_refl _) (.cells #[Value.int .i64 rk, Value.int .u64 (rn : Int)] 38))) hb
      have E2 := Lib.hid e2; clear e1 e2 hb
      have B1 := Lib.hid b1; clear b1
      have hlen := bytesL_len (l.take k)
      have hlen2 : (l.take k).length ≤ 1000 := by simp; omega
      have hlen3 := putL_len (Rec.num (rk, rn))
      have hlen4 : (Lib.byteCells (bytesL (l.take k))).length ≤ 11000 := by rw [Lib.byteCells_length]; omega
      clear hlen hlen2
      have hsz : (ByteArray.mk (putL (Rec.num (rk, rn))).toArray).size = (putL (Rec.num (rk, rn))).length := by simp [ByteArray.size]
      have Hsz := Lib.hid hsz; clear hsz
      go_wp2_with fail
      refine (Try.Builder_WriteString w.heap.size w.heap.size (Lib.byteCells (bytesL (l.take k))) _ _ B1.out (by rw [Hsz.out]; omega) E2.out.size).mono ?_
      rintro e w2 ⟨rfl, hb2, hb3⟩
      have Hb2 := Lib.hid hb2; clear hb2
      have Hb3 := Lib.hid hb3; clear hb3
      go_wp2
      refine ⟨⟨k + 1, by omega, by go_num, ?_⟩, by simp [intOf]; omega⟩
      refine ⟨.inr ?_, E2.out.trans Hb3.out⟩
      rw [Hsn.out, Lib.byteCells_append]
      exact Hb2.out
    · have hkm : k = m := by omega
      have hall : l.take k = l := by rw [hkm, Hm.out, List.take_length]
      rw [hall] at hr
      clear hall hkm
      go_wp2_with fail
      refine (Try.Builder_String_any w.heap.size w.heap.size (bytesL l) _ hr.out.1 hr.out.2.size).mono ?_
      rintro e w2 ⟨rfl, hb3⟩
      have Hb3 := Lib.hid hb3; clear hb3
      go_wp2
      go_ret
      exact ⟨rfl, hr.out.2.trans Hb3.out⟩

end Go.Proofs.Ytnpmapmdeldnmaa
