/-
  The walks of leb.Put and the reference's Put.
-/
import Derived.Test.YtigjaopafhjhaaaRows
import Derived.Test.YtigjaopafhjhaaaNums
import Derived.Test.YtigjaopafhjhaaaBase
import Derived.WalkKit
import Derived.ProofKit
import Derived.WalkSpells
import Derived.WalkLawsBesides
import Derived.IntWalk
import Derived.Lib.Hide
import Derived.LoopTactic
import Derived.Deep.RegionWith
open Go Go.RowKit
set_option linter.unusedVariables false
namespace Go.Proofs.Ytigjaopafhjhaaa
set_option maxRecDepth 100000 in
set_option maxHeartbeats 400000 in
theorem put_any (n : Nat) (w : World) (h2 : n < 18446744073709551616) :
    Calls Try.prog 8 #[.int .u64 n] w fun e w' => e = .returned (.string ⟨(putL n).toArray⟩) ∧ Below w.heap.size w w' := by
  have hl := Lib.hid (lim10 n h2)
  go_enter Try.func8, Try.ntmps8
  go_wp2
  go_loopw [0, 4] (fun m i wr => ∃ k : Nat, ∃ q : Nat, ∃ cs : List UInt8, k ≤ 9 ∧ m = .int .u64 q ∧ i = .int .i64 k ∧ q < 18446744073709551616 ∧ q < lim (10 - k) ∧ cs.length = 10 ∧ cs.take k ++ putL q = putL n ∧
      Bytes wr w.heap.size cs ∧ Below w.heap.size w wr) (fun m i _ => (intOf m).toNat)
  case atStart =>
    exact ⟨0, n, List.replicate 10 0, by omega, rfl, rfl, h2, hl.out, rfl, rfl, Bytes.fresh w 41 10, (Below.refl _ _).alloc (Nat.le_refl _) _⟩
  case round =>
    obtain ⟨k, q, cs, hk, rfl, rfl, hq, hql, hcs, hput, hb, hbel⟩ := hrel
    have Hput := Lib.hid hput; clear hput
    have Hcs := Lib.hid hcs; clear hcs
    have Hq := Lib.hid hq; clear hq
    have Hl := Lib.hid hql; clear hql
    have H2 := Lib.hid h2; clear h2
    by_cases h : 128 ≤ q
    · obtain ⟨j, hj, hl2⟩ := lim_pred _ _ Hl.out h
      have Hj := Lib.hid hj; clear hj
      have hk8 : k ≤ 8 := by have := Hj.out; omega
      have Hl2 := Lib.hid hl2; clear hl2
      obtain ⟨c, hck⟩ : ∃ c : Int, wr.cell? ⟨w.heap.size, k, none⟩ = some (.int .u8 c) := ⟨_, hb.1 k (by have := Hcs.out; omega)⟩
      have hfk := hb.2 k (by have := Hcs.out; omega)
      have Hb := Lib.hid hb; clear hb
      go_wp2
      refine ⟨⟨k + 1, q / 128, cs.set k (UInt8.ofNat (q % 128 + 128)), by omega, by go_num, by go_num, ?_, ?_, ?_, ?_, ?_, ?_⟩, ?_⟩
      · have := Hq.out; omega
      · rw [show 10 - (k + 1) = j + 1 by have := Hj.out; omega]; exact Hl2.out
      · simp [Hcs.out]
      · rw [← Hput.out, putL_step q h (lim10 _ Hq.out), take_set_succ _ _ _ (by have := Hcs.out; omega)]; simp
      · exact Hb.out.set k (by have := Hcs.out; omega) _ _ (u8_or128' q)
      · exact hbel.setCell (by simp) _
      · simp [intOf]; omega
    · obtain ⟨c, hck⟩ : ∃ c : Int, wr.cell? ⟨w.heap.size, k, none⟩ = some (.int .u8 c) := ⟨_, hb.1 k (by have := Hcs.out; omega)⟩
      have hfk := hb.2 k (by have := Hcs.out; omega)
      have hsl : ∀ w', (Instr.sliceAt 41 (.pointer (some ⟨w.heap.size, 0, none⟩)) none (some (.int .i64 ((k : Int) + 1))) none).run Try.prog w' = .ok (.slice (some ⟨w.heap.size, 0, none⟩) (k + 1) 10) w' := fun w' => by
        rw [run_sliceAt_array_h w' 41 ⟨w.heap.size, 0, none⟩ Try.underlying41 .i64 ((k : Int) + 1) (by omega) (by show (k : Int) + 1 ≤ 10; omega)]
        rfl
      have hcv : (convert 28 9 (.slice (some ⟨w.heap.size, 0, none⟩) (k + 1) 10)).run Try.prog (wr.setCell ⟨w.heap.size, k, none⟩ (.int .u8 q)) = .ok (.string ⟨(putL n).toArray⟩) (wr.setCell ⟨w.heap.size, k, none⟩ (.int .u8 q)) := by
        have hb' := hb.set k (by have := Hcs.out; omega) (UInt8.ofNat q) q (by simp; omega)
        have hln : (List.take (k + 1) (cs.set k (UInt8.ofNat q))).length = k + 1 := by simp [Hcs.out]; omega
        have := run_convert_bytes_back (P := Try.prog) (wr.setCell ⟨w.heap.size, k, none⟩ (.int .u8 q)) 28 9 5 ⟨w.heap.size, 0, none⟩ 10 (List.take (k + 1) (cs.set k (UInt8.ofNat q))) Try.underlying28 Try.underlying5 Try.underlying9 (fun j hj => by
          have := hb'.1 j (by simp [Hcs.out]; omega)
          simp only [List.getElem_take]
          by_cases h0 : j = 0
          · subst h0; exact this
          · simp [Addr.add, h0] at this ⊢; exact this)
        rw [hln] at this
        rw [this, ← Hput.out, putL_last q (by omega), take_set_succ _ _ _ (by have := Hcs.out; omega)]
      have Hb := Lib.hid hb; clear hb
      go_wp2
      go_ret
      exact ⟨rfl, hbel.setCell (by simp) _⟩

/-- string([]byte{c}). -/
theorem conv_one (W : World) (b : Nat) (v : Int) (c : UInt8) (hv : v = (c.toNat : Int)) (hc : W.cell? ⟨b, 0, none⟩ = some (.int .u8 v)) :
    (convert 28 9 (.slice (some ⟨b, 0, none⟩) 1 1)).run Try.prog W = .ok (.string ⟨#[c]⟩) W := by
  subst hv
  exact run_convert_bytes_back (P := Try.prog) W 28 9 5 ⟨b, 0, none⟩ 1 [c] Try.underlying28 Try.underlying5 Try.underlying9 (fun j hj => by
    obtain rfl : j = 0 := by simpa using hj
    exact hc)

set_option maxRecDepth 100000 in
set_option maxHeartbeats 1000000 in
theorem rput_any : ∀ (f n : Nat) (w : World), n < lim f → n < 18446744073709551616 →
    Calls Try.prog 12 #[.int .u64 n] w fun e w' => e = .returned (.string ⟨(putL n).toArray⟩) ∧ Below w.heap.size w w'
  | 0, n, w, hl, h2 => by
    obtain rfl : n = 0 := by simp [lim] at hl; exact hl
    have H := Lib.hid (putL_last 0 (by omega))
    have hcv : ∀ W b, W.cell? ⟨b, 0, none⟩ = some (.int .u8 0) → (convert 28 9 (.slice (some ⟨b, 0, none⟩) 1 1)).run Try.prog W = .ok (.string ⟨#[0]⟩) W := fun W b hc => conv_one W b 0 0 rfl hc
    go_enter Try.func12, Try.ntmps12
    go_wp2
    go_ret
    exact ⟨by rw [H.out]; rfl, (Below.refl _ _).alloc (Nat.le_refl _) _⟩
  | f + 1, n, w, hl, h2 => by
    by_cases h : n < 128
    · have H := Lib.hid (putL_last n h)
      have H2 := Lib.hid h2; clear h2
      have hcv : ∀ W b, W.cell? ⟨b, 0, none⟩ = some (.int .u8 (n : Int)) → (convert 28 9 (.slice (some ⟨b, 0, none⟩) 1 1)).run Try.prog W = .ok (.string ⟨#[UInt8.ofNat n]⟩) W := fun W b hc => conv_one W b n (UInt8.ofNat n) (by simp; omega) hc
      go_enter Try.func12, Try.ntmps12
      go_wp2
      go_ret
      exact ⟨by rw [H.out]; rfl, (Below.refl _ _).alloc (Nat.le_refl _) _⟩
    · have h0 := putL_step n (by omega) (lim10 n h2)
      have hX : IntKind.u8.wrap (IntKind.u8.wrap ((n : Int).tmod 128) + 128) = ((UInt8.ofNat (n % 128 + 128)).toNat : Int) := by
        rw [IntKind.wrap_u8, IntKind.wrap_u8, Int.tmod_eq_emod_of_nonneg (by omega)]; simp; first | done | omega
      have hY : IntKind.u64.wrap ((n : Int) / 128) = ((n / 128 : Nat) : Int) := by rw [IntKind.wrap_u64]; omega
      generalize UInt8.ofNat (n % 128 + 128) = c at h0 hX
      have H := Lib.hid h0; clear h0
      have HX := Lib.hid hX; clear hX
      have HY := Lib.hid hY; clear hY
      have hcv : ∀ W b, W.cell? ⟨b, 0, none⟩ = some (.int .u8 (IntKind.u8.wrap (IntKind.u8.wrap ((n : Int).tmod 128) + 128))) → (convert 28 9 (.slice (some ⟨b, 0, none⟩) 1 1)).run Try.prog W = .ok (.string ⟨#[c]⟩) W := fun W b hc => conv_one W b _ _ HX.out hc
      have hlen := putL_len (n / 128)
      have IH := fun W => rput_any f (n / 128) W (by rw [lim] at hl; omega) (by omega)
      have HI := Lib.hid IH; clear IH
      have H2 := Lib.hid h2; clear h2
      have Hl := Lib.hid hl; clear hl
      go_enter Try.func12, Try.ntmps12
      go_wp2
      go_region_with (go_at_call 12; rw [HY.out]; refine (HI.out _).mono ?_; rintro e w1 ⟨rfl, hb⟩; obtain ⟨hc, hf⟩ := bcell hb; have Hb := Lib.hid hb; clear hb hf; try simp at hc)
      all_goals
        clear hc hcv
        go_wp2
        go_ret
        refine ⟨by rw [H.out]; exact ret_string (ByteArray.mk_append_mk [c] _), ?_⟩
        first
          | exact (((Below.refl _ _).alloc (Nat.le_refl _) _).drew).trans (Hb.out.mono (by simp))
          | exact ((Below.refl _ _).drew.trans Hb.out).alloc (by have := Hb.out.size; simpa using this) _
end Go.Proofs.Ytigjaopafhjhaaa
