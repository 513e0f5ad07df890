/-
  The walk of the law RecordReads.
-/
import Derived.Test.YtollinpahfjecaaWRecs3
import Derived.Test.YtollinpahfjecaaWLaw1
open Go Go.RowKit
set_option linter.unusedVariables false
namespace Go.Proofs.Ytollinpahfjecaa.recordReads
/-- What stays while a statement goes on. -/
def Rest (w0 : World) (a b : Option Addr) (l : List Rec) (w : World) : Prop := RecsAt w a l ∧ RecsAt w b l ∧ Below w0.heap.size w0 w
theorem Rest.step {w0 w w' : World} {a b : Option Addr} {l : List Rec} (h : Rest w0 a b l w) (hb : Below w.heap.size w w') : Rest w0 a b l w' := ⟨h.1.below hb, h.2.1.below hb, below_on h.2.2 hb⟩

set_option maxRecDepth 100000 in
set_option maxHeartbeats 1000000 in
theorem walk (a0 : ByteArray) (a1 : Int) (w : World) (w0 : a0.size ≤ maxLen) (w1 : (Lit.int .i64 a1).wf = true) :
    Calls Try.prog 8 #[.string a0, .int .i64 a1] w fun e w' => e = .returned (.bool true) ∧ Below w.heap.size w w' := by
  clear w1
  have c0 := cutB_size a0 80
  go_enter Try.func8, Try.ntmps8
  go_wp2_with fail
  refine (cut_any a0 80 _ w0 (by omega)).mono ?_
  rintro e w' ⟨rfl, rfl⟩
  generalize cutB a0 80 = s at c0
  go_wp2_with fail
  refine (awake2_any _).mono ?_
  rintro e w1 ⟨rfl, hb⟩
  have B1 := Lib.hid hb; clear hb
  have hok := allF_ok (s.size + 1) s 0
  have hlen := allF_len (s.size + 1) s 0 (Nat.zero_le _)
  have hby := allF_bytes (s.size + 1) s 0 (Nat.zero_le _)
  obtain ⟨l, n, hln⟩ : ∃ l n, allF (s.size + 1) s 0 = (l, n) := ⟨_, _, rfl⟩
  rw [hln] at hok hlen hby
  have hall : allR s = (l, n) := hln
  clear hln
  simp only [Nat.sub_zero, Nat.add_zero] at hok hlen hby
  obtain ⟨hl1, hl2⟩ := hlen
  obtain ⟨y, hy, hsl⟩ : ∃ y : ByteArray, y.toList = bytesL l ∧ ∀ w, (Instr.slice 9 (.string s) none (some (.int .i64 (n : Int))) none).run Try.prog w = .ok (.string y) w := by
    refine ⟨s.extract 0 n, ?_, fun w => ?_⟩
    · rw [ByteArray.toList_eq, hby]
      unfold from_
      simp [ByteArray.data_extract, List.extract_eq_take_drop]
    · rw [run_slice_string_h (P := Try.prog) (w := w) (t := 9) (s := s) (ht := Try.underlying9) (kh := .i64) (h := (n : Int)) (h0 := by omega) (h2 := by omega)]
      rfl
  have Hok := Lib.hid hok; clear hok
  have Hall := Lib.hid hall; clear hall
  clear hby
  go_wp2_with fail
  refine (all_any s _ (by omega)).mono ?_
  rw [Hall.out]
  rintro e w2 ⟨a, ca, rfl, hc1, hc2, hc3, hb2⟩
  simp only at hc1 hc3 ⊢
  have B2 := Lib.hid (below_on B1.out hb2)
  have R2 := Lib.hid hc3; clear hc3 hb2 B1 hc2
  go_wp2_with fail
  refine (rall_any s _ (by omega)).mono ?_
  rw [Hall.out]
  rintro e w3 ⟨b, cb, rfl, hd1, hd2, hd3, hb3⟩
  simp only at hd1 hd3 ⊢
  have B3 := Lib.hid (below_on B2.out hb3)
  have R3 := Lib.hid (R2.out.below hb3)
  have S3 := Lib.hid hd3; clear hd3 hb3 B2 R2 hd2
  obtain ⟨m, hm⟩ : ∃ m, m = l.length := ⟨_, rfl⟩
  rw [← hm] at hc1 hd1 hl1 ⊢
  have Hm := Lib.hid hm; clear hm
  have hstart : Rest w3 a b l w3 := ⟨R3.out, S3.out, Below.refl _ _⟩
  have hstart2 := hstart.step ((Below.refl _ _).drew)
  have HS1 := Lib.hid hstart; clear hstart
  have HS2 := Lib.hid hstart2; clear hstart2
  go_wp2_with fail
  go_region_held3 (fun w' => Rest w3 a b l w')
    (first | exact HS1.out | exact HS2.out | exact Rest.step (by assumption) hb6 | exact Rest.step (by assumption) hb7)
    (first
      | (go_at_call 22; rw [Hm.out]; refine (bytes_any a _ l _ (by have := Hm.out; omega) Hok.out (by assumption : Rest w3 a b l _).1).mono ?_; rw [← Hm.out]; rintro e w6 ⟨rfl, hb6⟩)
      | (go_at_call 26; rw [Hm.out]; refine (are_eq a b _ _ l _ (by have := Hm.out; omega) (by assumption : Rest w3 a b l _).1 (by assumption : Rest w3 a b l _).2.1).mono ?_; rw [← Hm.out]; rintro e w7 ⟨rfl, hb7⟩))
  have b6 := below_on B3.out (by assumption : Rest w3 a b l w6).2.2
  have B6 := Lib.hid b6
  clear b6 hb6 hb7 HS1 HS2 R3 S3 B3 hsl hy Hok Hall hl1 hl2 hc1 hd1
  by_cases he : (getR s a1).2.2 = 0
  · obtain ⟨kk, x, c, rfl, hk, hkc, hR, hp, hx⟩ := getR_err s a1 he
    obtain ⟨k, q, hkq⟩ : ∃ k q, recOf x = (k, q) := ⟨_, _, rfl⟩
    have hck : checkV k (q : Int) = 0 := by have := checkV_ok (recOf_ok x hx); rw [hkq] at this; exact this
    have Hkq := Lib.hid hkq
    unfold recOf at hkq
    rw [Prod.mk.injEq] at hkq
    have hk1 : (x : Int) % 4 + 1 = k := by omega
    have hk2 : (x : Int) / 4 = (q : Int) := by omega
    have hx' : (x : Int) ≤ 18446744073709551615 := by omega
    have HR := Lib.hid hR; clear hR
    have Hx := Lib.hid hx; clear hx
    have Hck := Lib.hid hck; clear hck
    clear he hkq hp
    go_wp2_with fail
    refine (parse_good s kk _ (by unfold maxLen; omega) x (kk + c) HR.out Hx.out k q Hkq.out).mono ?_
    rintro e w8 ⟨rfl, hb8⟩
    have B8 := Lib.hid (below_on B6.out hb8); clear hb8 B6
    go_wp2_with fail
    refine (rget_any s kk _ (by omega)).mono ?_
    rintro e w' ⟨rfl, rfl⟩
    rw [HR.out]
    go_wp2_with fail
    refine (check_any k q _).mono ?_
    rintro e w9 ⟨rfl, hb9⟩
    rw [Hck.out]
    have B9 := Lib.hid hb9; clear hb9
    go_wp2
    go_ret
    exact ⟨rfl, below_on (below_on B8.out ((Below.refl _ _).alloc (Nat.le_refl _) _)) B9.out⟩
  · obtain ⟨x, c, z, hR⟩ : ∃ x c z, getR s a1 = (x, c, z) := ⟨_, _, _, rfl⟩
    have hz : z ≠ 0 := by rw [hR] at he; exact he
    have hz2 : ((z : Int) != 0) = true := by rw [bne_iff_ne]; omega
    have HR := Lib.hid hR; clear hR
    have Hz := Lib.hid hz; clear hz he
    go_wp2_with fail
    refine (parse_bad s a1 _ (by unfold maxLen; omega) x c z HR.out Hz.out).mono ?_
    rintro e w8 ⟨rfl, hb8⟩
    have B8 := Lib.hid (below_on B6.out hb8); clear hb8 B6
    go_wp2_with fail
    refine (rget_any s a1 _ (by omega)).mono ?_
    rintro e w' ⟨rfl, rfl⟩
    rw [HR.out]
    go_wp2
    go_ret
    exact ⟨rfl, B8.out.alloc B8.out.size _⟩
end Go.Proofs.Ytollinpahfjecaa.recordReads
