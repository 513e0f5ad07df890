/-
  The walks of record.Record's methods, record.Parse, and of what the second law holds them against.
-/
import Derived.Test.YtnpmapmdeldnmaaRows
import Derived.Test.YtnpmapmdeldnmaaRecs
import Derived.Test.YtnpmapmdeldnmaaWPut
import Derived.Test.YtnpmapmdeldnmaaWGet
open Go Go.RowKit
set_option linter.unusedVariables false
namespace Go.Proofs.Ytnpmapmdeldnmaa
theorem num_int {r : Rec} (h : Rec.ok r) : ((r.2 : Int) * 4 + (r.1 - 1)) = (r.num : Int) := by unfold Rec.num; obtain ⟨h1, h2, h3⟩ := h; omega
set_option maxRecDepth 100000 in
set_option maxHeartbeats 400000 in
theorem bytes1_any (k : Int) (n : Nat) (w : World) (h : Rec.ok (k, n)) :
    Calls Try.prog 30 #[.agg #[.int .i64 k, .int .u64 (n : Int)]] w fun e w' => e = .returned (.string ⟨(putL (Rec.num (k, n))).toArray⟩) ∧ Below w.heap.size w w' := by
  have hnum := num_int h
  have hlt := Rec.num_lt h
  obtain ⟨h1, h2, h3⟩ := h
  simp only at h1 h2 h3 hnum
  have h4 : (n : Int) ≤ 4611686018427387903 := by omega
  have Hn := Lib.hid hnum; clear hnum h3
  have Hl := Lib.hid hlt; clear hlt
  go_enter Try.func30, Try.ntmps30
  go_wp2_with fail
  rw [Hn.out]
  refine (put_any _ _ Hl.out).mono ?_
  rintro e w' ⟨rfl, hb⟩
  have Hb := Lib.hid hb; clear hb
  go_wp2
  go_ret
  exact ⟨rfl, below_on ((Below.refl _ _).alloc (Nat.le_refl _) _) Hb.out⟩
/-- What Check answers. -/
def checkV (k n : Int) : Int := if k < 1 ∨ 4 < k then 9 else if 4611686018427387903 < n then 3 else 0
theorem checkV_ok {r : Rec} (h : Rec.ok r) : checkV r.1 (r.2 : Int) = 0 := by
  obtain ⟨h1, h2, h3⟩ := h; unfold checkV; rw [if_neg (by omega), if_neg (by omega)]
set_option maxRecDepth 100000 in
set_option maxHeartbeats 400000 in
theorem check_any (k n : Int) (w : World) :
    Calls Try.prog 19 #[.agg #[.int .i64 k, .int .u64 n]] w fun e w' => e = .returned (.int .i64 (checkV k n)) ∧ Below w.heap.size w w' := by
  by_cases h1 : k < 1
  · rw [show checkV k n = 9 by unfold checkV; rw [if_pos (.inl h1)]]
    go_enter Try.func19, Try.ntmps19
    go_wp2
    go_ret
    exact ⟨rfl, (Below.refl _ _).alloc (Nat.le_refl _) _⟩
  · by_cases h2 : 4 < k
    · rw [show checkV k n = 9 by unfold checkV; rw [if_pos (.inr h2)]]
      go_enter Try.func19, Try.ntmps19
      go_wp2
      go_ret
      exact ⟨rfl, (Below.refl _ _).alloc (Nat.le_refl _) _⟩
    · by_cases h3 : 4611686018427387903 < n
      · rw [show checkV k n = 3 by unfold checkV; rw [if_neg (by omega), if_pos h3]]
        go_enter Try.func19, Try.ntmps19
        go_wp2
        go_ret
        exact ⟨rfl, (Below.refl _ _).alloc (Nat.le_refl _) _⟩
      · rw [show checkV k n = 0 by unfold checkV; rw [if_neg (by omega), if_neg h3]]
        go_enter Try.func19, Try.ntmps19
        go_wp2
        go_ret
        exact ⟨rfl, (Below.refl _ _).alloc (Nat.le_refl _) _⟩
theorem ret_parse {k k' n n' c c' e e' : Int} (h1 : k = k') (h2 : n = n') (h3 : c = c') (h4 : e = e') :
    Ending.returned (.tuple #[.agg #[.int .i64 k, .int .u64 n], .int .i64 c, .int .i64 e]) = .returned (.tuple #[.agg #[.int .i64 k', .int .u64 n'], .int .i64 c', .int .i64 e']) := by rw [h1, h2, h3, h4]
set_option maxRecDepth 100000 in
set_option maxHeartbeats 400000 in
theorem parse_bad (s : ByteArray) (a : Int) (w : World) (hs : s.size ≤ maxLen) (n c x : Nat) (hR : getR s a = (n, c, x)) (hx : x ≠ 0) :
    Calls Try.prog 33 #[.string s, .int .i64 a] w fun e w' => e = .returned (.tuple #[.agg #[.int .i64 0, .int .u64 0], .int .i64 0, .int .i64 (x : Int)]) ∧ Below w.heap.size w w' := by
  have hx' : ((x : Int) != 0) = true := by rw [bne_iff_ne]; omega
  clear hx
  have HR := Lib.hid hR; clear hR
  go_enter Try.func33, Try.ntmps33
  go_wp2_with fail
  refine (get_any s a _ hs).mono ?_
  rintro e w' ⟨rfl, rfl⟩
  rw [HR.out]
  go_wp2
  exact bodyPost_ret (v := .tuple #[.agg #[.int .i64 0, .int .u64 0], .int .i64 0, .int .i64 (x : Int)]) (by simp [results, Try.results33, go_sem]) rfl ⟨rfl, (Below.refl _ _).alloc (Nat.le_refl _) _⟩
set_option maxRecDepth 100000 in
set_option maxHeartbeats 400000 in
theorem parse_good (s : ByteArray) (a : Int) (w : World) (hs : s.size ≤ maxLen) (n c : Nat) (hR : getR s a = (n, c, 0)) (hn : n < 18446744073709551616) (k : Int) (m : Nat) (hk : recOf n = (k, m)) :
    Calls Try.prog 33 #[.string s, .int .i64 a] w fun e w' => e = .returned (.tuple #[.agg #[.int .i64 k, .int .u64 (m : Int)], .int .i64 (c : Int), .int .i64 0]) ∧ Below w.heap.size w w' := by
  unfold recOf at hk
  rw [Prod.mk.injEq] at hk
  obtain ⟨hk1, hk2⟩ := hk
  have e1 : (n : Int) % 4 + 1 = k := by omega
  have e2 : (n : Int) / 4 = (m : Int) := by omega
  clear hk1 hk2
  have E1 := Lib.hid e1; clear e1
  have E2 := Lib.hid e2; clear e2
  have hn' : (n : Int) ≤ 18446744073709551615 := by omega
  clear hn
  have HR := Lib.hid hR; clear hR
  go_enter Try.func33, Try.ntmps33
  go_wp2_with fail
  refine (get_any s a _ hs).mono ?_
  rintro e w' ⟨rfl, rfl⟩
  rw [HR.out]
  go_wp2
  rw [← E1.out, ← E2.out]
  exact bodyPost_ret (v := .tuple #[.agg #[.int .i64 ((n : Int) % 4 + 1), .int .u64 ((n : Int) / 4)], .int .i64 (c : Int), .int .i64 0]) (by simp [results, Try.results33, go_sem]) rfl ⟨rfl, (Below.refl _ _).alloc (Nat.le_refl _) _⟩
theorem awake_parse : getR ⟨#[13]⟩ 0 = (13, 1, 0) := by decide +kernel
theorem awake_bytes : putL (Rec.num (1, 3)) = [12] := by decide +kernel
end Go.Proofs.Ytnpmapmdeldnmaa
