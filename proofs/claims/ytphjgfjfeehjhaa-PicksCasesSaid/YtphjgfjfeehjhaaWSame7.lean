/-
  The walk of Same of two lists.
-/
import Derived.Test.YtphjgfjfeehjhaaIRow2
open Go Go.RowKit
set_option linter.unusedVariables false
namespace Go.Proofs.Ytphjgfjfeehjhaa
set_option maxRecDepth 100000 in
set_option maxHeartbeats 1000000 in
/-- Of lists that are the same. -/
theorem same_any (w : World) (a b : Option Addr) (c d : Nat) (l : List Int) (h : IntsAt w a l) (k : IntsAt w b l) (hl : l.length ≤ maxLen) :
    Calls Try.prog 8 #[.slice a l.length c, .slice b l.length d] w fun r w' => r = .returned (.int .i64 0) ∧ ∃ m, w' = w.drewN m := by
  obtain ⟨K, hK⟩ : ∃ K, K = l.length := ⟨_, rfl⟩
  rw [← hK] at hl ⊢
  unfold maxLen at hl
  have H := Lib.hid h; clear h
  have J := Lib.hid k; clear k
  have HK := Lib.hid hK; clear hK
  go_enter Try.func8, Try.ntmps8
  go_wp2_with fail
  go_loopw [13] (fun iv wr => ∃ i m : Nat, i ≤ K ∧ iv = .int .i64 i ∧ wr = w.drewN m) (fun iv _ => K - (intOf iv).toNat)
  case atStart => exact ⟨0, 0, by omega, rfl, rfl⟩
  case round =>
    obtain ⟨i, m, hi, rfl, rfl⟩ := hrel
    by_cases hlt : i < K
    · obtain ⟨b1, o1, rfl, g1⟩ := H.out i (by have := HK.out; omega)
      obtain ⟨b2, o2, rfl, g2⟩ := J.out i (by have := HK.out; omega)
      have hli : (i : Int) < (K : Int) := by omega
      go_wp2_with fail
      go_quiet (fail)
      go_wp2
      exact ⟨⟨i + 1, _, by omega, by go_num, rfl⟩, by simp [intOf]; omega⟩
    · obtain rfl : i = K := by omega
      go_wp2
      go_ret
      exact ⟨rfl, _, rfl⟩
end Go.Proofs.Ytphjgfjfeehjhaa
