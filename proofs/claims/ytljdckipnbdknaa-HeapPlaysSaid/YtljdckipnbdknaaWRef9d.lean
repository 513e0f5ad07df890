/-
  The law's same, at two rows of the same items.
-/
import Derived.Test.YtljdckipnbdknaaWRef9
open Go Go.RowKit
set_option linter.unusedVariables false
namespace Go.Proofs.Ytljdckipnbdknaa
set_option maxRecDepth 100000 in
set_option maxHeartbeats 2000000 in
theorem xsame_any (w : World) (v v' : Value) (l : List It) (h : ItemsT 43 w v l) (k : ItemsT 48 w v' l) (hl : l.length ≤ 1000000) :
    Calls Try.prog 11 #[v, v'] w fun r w' => r = .returned (.bool true) ∧ ∃ m, w' = w.drewN m := by
  obtain ⟨a, c, rfl, _⟩ := h.slice
  obtain ⟨b, d, rfl, _⟩ := k.slice
  obtain ⟨K, hK⟩ : ∃ K, K = l.length := ⟨_, rfl⟩
  rw [← hK] at hl h k ⊢
  have hc : ∀ i, i < K → ∃ g g', a = some ⟨g, 0, none⟩ ∧ b = some ⟨g', 0, none⟩ ∧ ∃ x y z, w.cell? ⟨g, i * 3, none⟩ = some (.int .u64 x) ∧ w.cell? ⟨g, i * 3 + 1, none⟩ = some (.int .u64 y) ∧ w.cell? ⟨g, i * 3 + 2, none⟩ = some (.int .i64 z) ∧ w.cell? ⟨g', i * 3, none⟩ = some (.int .u64 x) ∧ w.cell? ⟨g', i * 3 + 1, none⟩ = some (.int .u64 y) ∧ w.cell? ⟨g', i * 3 + 2, none⟩ = some (.int .i64 z) := fun i hi => by
    obtain ⟨g, rfl, h1, h2, h3⟩ := h.cells i (by omega)
    obtain ⟨g', rfl, k1, k2, k3⟩ := k.cells i (by omega)
    exact ⟨g, g', rfl, rfl, _, _, _, h1, h2, h3, k1, k2, k3⟩
  have HC := Lib.hid hc; clear hc h k hK
  go_enter Try.func11, Try.ntmps11
  go_wp2_with fail
  go_loopw [13] (fun iv wr => ∃ i m : Nat, i ≤ K ∧ iv = .int .i64 i ∧ wr = w.drewN m) (fun iv _ => K - (intOf iv).toNat)
  case atStart => exact ⟨0, 0, by omega, rfl, rfl⟩
  case round =>
    obtain ⟨i, m, hi, rfl, rfl⟩ := hrel
    by_cases hlt : i < K
    · obtain ⟨g, g', rfl, rfl, x, y, z, p1, p2, p3, q1, q2, q3⟩ := HC.out i hlt
      have hli : (i : Int) < (K : Int) := by omega
      go_wp2_with fail
      go_quiet (fail)
      go_wp2
      exact ⟨⟨i + 1, _, by omega, by go_num, rfl⟩, by simp [intOf]; omega⟩
    · obtain rfl : i = K := by omega
      go_wp2
      go_ret
      exact ⟨rfl, _, rfl⟩
end Go.Proofs.Ytljdckipnbdknaa
