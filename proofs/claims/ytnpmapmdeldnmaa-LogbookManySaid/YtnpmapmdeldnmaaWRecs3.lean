/-
  The walk of the reference's All; of Are.
-/
import Derived.Test.YtnpmapmdeldnmaaWRecs2
open Go Go.RowKit
set_option linter.unusedVariables false
namespace Go.Proofs.Ytnpmapmdeldnmaa

set_option maxRecDepth 100000 in
set_option maxHeartbeats 1000000 in
theorem are_eq (a b : Option Addr) (ca cb : Nat) (l : List Rec) (w : World) (hl : l.length ≤ 1000) (ha : RecsAt w a l) (hb : RecsAt w b l) :
    Calls Try.prog 7 #[.slice a l.length ca, .slice b l.length cb] w fun e w' => e = .returned (.int .i64 0) ∧ Below w.heap.size w w' := by
  have Ha := Lib.hid ha; clear ha
  have Hb := Lib.hid hb; clear hb
  obtain ⟨m, hm⟩ : ∃ m, m = l.length := ⟨_, rfl⟩
  rw [← hm] at hl ⊢
  have Hm := Lib.hid hm; clear hm
  go_enter Try.func7, Try.ntmps7
  go_wp2_with fail
  go_loopw [5, 13] (fun _ c wr => ∃ k : Nat, k ≤ m ∧ c = .int .i64 k ∧ Hid (Below w.heap.size w wr)) (fun _ c _ => m - (intOf c).toNat)
  case atStart => exact ⟨0, by omega, rfl, Below.refl _ _⟩
  case round =>
    obtain ⟨k, hk, rfl, hr⟩ := hrel
    by_cases hlt : k < m
    · obtain ⟨b1, o1, rfl, h0, h1⟩ := (Ha.out.below hr.out) k (by have := Hm.out; omega)
      obtain ⟨b2, o2, rfl, h2, h3⟩ := (Hb.out.below hr.out) k (by have := Hm.out; omega)
      generalize l[k]'(by have := Hm.out; omega) = r at h0 h1 h2 h3
      obtain ⟨rk, rn⟩ := r
      simp only at h0 h1 h2 h3
      go_wp2_with fail
      go_quiet (fail)
      go_wp2
      exact ⟨⟨k + 1, by omega, by go_num, Lib.hid (below_drewN hr.out _)⟩, by simp [intOf]; omega⟩
    · go_wp2
      go_ret
      exact ⟨rfl, hr.out⟩
end Go.Proofs.Ytnpmapmdeldnmaa
