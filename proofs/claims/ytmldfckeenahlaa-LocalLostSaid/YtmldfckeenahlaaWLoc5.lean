/-
  The walks of the global row's List and Take, and of a queue's Fetch.
-/
import Derived.Test.YtmldfckeenahlaaWLoc4
open Go Go.RowKit
set_option linter.unusedVariables false
namespace Go.Proofs.Ytmldfckeenahlaa
set_option maxRecDepth 100000 in
set_option maxHeartbeats 1000000 in
theorem glist_any (w : World) (b : Nat) (gl : List Int) (F : List Nat) (h : GloAt w b gl F) (hl : gl.length ≤ 1000000) :
    Calls Try.prog 11 #[.pointer (some ⟨b, 0, none⟩)] w fun r w' => ∃ a' c', r = .returned (.slice a' gl.length c') ∧ RowAt w' a' c' gl ∧ (∀ x ∈ blk a', w.heap.size ≤ x) ∧ Below w.heap.size w w' := by
  obtain ⟨a0, cap, rfl, h2, h3, h4⟩ := h
  obtain ⟨g0, f0⟩ := h3 0 _ rfl
  have hc := clone_any w a0 gl.length cap gl h4.ints rfl hl (fun e => by
    rcases h4.2.2 with ⟨_, h⟩ | ⟨_, _, h, _⟩
    · exact h
    · rw [e] at h; cases h)
  have HC := Lib.hid hc
  clear hc h2 h3 h4 f0
  go_enter Try.func11, Try.ntmps11
  go_wp2_with fail
  refine HC.out.mono ?_
  rintro r w1 ⟨a', c', rfl, k⟩
  have K := Lib.hid k; clear k
  go_wp2
  go_ret
  exact ⟨a', c', rfl, K.out⟩
end Go.Proofs.Ytmldfckeenahlaa
