/-
  The walk of the law's awake.
-/
import Derived.Test.YtfllplfpeibocaaWFr3
open Go Go.RowKit
set_option linter.unusedVariables false
namespace Go.Proofs.Ytfllplfpeibocaa
set_option maxRecDepth 100000 in
set_option maxHeartbeats 4000000 in
theorem awake12_any (w : World) : Calls Try.prog 5 #[] w fun e w' => e = .returned (.bool true) ∧ Below w.heap.size w w' := by
  have hnil : ∀ g o, ∀ w, (binOp .eql 33 (.pointer (some ⟨g, o, none⟩)) (.pointer none)).run Try.prog w = .ok (.bool false) w := fun g o w => by rfl
  have htop : ∀ g cap w, Calls Try.prog 9 #[.slice (some ⟨g, 0, none⟩) 1 cap] w fun e w' => e = .returned (.pointer (some ⟨g, 0, none⟩)) ∧ w' = w := fun g cap w => top_any g 0 cap w (by omega)
  have HT := Lib.hid htop
  clear htop
  go_enter Try.func5, Try.ntmps5
  go_wp2_with fail
  refine (begin_any 0 5 _).mono ?_
  rintro e w1 ⟨g, rfl, hg, h1, b1⟩
  have H1 := Lib.hid h1
  have B1 := Lib.hid b1
  have G1 := Lib.hid hg
  clear h1 b1 hg
  go_wp2_with (go_at_call 9; refine (HT.out _ _ _).mono ?_; rintro e wt ⟨rfl, rfl⟩)
  refine (pure_const g 0 1 1 1 _ 7 0 _ (by omega) H1.out (by omega) (by rfl) (by omega)).mono ?_
  rintro e w2 ⟨rfl, c2, h2⟩
  have H2 := Lib.hid h2
  have C2 := Lib.hid c2
  clear c2 h2
  go_wp2_with (go_at_call 9; refine (HT.out _ _ _).mono ?_; rintro e wt ⟨rfl, rfl⟩)
  refine (pure_add g 1 1 _ 5 7 1 _ H2.out (by omega) (by rfl) (by rfl) (by omega) (by omega) (by rfl) (by omega)).mono ?_
  rintro e w3 ⟨rfl, c3, h3⟩
  obtain ⟨x1, -⟩ := h3.at (j := 1) (x := 2) (by rfl)
  obtain ⟨x4, -⟩ := h3.at (j := 4) (x := 12) (by rfl)
  have hb3 : Below w.heap.size w w3 := Chg.below B1.out (C2.out.trans c3 (fun x hx => .inl hx)) (fun x hx => by simp at hx; subst hx; exact G1.out)
  have B3 := Lib.hid hb3
  clear c3 h3 hb3
  go_wp2_with (first | (go_at_call 9; refine (HT.out _ _ _).mono ?_; rintro e wt ⟨rfl, rfl⟩) | (go_at_call 10; refine (pure_yield _ _).mono ?_; rintro e wy ⟨rfl, by_⟩))
  go_ret
  exact ⟨rfl, below_on B3.out by_⟩
end Go.Proofs.Ytfllplfpeibocaa
