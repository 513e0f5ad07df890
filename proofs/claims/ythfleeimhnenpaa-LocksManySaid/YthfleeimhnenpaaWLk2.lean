/-
  Locks among other pieces of memory; the walk of awake.
-/
import Derived.Test.YthfleeimhnenpaaWLk1
open Go Go.RowKit
set_option linter.unusedVariables false
namespace Go.Proofs.Ythfleeimhnenpaa
theorem o_knew {w0 w : World} {As : List Asr} (h : Own w0 w As) : Calls Try.prog 25 #[] w fun r w' => ∃ p, r = .returned (.pointer (some ⟨p, 0, none⟩)) ∧ Own w0 w' (LockA p [] :: As) ∧ Below w.heap.size w w' :=
  (knew_any w).mono fun r w' ⟨p, h1, h2, h3, h4⟩ => ⟨p, h1, h.add h4 (F := [p]) h2 (fun x hx => by simp at hx; omega), h4⟩
theorem o_kowner {w0 w : World} {As : List Asr} {p : Nat} {L : List Int} (h : Own w0 w (LockA p L :: As)) :
    Calls Try.prog 32 #[.pointer (some ⟨p, 0, none⟩)] w fun r w' => r = .returned (.int .i64 (L.headD (-1))) ∧ w = w' := by
  obtain ⟨F, h1, -⟩ := h.head
  exact kowner_any w p L F h1
theorem o_ktake {w0 w : World} {As : List Asr} {p : Nat} {L : List Int} (h : Own w0 w (LockA p L :: As)) (g : Int) (hl : L.length ≤ 1000000) :
    Calls Try.prog 28 #[.pointer (some ⟨p, 0, none⟩), .int .i64 g] w fun r w' => r = .returned (.bool L.isEmpty) ∧ Own w0 w' (LockA p (L ++ [g]) :: As) :=
  Own.call1 (A := LockA p L) (A' := LockA p (L ++ [g])) (ret := fun r => r = .returned (.bool L.isEmpty)) h (fun F hF => ktake_any w p L F g hF hl)
theorem o_kgive {w0 w : World} {As : List Asr} {p : Nat} {L : List Int} (h : Own w0 w (LockA p L :: As)) (g : Int) :
    Calls Try.prog 30 #[.pointer (some ⟨p, 0, none⟩), .int .i64 g] w fun r w' => r = .returned (.tuple #[.int .i64 (gaveR L g).1, .int .i64 (gaveR L g).2]) ∧ Own w0 w' (LockA p (gaveL L g) :: As) :=
  Own.call1 (A := LockA p L) (A' := LockA p (gaveL L g)) (ret := fun r => r = .returned (.tuple #[.int .i64 (gaveR L g).1, .int .i64 (gaveR L g).2])) h (fun F hF => kgive_any w p L F g hF)
set_option maxRecDepth 100000 in
set_option maxHeartbeats 1000000 in
theorem awake14_any (w : World) : Calls Try.prog 24 #[] w fun r w' => r = .returned (.bool true) ∧ Below w.heap.size w w' := by
  have hn : ∀ w p, (binOp .eql 60 (.pointer (some ⟨p, 0, none⟩)) (.pointer none)).run Try.prog w = .ok (.bool false) w := fun w p => by rfl
  have HN := Lib.hid hn; clear hn
  go_enter Try.func24, Try.ntmps24
  go_wp2_with fail
  refine (o_knew (Own.nil (Below.refl _ _))).mono ?_
  rintro r w1 ⟨p, rfl, h1, -⟩
  have H1 := Lib.hid h1; clear h1
  have hnp := fun w => HN.out w p
  go_wp2_with fail
  refine (o_ktake H1.out 1 (by simp)).mono ?_
  rintro r w2 ⟨rfl, h2⟩
  have H2 := Lib.hid h2; clear h2 H1
  go_wp2_with fail
  refine (o_ktake H2.out 2 (by simp)).mono ?_
  rintro r w3 ⟨rfl, h3⟩
  have H3 := Lib.hid h3; clear h3 H2
  go_wp2_with fail
  refine (o_kgive H3.out 1).mono ?_
  rintro r w4 ⟨rfl, h4⟩
  have hb := h4.bel
  clear h4 H3
  simp only [List.nil_append, List.cons_append, gaveR, if_true, List.headD_cons, List.isEmpty_nil, List.isEmpty_cons]
  go_wp2
  go_ret
  exact ⟨rfl, hb⟩
end Go.Proofs.Ythfleeimhnenpaa
