/-
  A log in memory: the book's calls on it; the laws' awake.
-/
import Derived.Test.YtnpmapmdeldnmaaLogOf
open Go Go.RowKit
set_option linter.unusedVariables false
namespace Go.Proofs.Ytnpmapmdeldnmaa
/-- A store and its book in memory, whose log is made of batches. -/
structure Lg (w0 w : World) (p pb : Nat) (s : SSt) (b : BSt) (bat : List (List Rec)) (K : List Nat) : Prop where
  log : LogK w0 w p pb s b K
  of : LogOf s b bat
  few : bat.flatten.length + b.wait.length ≤ 400
  wait : b.wait.length ≤ 100
theorem Lg.step {w0 w w' : World} {p pb : Nat} {s : SSt} {b : BSt} {bat : List (List Rec)} {K : List Nat} (h : Lg w0 w p pb s b bat K) (hb : Below w.heap.size w w') : Lg w0 w' p pb s b bat K := ⟨h.log.step hb, h.of, h.few, h.wait⟩
/-- What a call leaves that changes the log alone. -/
def LgTo (w0 w w' : World) (p pb : Nat) (s : SSt) (b : BSt) (bat : List (List Rec)) (K : List Nat) : Prop := ∃ K', Lg w0 w' p pb s b bat K' ∧ Chg K w w' ∧ ∀ x ∈ K', x ∈ K ∨ w.heap.size ≤ x
theorem lg_add {w0 w : World} {p pb : Nat} {s : SSt} {b : BSt} {bat : List (List Rec)} {K : List Nat} (h : Lg w0 w p pb s b bat K) (r : Rec) (hr : Rec.ok r) (hl : b.wait.length + 1 ≤ 100) (hf : bat.flatten.length + b.wait.length + 1 ≤ 400) :
    Calls Try.prog 11 #[.pointer (some ⟨pb, 0, none⟩), .agg #[.int .i64 r.1, .int .u64 (r.2 : Int)]] w fun e w' => e = .returned (.int .i64 0) ∧ LgTo w0 w w' p pb (s.after b r) (b.after r) (batAfter b bat r) K := by
  have hroom := h.of.room2 (by omega)
  have hok := h.log.log.bok.2.2.2.2.2
  refine (add_anyK h.log r hr hl h.of.armed (by omega) (by rw [h.of.room]; omega) (by rw [h.of.next]; have := h.of.bat.count; omega) (by rw [h.of.sure]; omega)).mono ?_
  rintro e w' ⟨rfl, K', h2, h3, h4⟩
  have hfl := after_flat b bat r
  have hlen := congrArg List.length hfl
  rw [List.length_append, List.length_append, List.length_append, List.length_singleton] at hlen
  refine ⟨rfl, K', ⟨h2, h.of.add r hr hl hok, by omega, ?_⟩, h3, h4⟩
  unfold BSt.after
  split
  · simp only [BSt.added, List.length_append, List.length_singleton]; omega
  · rw [flushed_wait]; simp
theorem lg_flush {w0 w : World} {p pb : Nat} {s : SSt} {b : BSt} {bat : List (List Rec)} {K : List Nat} (h : Lg w0 w p pb s b bat K) :
    Calls Try.prog 12 #[.pointer (some ⟨pb, 0, none⟩)] w fun e w' => e = .returned (.int .i64 0) ∧ LgTo w0 w w' p pb (s.flushed b) b.flushed (batFlush b bat) K := by
  have hroom := h.of.room2 (by have := h.few; omega)
  have hok := h.log.log.bok.2.2.2.2.2
  have hfew := h.few
  have hfl := congrArg List.length (batFlush_flat b bat)
  rw [List.length_append] at hfl
  have hw := h.wait
  have hof := h.of.flush2 hw hok
  by_cases hn : b.wait = []
  · refine (flush_nil h.log.log hn).mono ?_
    rintro e w' ⟨rfl, rfl⟩
    have e1 : s.flushed b = s := by unfold SSt.flushed; rw [if_pos hn]
    have e2 : b.flushed = b := by unfold BSt.flushed; rw [if_pos hn]
    exact ⟨rfl, K, ⟨by rw [e1, e2]; exact h.log, hof, by rw [flushed_wait, List.length_nil]; omega, by rw [flushed_wait]; simp⟩, Chg.refl _ _, fun x hx => .inl hx⟩
  · refine (flush_someK h.log hn hw h.of.armed (by omega) (by rw [h.of.room]; omega) (by rw [h.of.next]; have := h.of.bat.count; omega) (by rw [h.of.sure]; omega)).mono ?_
    rintro e w' ⟨rfl, K', h2, h3, h4⟩
    exact ⟨rfl, K', ⟨h2, hof, by rw [flushed_wait, List.length_nil]; omega, by rw [flushed_wait]; simp⟩, h3, h4⟩
theorem readR_nil : readR ⟨#[]⟩ = [] := by decide +kernel
theorem sizeOf_one : sizeOf_ 1 = 1 := by decide
/-- Open of a new store. -/
theorem open_new {w0 w : World} {p : Nat} {r : Int} (h : Inv w0 w p (SSt.new r)) (z : Int) (hz1 : -9223372036854775808 ≤ z) (hz2 : z ≤ 9223372036854775807) :
    Calls Try.prog 6 #[.pointer (some ⟨p, 0, none⟩), .int .i64 z] w fun e w' => ∃ pb a cap, e = .returned (.tuple #[.pointer (some ⟨pb, 0, none⟩), .slice a 0 cap, .int .i64 0]) ∧ Log w0 w' p pb (SSt.new r) ⟨sizeOf_ z, 0, 0, []⟩ := by
  refine (lopen_any h z hz1 hz2 rfl (by simp [SSt.new])).mono ?_
  rintro e w' ⟨pb, a, cap, rfl, _, _, _, h2⟩
  have e0 : ByteArray.mk (SSt.new r).bs.toArray = ⟨#[]⟩ := rfl
  have e1 : recsOf (readR ⟨(SSt.new r).bs.toArray⟩) = [] := by rw [e0, readR_nil]; rfl
  have e2 : (SSt.new r).opened = SSt.new r := by unfold SSt.opened; rw [e0, readR_nil]; rfl
  have e3 : openedB (SSt.new r).bs z = ⟨sizeOf_ z, 0, 0, []⟩ := by
    unfold openedB; rw [e0, readR_nil]; rfl
  rw [e2, e3] at h2
  rw [e1]
  exact ⟨pb, a, cap, rfl, h2⟩
theorem LogOf.new (z : Int) : LogOf (SSt.new 1048576) ⟨sizeOf_ z, 0, 0, []⟩ [] := ⟨rfl, rfl, rfl, rfl, rfl, rfl, fun x hx => by simp at hx⟩
theorem aw6_wait : (BSt.after ⟨1, 0, 0, []⟩ (3, 5)).wait = [] ∧ (BSt.after ⟨1, 0, 0, []⟩ (3, 5)).sure = 1 := by decide
set_option maxRecDepth 100000 in
set_option maxHeartbeats 1000000 in
theorem awake6_any (w : World) : Calls Try.prog 4 #[] w fun e w' => e = .returned (.bool true) ∧ Below w.heap.size w w' := by
  go_enter Try.func4, Try.ntmps4
  go_wp2_with fail
  refine (inv_new 1000 w _ (Below.refl _ _) (by omega) (by omega)).mono ?_
  rintro e w1 ⟨rfl, h1⟩
  have H1 := Lib.hid h1; clear h1
  go_wp2_with fail
  refine (open_new H1.out 1 (by omega) (by omega)).mono ?_
  rintro e w2 ⟨pb, a, cap, rfl, h2⟩
  rw [sizeOf_one] at h2
  have H2 := Lib.hid h2; clear h2 H1
  go_wp2_with fail
  refine (add_any H2.out (3, 5) (by decide) (by simp) rfl (by decide) (by decide) (by simp) (by simp)).mono ?_
  rintro e w3 ⟨rfl, h3⟩
  have H3 := Lib.hid h3; clear h3 H2
  go_wp2_with fail
  refine (lsure_any H3.out).mono ?_
  rintro e w4 ⟨rfl, rfl⟩
  rw [aw6_wait.2]
  go_wp2_with fail
  refine (lwait_any H3.out).mono ?_
  rintro e w4 ⟨rfl, rfl⟩
  rw [aw6_wait.1]
  go_wp2_with fail
  refine (add_bad H3.out 0 0 9 (by decide) (by omega)).mono ?_
  rintro e w5 ⟨rfl, h5⟩
  have B5 := Lib.hid (below_on H3.out.bel h5); clear h5
  go_wp2
  go_ret
  exact ⟨rfl, B5.out⟩
end Go.Proofs.Ytnpmapmdeldnmaa
