/-
  A heap that the law makes; the laws' awake; what Wake gives in order.
-/
import Derived.Test.YtljdckipnbdknaaWHeap5
open Go Go.RowKit
set_option linter.unusedVariables false
namespace Go.Proofs.Ytljdckipnbdknaa
theorem wakes_all : ∀ (n : Nat) (l : List It) (now : Int), l.length = n → HeapI l →
    ((wakes l now).1 ++ (wakes l now).2).Perm l ∧ (wakes l now).1.Pairwise leI ∧ (∀ x ∈ (wakes l now).2, now < x.at_) ∧ HeapI (wakes l now).2 ∧ ∀ x ∈ (wakes l now).1, x.at_ ≤ now := by
  intro n
  induction n with
  | zero =>
    intro l now hn hh
    rw [wakes_stop (by omega)]
    have : l = [] := List.length_eq_zero_iff.1 hn
    subst this
    exact ⟨by simp, by simp, by simp, hh, by simp⟩
  | succ n ih =>
    intro l now hn hh
    by_cases hat : (gI l 0).at_ ≤ now
    · have h0 : 0 < l.length := by omega
      rw [wakes_go h0 hat]
      obtain ⟨h1, h2, h3, h4, h5⟩ := ih (remF l 0) now (by rw [remF_len h0]; omega) (rem_heap h0 hh)
      have hp := rem_perm h0
      refine ⟨(h1.cons _).trans hp.symm, List.pairwise_cons.2 ⟨fun y hy => ?_, h2⟩, h3, h4, fun y hy => ?_⟩
      · have hm : y ∈ l := hp.symm.subset (List.mem_cons_of_mem _ (h1.subset (List.mem_append_left _ hy)))
        obtain ⟨i, hi, rfl⟩ := List.mem_iff_getElem.1 hm
        have := hh.least i hi
        rwa [gI_of hi] at this
      · rcases List.mem_cons.1 hy with rfl | hy
        · exact hat
        · exact h5 y hy
    · rw [wakes_stop (fun h => hat h.2)]
      refine ⟨by simp, by simp, fun y hy => ?_, hh, by simp⟩
      obtain ⟨i, hi, rfl⟩ := List.mem_iff_getElem.1 hy
      have := hh.least i hi
      rw [gI_of hi, leI_iff] at this
      omega
/-- A heap made behind w0. -/
def HS (w0 w : World) (p : Nat) (l : List It) (nx : Nat) : Prop := ∃ v, HeapAt w p v l nx ∧ (∀ x ∈ foot p v, w0.heap.size ≤ x) ∧ Below w0.heap.size w0 w
theorem HS.bel {w0 w : World} {p : Nat} {l : List It} {nx : Nat} (h : HS w0 w p l nx) : Below w0.heap.size w0 w := by obtain ⟨v, h1, h2, h3⟩ := h; exact h3
theorem HS.step {w0 w w' : World} {p : Nat} {l : List It} {nx : Nat} (h : HS w0 w p l nx) (hb : Below w.heap.size w w') : HS w0 w' p l nx := by
  obtain ⟨v, h1, h2, h3⟩ := h; exact ⟨v, h1.below hb, h2, below_on h3 hb⟩
theorem HS.new {w0 w : World} (h : Below w0.heap.size w0 w) (t : TypeId) {p : Nat} (hp : p = w.heap.size) : HS w0 (w.alloc (.cells #[.slice none 0 0, .int .u64 0] t)) p [] 0 :=
  ⟨.slice none 0 0, ⟨Blk.mk w [.slice none 0 0, .int .u64 0] t p hp, ItemsAt.nil _, fun x hx => by simp [Value.ownBlock] at hx⟩, fun x hx => by simp [foot, Value.ownBlock] at hx; have := h.size; omega, h.alloc h.size _⟩
theorem hs_push {w0 w : World} {p : Nat} {l : List It} {nx : Nat} (h : HS w0 w p l nx) (at_ id : Int) (hl : l.length ≤ 100000) (hnx : nx ≤ 100000) :
    Calls Try.prog 6 #[.pointer (some ⟨p, 0, none⟩), .int .u64 at_, .int .i64 id] w fun r w' => r = .returned (.int .u64 (nx : Int)) ∧ HS w0 w' p (pushF l ⟨at_, nx, id⟩) (nx + 1) := by
  obtain ⟨v, h1, h2, h3⟩ := h
  refine (hpush_any w p v l nx at_ id h1 hl hnx).mono ?_
  rintro r w' ⟨v', e, k1, k2, k3⟩
  exact ⟨e, v', k1, fun x hx => by rcases k3 x hx with h | h; exact h2 x h; exact Nat.le_trans h3.size h, Chg.below h3 k2 h2⟩
theorem hs_wake {w0 w : World} {p : Nat} {l : List It} {nx : Nat} (h : HS w0 w p l nx) (now : Int) (hl : l.length ≤ 100000) :
    Calls Try.prog 12 #[.pointer (some ⟨p, 0, none⟩), .int .u64 now] w fun r w' => ∃ v5, r = .returned v5 ∧ ItemsAt w' v5 (wakes l now).1 ∧ (∀ y ∈ v5.ownBlock.toList, w.heap.size ≤ y) ∧ HS w0 w' p (wakes l now).2 nx := by
  obtain ⟨v, h1, h2, h3⟩ := h
  refine (wake_any w p v l nx now h1 hl).mono ?_
  rintro r w' ⟨v5, v', e, k1, k2, k3, k4, k5⟩
  exact ⟨v5, e, k1, k2, v', k3, by rw [foot_eq k4]; exact h2, Chg.below h3 k5 h2⟩
theorem hs_len {w0 w : World} {p : Nat} {l : List It} {nx : Nat} (h : HS w0 w p l nx) :
    Calls Try.prog 15 #[.pointer (some ⟨p, 0, none⟩)] w fun r w' => r = .returned (.int .i64 (l.length : Int)) ∧ w' = w := by
  obtain ⟨v, h1, h2, h3⟩ := h; exact hlen_any w p v l nx h1
theorem hs_min {w0 w : World} {p : Nat} {l : List It} {nx : Nat} (h : HS w0 w p l nx) (hl : 0 < l.length) :
    Calls Try.prog 13 #[.pointer (some ⟨p, 0, none⟩)] w fun r w' => r = .returned (.tuple #[itv (gI l 0), .bool true]) ∧ Below w.heap.size w w' := by
  obtain ⟨v, h1, h2, h3⟩ := h; exact hmin_any w p v l nx h1 hl
theorem hs_yes {w0 w : World} {p : Nat} {l : List It} {nx : Nat} (h : HS w0 w p l nx) (s : Int) (hl : l.length ≤ 1000000) (hy : ∃ j, j < l.length ∧ (gI l j).seq = s) :
    Calls Try.prog 9 #[.pointer (some ⟨p, 0, none⟩), .int .u64 s] w fun r w' => r = .returned (.bool true) ∧ ∃ k, k < l.length ∧ (gI l k).seq = s ∧ HS w0 w' p (remF l k) nx := by
  obtain ⟨v, h1, h2, h3⟩ := h
  refine (cancel_any w p v l nx s h1 hl).mono ?_
  rintro r w' (⟨k, v', e, k1, k2, k3, k4, k5⟩ | ⟨e, k1, _⟩)
  · exact ⟨e, k, k1, k2, v', k3, by rw [foot_eq k4]; exact h2, Chg.below h3 k5 h2⟩
  · obtain ⟨j, hj, hs⟩ := hy; exact absurd hs (k1 j hj)
theorem hs_no {w0 w : World} {p : Nat} {l : List It} {nx : Nat} (h : HS w0 w p l nx) (s : Int) (hl : l.length ≤ 1000000) (hn : ∀ j, j < l.length → (gI l j).seq ≠ s) :
    Calls Try.prog 9 #[.pointer (some ⟨p, 0, none⟩), .int .u64 s] w fun r w' => r = .returned (.bool false) ∧ HS w0 w' p l nx := by
  obtain ⟨v, h1, h2, h3⟩ := h
  refine (cancel_any w p v l nx s h1 hl).mono ?_
  rintro r w' (⟨k, v', e, k1, k2, k3, k4, k5⟩ | ⟨e, k1, k2, k3⟩)
  · exact absurd k2 (hn k k1)
  · exact ⟨e, v, k2, h2, below_on h3 k3⟩
def aw3 : List It := pushF (pushF (pushF [] ⟨5, 0, 1⟩) ⟨3, 1, 2⟩) ⟨5, 2, 3⟩
theorem aw3_wakes : wakes aw3 5 = ([⟨3, 1, 2⟩, ⟨5, 0, 1⟩, ⟨5, 2, 3⟩], []) := by decide +kernel
set_option maxRecDepth 100000 in
set_option maxHeartbeats 1000000 in
theorem awake9_any (w : World) : Calls Try.prog 5 #[] w fun e w' => e = .returned (.bool true) ∧ Below w.heap.size w w' := by
  have h0 := HS.new (w0 := w) (Below.refl _ w) 27 rfl
  have H0 := Lib.hid h0; clear h0
  go_enter Try.func5, Try.ntmps5
  go_wp2_with fail
  refine (hs_push H0.out 5 1 (by simp) (by omega)).mono ?_
  rintro r w1 ⟨rfl, h1⟩
  have H1 := Lib.hid h1; clear h1
  go_wp2_with fail
  refine (hs_push H1.out 3 2 (by rw [pushF_len]; simp) (by omega)).mono ?_
  rintro r w2 ⟨rfl, h2⟩
  have H2 := Lib.hid h2; clear h2
  go_wp2_with fail
  refine (hs_push H2.out 5 3 (by rw [pushF_len, pushF_len]; simp) (by omega)).mono ?_
  rintro r w3 ⟨rfl, h3⟩
  have H3 : Hid (HS w w3 w.heap.size aw3 3) := Lib.hid h3; clear h3
  go_wp2_with fail
  refine (hs_wake H3.out 5 (by unfold aw3; rw [pushF_len, pushF_len, pushF_len]; simp)).mono ?_
  rw [aw3_wakes]
  rintro r w4 ⟨v5, rfl, k1, k2, k3⟩
  obtain ⟨g, cap, rfl, -⟩ := k1.form (by simp)
  obtain ⟨-, -, c0⟩ := k1.cell 0 (by simp)
  obtain ⟨-, -, c1⟩ := k1.cell 1 (by simp)
  obtain ⟨-, -, c2⟩ := k1.cell 2 (by simp)
  have d0 : w4.cell? ⟨g, 2, none⟩ = some (.int .i64 2) := c0
  have d1 : w4.cell? ⟨g, 5, none⟩ = some (.int .i64 1) := c1
  have d2 : w4.cell? ⟨g, 8, none⟩ = some (.int .i64 3) := c2
  have K3 := Lib.hid k3
  clear k1 k2 k3 c0 c1 c2
  rw [show ([⟨3, 1, 2⟩, ⟨5, 0, 1⟩, ⟨5, 2, 3⟩] : List It).length = 3 from rfl]
  go_wp2_with fail
  refine (hs_len K3.out).mono ?_
  rw [show (([] : List It).length : Int) = 0 from rfl]
  rintro r w5 ⟨rfl, rfl⟩
  go_wp2
  go_ret
  exact ⟨rfl, K3.out.bel⟩
end Go.Proofs.Ytljdckipnbdknaa
