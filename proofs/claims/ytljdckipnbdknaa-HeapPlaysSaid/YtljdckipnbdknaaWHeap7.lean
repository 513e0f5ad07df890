/-
  A heap as a piece of memory; a map of numbers of one's own.
-/
import Derived.Test.YtljdckipnbdknaaWHeap6
import Derived.Test.YtljdckipnbdknaaHeapL
import Derived.Maps.OwnOps
import Derived.Maps.OwnSet
open Go Go.RowKit Go.Maps
set_option linter.unusedVariables false
namespace Go.Proofs.Ytljdckipnbdknaa
def HeapA (p : Nat) (l : List It) (nx : Nat) : Asr where
  at_ w F := ∃ v, F = foot p v ∧ HeapAt w p v l nx
  lt := by rintro w F ⟨v, rfl, h⟩; exact foot_lt h
  chg := by
    rintro w w' F G ⟨v, rfl, h⟩ c hd
    exact ⟨v, rfl, h.chg c (hd p (by simp [foot])) (fun y hy => hd y (by simp only [foot, List.mem_cons]; exact .inr hy))⟩
theorem own_push {w0 w : World} {p : Nat} {l : List It} {nx : Nat} {R : List Asr} (h : Own w0 w (HeapA p l nx :: R)) (at_ id : Int) (hl : l.length ≤ 100000) (hnx : nx ≤ 100000) :
    Calls Try.prog 6 #[.pointer (some ⟨p, 0, none⟩), .int .u64 at_, .int .i64 id] w fun r w' => r = .returned (.int .u64 (nx : Int)) ∧ Own w0 w' (HeapA p (pushF l ⟨at_, nx, id⟩) (nx + 1) :: R) :=
  h.call1 (fun F ⟨v, hF, h1⟩ => by
    subst hF
    refine (hpush_any w p v l nx at_ id h1 hl hnx).mono ?_
    rintro r w' ⟨v', e, k1, k2, k3⟩
    exact ⟨e, foot p v', ⟨v', rfl, k1⟩, k2, k3⟩)
theorem own_min {w0 w : World} {p : Nat} {l : List It} {nx : Nat} {R : List Asr} (h : Own w0 w (HeapA p l nx :: R)) (hl : 0 < l.length) :
    Calls Try.prog 13 #[.pointer (some ⟨p, 0, none⟩)] w fun r w' => r = .returned (.tuple #[itv (gI l 0), .bool true]) ∧ Below w.heap.size w w' := by
  obtain ⟨F, ⟨v, _, h1⟩, _⟩ := h.head
  exact hmin_any w p v l nx h1 hl
theorem own_len {w0 w : World} {p : Nat} {l : List It} {nx : Nat} {R : List Asr} (h : Own w0 w (HeapA p l nx :: R)) :
    Calls Try.prog 15 #[.pointer (some ⟨p, 0, none⟩)] w fun r w' => r = .returned (.int .i64 (l.length : Int)) ∧ w' = w := by
  obtain ⟨F, ⟨v, _, h1⟩, _⟩ := h.head
  exact hlen_any w p v l nx h1
theorem own_yes {w0 w : World} {p : Nat} {l : List It} {nx : Nat} {R : List Asr} (h : Own w0 w (HeapA p l nx :: R)) (s : Int) (hl : l.length ≤ 1000000) (hy : ∃ j, j < l.length ∧ (gI l j).seq = s) :
    Calls Try.prog 9 #[.pointer (some ⟨p, 0, none⟩), .int .u64 s] w fun r w' => r = .returned (.bool true) ∧ ∃ k, k < l.length ∧ (gI l k).seq = s ∧ Own w0 w' (HeapA p (remF l k) nx :: R) := by
  refine (Own.call (As := [HeapA p l nx]) (R := R) h (post := fun r As' => r = .returned (.bool true) ∧ ∃ k, k < l.length ∧ (gI l k).seq = s ∧ As' = [HeapA p (remF l k) nx]) (fun F hF => ?_)).mono ?_
  · obtain ⟨v, rfl, h1⟩ := sep_one.1 hF
    refine (cancel_any w p v l nx s h1 hl).mono ?_
    rintro r w' (⟨k, v', e, k1, k2, k3, k4, k5⟩ | ⟨e, k1, _⟩)
    · exact ⟨_, ⟨e, k, k1, k2, rfl⟩, foot p v, sep_one.2 ⟨v', (foot_eq k4).symm, k3⟩, k5, fun x hx => .inl hx⟩
    · obtain ⟨j, hj, hs⟩ := hy; exact absurd hs (k1 j hj)
  · rintro r w' ⟨_, ⟨e, k, k1, k2, rfl⟩, k3⟩
    exact ⟨e, k, k1, k2, k3⟩
/-- A map from numbers to numbers. -/
def MapA (b n : Nat) (D : DataW Nat) : Asr where
  at_ w F := F = [b] ∧ w.ownsMap Try.prog 3 (plainElem Try.prog 3) b n D
  lt := by rintro w F ⟨rfl, h⟩ x hx; simp at hx; subst hx; exact h.lt
  chg := by
    rintro w w' F G ⟨rfl, h⟩ c hd
    have hlt := h.lt
    obtain ⟨es, clock, hb, r⟩ := h
    exact ⟨rfl, es, clock, (c.block b hlt (hd b (by simp))).trans hb, r⟩
theorem law_int : Keyed Try.prog 3 := int_keyed Try.underlying3
theorem zero_int (w : World) : (zeroValue 3).run Try.prog w = .ok (.int .i64 0) w := by kernel_rfl
/-- Which numbers a map has. -/
def Keys (D : DataW Nat) (done : List Nat) : Prop := ∃ es, D = .map es ∧ es.length = done.length ∧ ∀ q ∈ es, ∃ j ∈ done, q.1 = .int .i64 (j : Int)
theorem Keys.nil : Keys (.map []) [] := ⟨[], rfl, rfl, fun q hq => by simp at hq⟩
theorem mem_insert {x q : Lit × DataW Nat} : ∀ {l : List (Lit × DataW Nat)}, q ∈ DataW.insert x l → q = x ∨ q ∈ l := by
  intro l
  induction l with
  | nil => intro h; simp [DataW.insert] at h; exact .inl h
  | cons y l ih =>
    intro h
    unfold DataW.insert at h
    split at h
    · rcases List.mem_cons.1 h with h | h
      · exact .inl h
      · exact .inr h
    · rcases List.mem_cons.1 h with h | h
      · exact .inr (by simp [h])
      · rcases ih h with h | h
        · exact .inl h
        · exact .inr (by simp [h])
theorem Keys.put {D : DataW Nat} {done : List Nat} (h : Keys D done) (j : Nat) (hj : j ∉ done) (d : DataW Nat) : Keys (D.put (.int .i64 (j : Int)) d) (j :: done) := by
  obtain ⟨es, rfl, h1, h2⟩ := h
  have hf : es.filter (ChangeMaps.notKey (.int .i64 (j : Int))) = es := by
    rw [List.filter_eq_self]
    intro q hq
    obtain ⟨i, hi, e⟩ := h2 q hq
    unfold ChangeMaps.notKey
    rw [e]
    have hne : (i : Int) ≠ (j : Int) := fun e => hj (by have : i = j := by omega
                                                        subst this; exact hi)
    simp [Lit.sameKey, hne]
  refine ⟨_, rfl, ?_, fun q hq => ?_⟩
  · show (ChangeMaps.putKey (.int .i64 (j : Int)) d es).length = _
    unfold ChangeMaps.putKey
    rw [hf, length_insert, h1]; rfl
  · have : q ∈ ChangeMaps.putKey (.int .i64 (j : Int)) d es := hq
    unfold ChangeMaps.putKey at this
    rw [hf] at this
    rcases mem_insert this with rfl | h
    · exact ⟨j, by simp, rfl⟩
    · obtain ⟨i, hi, e⟩ := h2 q h; exact ⟨i, by simp [hi], e⟩
theorem Keys.size {D : DataW Nat} {done : List Nat} (h : Keys D done) : Maps.size D = done.length := by obtain ⟨es, rfl, h1, _⟩ := h; exact h1
end Go.Proofs.Ytljdckipnbdknaa
