/-
  The heap's calls, by pieces of memory.
-/
import Derived.Test.YtljdckipnbdknaaWHSort
import Derived.Test.YtljdckipnbdknaaWHeap7
import Derived.Test.YtljdckipnbdknaaWRef9d
open Go Go.RowKit
set_option linter.unusedVariables false
namespace Go.Proofs.Ytljdckipnbdknaa
theorem below_drewN1 (w : World) (k : Nat) : Below w.heap.size w (w.drewN k) := ⟨rfl, rfl, rfl, Nat.le_refl _, fun _ _ => rfl⟩
theorem Own.dropR {w0 w : World} {As Bs : List Asr} (h : Own w0 w (As ++ Bs)) : Own w0 w As := (h.perm List.perm_append_comm).dropL
theorem Own.item {w0 w w' : World} {As : List Asr} (h : Own w0 w As) (hb : Below w.heap.size w w') {t : TypeId} {v : Value} {l : List It} (hi : ItemsT t w' v l) (hf : ∀ y ∈ v.ownBlock.toList, w.heap.size ≤ y) : Own w0 w' (ItA t v l :: As) :=
  h.add hb (A := ItA t v l) (F := v.ownBlock.toList) ⟨rfl, hi⟩ hf
theorem own_no {w0 w : World} {p : Nat} {l : List It} {nx : Nat} {R : List Asr} (h : Own w0 w (HeapA p l nx :: R)) (s : Int) (hl : l.length ≤ 1000000) (hn : ∀ j, j < l.length → (gI l j).seq ≠ s) :
    Calls Try.prog 9 #[.pointer (some ⟨p, 0, none⟩), .int .u64 s] w fun r w' => r = .returned (.bool false) ∧ Own w0 w' (HeapA p l nx :: R) := by
  obtain ⟨F, ⟨v, _, h1⟩, _⟩ := h.head
  refine (cancel_any w p v l nx s h1 hl).mono ?_
  rintro r w' (⟨k, v', e, k1, k2, k3, k4, k5⟩ | ⟨e, k1, k2, k3⟩)
  · exact absurd k2 (hn k k1)
  · exact ⟨e, h.step k3⟩
theorem own_wake {w0 w : World} {p : Nat} {l : List It} {nx : Nat} {R : List Asr} (h : Own w0 w (HeapA p l nx :: R)) (now : Int) (hl : l.length ≤ 100000) :
    Calls Try.prog 12 #[.pointer (some ⟨p, 0, none⟩), .int .u64 now] w fun r w' => ∃ v5, r = .returned v5 ∧ Own w0 w' (HeapA p (wakes l now).2 nx :: ItA 43 v5 (wakes l now).1 :: R) := by
  refine (Own.call (As := [HeapA p l nx]) (R := R) h (post := fun r As' => ∃ v5, r = .returned v5 ∧ As' = [HeapA p (wakes l now).2 nx, ItA 43 v5 (wakes l now).1]) (fun F hF => ?_)).mono ?_
  · obtain ⟨v, rfl, h1⟩ := sep_one.1 hF
    have hlt := foot_lt h1
    refine (wake_any w p v l nx now h1 hl).mono ?_
    rintro r w' ⟨v5, v', e, k1, k2, k3, k4, k5⟩
    refine ⟨_, ⟨v5, e, rfl⟩, foot p v' ++ v5.ownBlock.toList, ⟨foot p v', v5.ownBlock.toList, rfl, ⟨v', rfl, k3⟩, fun x hx hc => ?_, sep_one.2 ⟨rfl, k1⟩⟩, k5, fun x hx => ?_⟩
    · rw [foot_eq k4] at hx
      have := hlt x hx; have := k2 x hc; omega
    · rcases List.mem_append.1 hx with h | h
      · rw [foot_eq k4] at h; exact .inl h
      · exact .inr (k2 x h)
  · rintro r w' ⟨_, ⟨v5, e, rfl⟩, k3⟩
    exact ⟨v5, e, k3⟩
theorem own_list {w0 w : World} {p : Nat} {l L : List It} {nx : Nat} {R : List Asr} (h : Own w0 w (HeapA p l nx :: R)) (hl : l.length ≤ 100000) (hL : L.Pairwise fun x y => ltI x y = true) (hp : L.Perm l) :
    Calls Try.prog 14 #[.pointer (some ⟨p, 0, none⟩)] w fun r w' => ∃ v5, r = .returned v5 ∧ Own w0 w' (ItA 43 v5 L :: HeapA p l nx :: R) ∧ Below w.heap.size w w' := by
  obtain ⟨F, ⟨v, _, h1⟩, _⟩ := h.head
  refine (hlist_any w p v l L nx h1 hl hL hp).mono ?_
  rintro r w' ⟨v', e, k1, k2, k3⟩
  exact ⟨v', e, h.add k3 (A := ItA 43 v' L) (F := v'.ownBlock.toList) ⟨rfl, k1⟩ k2, k3⟩
theorem own_min0 {w0 w : World} {p : Nat} {nx : Nat} {R : List Asr} (h : Own w0 w (HeapA p [] nx :: R)) :
    Calls Try.prog 13 #[.pointer (some ⟨p, 0, none⟩)] w fun r w' => r = .returned (.tuple #[itv ⟨0, 0, 0⟩, .bool false]) ∧ Below w.heap.size w w' := by
  obtain ⟨F, ⟨v, _, h1⟩, _⟩ := h.head
  exact hmin_none w p v nx h1
theorem own_same {w0 w : World} {As : List Asr} (h : Own w0 w As) (i j : Nat) {v v' : Value} {l : List It} (hi : As[i]? = some (ItA 43 v l)) (hj : As[j]? = some (ItA 48 v' l)) (hl : l.length ≤ 1000000) :
    Calls Try.prog 11 #[v, v'] w fun r w' => r = .returned (.bool true) ∧ ∃ m, w' = w.drewN m := xsame_any w v v' l (h.items i hi) (h.items j hj) hl
end Go.Proofs.Ytljdckipnbdknaa
