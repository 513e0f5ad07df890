/-
  Pieces of memory: rows that are read alone, and may be shared. No program is named here.
-/
import Derived.Test.YtdeilfnfpgjnnaaDoorSep
open Go Go.RowKit
set_option linter.unusedVariables false
namespace Go.Proofs.YtdeilfnfpgjnnaaDoor
/-- Rows that are read alone. -/
def PoolA (rs : List (Option Addr × Nat × List Int)) : Asr where
  at_ w F := (∀ x ∈ F, x < w.heap.size) ∧ ∀ r ∈ rs, (∀ x ∈ blk r.1, x ∈ F) ∧ RowAt w r.1 r.2.1 r.2.2
  lt := fun h => h.1
  chg := by
    rintro w w' F G ⟨h1, h2⟩ c hd
    exact ⟨fun x hx => Nat.lt_of_lt_of_le (h1 x hx) c.size, fun r hr => ⟨(h2 r hr).1, (h2 r hr).2.chg c (fun x hx => hd x ((h2 r hr).1 x hx))⟩⟩
def EmpA : Asr where
  at_ w F := F = []
  lt := by rintro w F rfl x hx; simp at hx
  chg := by rintro w w' F G rfl c hd; rfl
theorem Own.poolAdd {w0 w w' : World} {As : List Asr} {rs : List (Option Addr × Nat × List Int)} (h : Own w0 w (PoolA rs :: As)) (hb : Below w.heap.size w w') {r : Option Addr × Nat × List Int} (hr : r ∈ rs) {a' : Option Addr} {c' : Nat} {l : List Int}
    (ha : RowAt w' a' c' l) (hx : ∀ x ∈ blk a', x ∈ blk r.1 ∨ w.heap.size ≤ x) : Own w0 w' (PoolA ((a', c', l) :: rs) :: As) := by
  obtain ⟨h1, F, ⟨F1, F2, rfl, ⟨h2, h2'⟩, h3, h4⟩, h5⟩ := h
  have hs := h1.size
  have hs2 := hb.size
  refine ⟨below_on h1 hb, (F1 ++ (blk a').filter (fun x => decide (w.heap.size ≤ x))) ++ F2, ⟨_, F2, rfl, ⟨fun x hx => ?_, fun q hq => ?_⟩, fun x hx hc => ?_, h4.chg (Chg.of_below (F := []) hb) (fun _ _ => by simp)⟩, fun x hx => ?_⟩
  · rcases List.mem_append.1 hx with h | h
    · have := h2 x h; omega
    · exact ha.lt x (List.mem_filter.1 h).1
  · rcases List.mem_cons.1 hq with rfl | hq
    · refine ⟨fun x hx' => ?_, ha⟩
      rcases hx x hx' with h | h
      · exact List.mem_append.2 (.inl ((h2' r hr).1 x h))
      · exact List.mem_append.2 (.inr (List.mem_filter.2 ⟨hx', by simpa using h⟩))
    · exact ⟨fun x hx => List.mem_append.2 (.inl ((h2' q hq).1 x hx)), (h2' q hq).2.below hb⟩
  · rcases List.mem_append.1 hx with h | h
    · exact h3 x h hc
    · have h6 : decide (w.heap.size ≤ x) = true := (List.mem_filter.1 h).2
      have h7 := h4.lt x hc
      have h8 := of_decide_eq_true h6
      omega
  · rcases List.mem_append.1 hx with h | h
    · rcases List.mem_append.1 h with h | h
      · exact h5 x (by simp [h])
      · have h6 : decide (w.heap.size ≤ x) = true := (List.mem_filter.1 h).2
        have h8 := of_decide_eq_true h6
        omega
    · exact h5 x (by simp [h])
theorem Own.poolGet {w0 w : World} {As : List Asr} {rs : List (Option Addr × Nat × List Int)} (h : Own w0 w As) (i : Nat) (hi : As[i]? = some (PoolA rs)) {r : Option Addr × Nat × List Int} (hr : r ∈ rs) : RowAt w r.1 r.2.1 r.2.2 := by
  obtain ⟨F, ⟨_, h2⟩, _⟩ := h.fact i hi
  exact (h2 r hr).2
theorem Own.rev {w0 w : World} {As : List Asr} (h : Own w0 w As) : Own w0 w As.reverse := h.perm (List.reverse_perm As).symm
theorem Own.rot {w0 w : World} {A : Asr} {As : List Asr} (h : Own w0 w (A :: As)) : Own w0 w (As ++ [A]) := h.perm (List.perm_append_singleton A As).symm
theorem CR.more {b n : Nat} {wc w w' : World} {F : List Nat} (c : Chg F w w') (h : CR b n wc w) (hb : b ∉ F) (hF : ∀ x ∈ F, wc.heap.size ≤ x) : CR b n wc w' :=
  ⟨h.1.trans c (fun x hx => .inr (hF x hx)), Nat.lt_of_lt_of_le h.2.1 c.size, fun j hj => by
    have hk := c.block b h.2.1 hb
    rw [cell_of_heap hk, World.frozen?_of_block (a := ⟨b, j, none⟩) hk]; exact h.2.2 j hj⟩
theorem CR.loads {b n c o : Nat} {wc : World} {x : Value} (g : wc.cell? ⟨c, o, none⟩ = some x) (hne : c ≠ b) (w' : World) (h : CR b n wc w') : w'.cell? ⟨c, o, none⟩ = some x ∧ CR b n wc w' := ⟨cell_chg g h.1 (by simp; omega), h⟩
theorem CR.bel {b n : Nat} {wc w0 w' : World} (h : CR b n wc w') (h0 : Below w0.heap.size w0 wc) (hb : w0.heap.size ≤ b) : Below w0.heap.size w0 w' := Chg.below h0 h.1 (fun x hx => by simp at hx; omega)
theorem RowAt.zero' {w : World} {b : Nat} (hb : b < w.heap.size) : RowAt w (some ⟨b, 0, none⟩) 0 [] := ⟨by simp, by simp, .inr ⟨b, 0, rfl, hb, fun j hj => by omega, fun j v hj => by simp [intc] at hj⟩⟩
theorem RowAt.none0 {w : World} {a : Option Addr} {cap : Nat} {l : List Int} (h : RowAt w a cap l) (e : a = none) : cap = 0 := by
  rcases h.2.2 with ⟨_, h⟩ | ⟨_, _, h, _⟩
  · exact h
  · rw [e] at h; cases h
end Go.Proofs.YtdeilfnfpgjnnaaDoor
