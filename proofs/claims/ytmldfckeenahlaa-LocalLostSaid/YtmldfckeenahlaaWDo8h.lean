/-
  The law's world: what serves the calls on the global row alone.
-/
import Derived.Test.YtmldfckeenahlaaWDo8g
open Go Go.RowKit
set_option linter.unusedVariables false
namespace Go.Proofs.Ytmldfckeenahlaa
/-- A row of one's own comes to be one that is read alone. -/
theorem Own.poolTake {w0 w : World} {a : Option Addr} {c : Nat} {l : List Int} {rs : List Rr} {R : List Asr} (h : Own w0 w (RowA a c l :: PoolA rs :: R)) : Own w0 w (PoolA ((a, c, l) :: rs) :: R) := by
  obtain ⟨h1, F, ⟨F1, F2, rfl, ⟨rfl, h2⟩, h3, F3, F4, rfl, ⟨h4, h5⟩, h6, h7⟩, h8⟩ := h
  refine ⟨h1, (blk a ++ F3) ++ F4, ⟨blk a ++ F3, F4, rfl, ⟨fun x hx => ?_, fun r hr => ?_⟩, fun x hx hc => ?_, h7⟩, fun x hx => h8 x (by simpa using hx)⟩
  · rcases List.mem_append.1 hx with h | h
    · exact h2.lt x h
    · exact h4 x h
  · rcases List.mem_cons.1 hr with rfl | hr
    · exact ⟨fun x hx => List.mem_append.2 (.inl hx), h2⟩
    · exact ⟨fun x hx => List.mem_append.2 (.inr ((h5 r hr).1 x hx)), (h5 r hr).2⟩
  · rcases List.mem_append.1 hx with h | h
    · exact h3 x h (List.mem_append.2 (.inr hc))
    · exact h6 x h hc
theorem cells_blk8 {w : World} {b : Nat} {l : List Int} (h : Blk w b (intc l)) : CellsAt w (some ⟨b, 0, none⟩) (intc l) := fun j v hj => ⟨b, 0, rfl, by rw [Nat.zero_add]; exact (h j v hj).1⟩
theorem Inv8.put {ds : List Qd} {gl out : List Int} {nx : Nat} (h : Inv8 ds gl nx out) : Inv8 ds (gl ++ [(nx : Int)]) (nx + 1) out := by
  have e : (List.range (nx + 1)).map (fun n : Nat => (n : Int)) = (List.range nx).map (fun n : Nat => (n : Int)) ++ [(nx : Int)] := by
    rw [List.range_succ, List.map_append]; rfl
  unfold Inv8 at *
  rw [e, List.perm_iff_count] at *
  intro a
  have h1 := h a
  simp only [List.count_append] at *
  omega
theorem Inv8.take {ds : List Qd} {gl out : List Int} {nx : Nat} (h : Inv8 ds gl nx out) (m : Nat) : Inv8 ds (gl.drop m) nx (out ++ gl.take m) := by
  unfold Inv8 at *
  rw [List.perm_iff_count] at *
  intro a
  have h1 := h a
  have h2 := congrArg (List.count a) (List.take_append_drop m gl)
  rw [List.count_append] at h2
  simp only [List.count_append] at *
  omega
end Go.Proofs.Ytmldfckeenahlaa
