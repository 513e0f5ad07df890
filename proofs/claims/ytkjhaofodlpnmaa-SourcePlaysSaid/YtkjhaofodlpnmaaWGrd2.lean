/-
  Guard.
-/
import Derived.Test.YtkjhaofodlpnmaaWGrd1
open Go Go.RowKit
set_option linter.unusedVariables false
namespace Go.Proofs.Ytkjhaofodlpnmaa
/-- How a run ended, as Guard tells it. -/
def Ended (r : Ending) (k : Int) (u : List Value) : Prop :=
  (r = .returned (.tuple #[]) ∧ k = 0 ∧ u = uz) ∨ (r = dry ∧ k = 1 ∧ u = uz) ∨ ∃ i kd n x, r = strayed i kd n x ∧ k = 2 ∧ u = uv (i : Int) kd (n : Int) x.1 (x.2 : Int)
theorem len5 {u : List Value} {r : Ending} {k : Int} (h : Ended r k u) : ∃ a0 a1 a2 a3 a4, u = uv a0 a1 a2 a3 a4 := by
  rcases h with ⟨_, _, rfl⟩ | ⟨_, _, rfl⟩ | ⟨i, kd, n, x, _, _, rfl⟩
  · exact ⟨_, _, _, _, _, rfl⟩
  · exact ⟨_, _, _, _, _, rfl⟩
  · exact ⟨_, _, _, _, _, rfl⟩
theorem sep_ne {w0 w : World} {R : List Asr} {p q : Nat} {x y : List Value} (h : Own w0 w (CelA p x :: CelA q y :: R)) : p ≠ q := by
  obtain ⟨_, F, ⟨F1, F2, rfl, ⟨rfl, _, _⟩, hd, ⟨F3, F4, rfl, ⟨rfl, _, _⟩, _, _⟩⟩, _⟩ := h
  intro he; subst he; exact hd p (by simp) (by simp)
theorem guard_results {w0 w : World} {R : List Asr} {g g' : Nat} {k a0 a1 a2 a3 a4 : Int} (h : Own w0 w (CelA g [.int .i64 k] :: CelA g' (uv a0 a1 a2 a3 a4) :: R)) (tmps : Array Value) (h2 : tmps.getD 2 undef = .pointer (some ⟨g, 0, none⟩)) (h3 : tmps.getD 3 undef = .pointer (some ⟨g', 0, none⟩)) :
    (results Try.f21 tmps).run Try.prog w = .ok (.tuple #[.int .i64 k, .agg (uv a0 a1 a2 a3 a4).toArray]) w := by
  unfold uv at *
  obtain ⟨g0, -⟩ := h.cel 0 rfl 0 _ rfl
  obtain ⟨q0, -⟩ := h.cel 1 rfl 0 _ rfl
  obtain ⟨q1, -⟩ := h.cel 1 rfl 1 _ rfl
  obtain ⟨q2, -⟩ := h.cel 1 rfl 2 _ rfl
  obtain ⟨q3, -⟩ := h.cel 1 rfl 3 _ rfl
  obtain ⟨q4, -⟩ := h.cel 1 rfl 4 _ rfl
  have h2' : tmps[2]?.getD undef = .pointer (some ⟨g, 0, none⟩) := by simpa using h2
  have h3' : tmps[3]?.getD undef = .pointer (some ⟨g', 0, none⟩) := by simpa using h3
  simp [results, Try.results21, go_sem, h2', h3', asAddr, g0, q0, q1, q2, q3, q4]
set_option maxRecDepth 100000 in
set_option maxHeartbeats 2000000 in
theorem guard_any {w0 w : World} {R : List Asr} (h : Own w0 w R) (F : Nat) (cap : Array Value) (en : ∀ (args : Array Value) (w : World), (callFunc F args).run Try.prog w = .ok (.enter F args) w) (Qr : Ending → List Asr → Prop)
    (hrun : ∀ w1 g, Own w0 w1 (CelA g [.int .i64 0] :: CelA (g + 1) uz :: R) → Calls Try.prog F cap w1 fun r w2 => ∃ R' k u, Own w0 w2 (CelA g [.int .i64 0] :: CelA (g + 1) uz :: R') ∧ Qr r R' ∧ Ended r k u) :
    Calls Try.prog 21 #[.func (.func F) #[] cap] w fun e w' => ∃ r R' k u, Own w0 w' R' ∧ Qr r R' ∧ Ended r k u ∧ e = .returned (.tuple #[.int .i64 k, .agg u.toArray]) := by
  have hmf : ∀ (fn : Fn) (first cap : Array Value) (w : World), (Instr.makeFunc fn first cap).run Try.prog w = .ok (.func fn first cap) w := fun _ _ _ _ => rfl
  have hA := ((h.alloc [.int .i64 0] 3 (b := w.heap.size) rfl).alloc uz 44 (b := w.heap.size + 1) (by simp)).pick 1 rfl
  have hC := hrun _ _ hA
  have HC := Lib.hid hC
  clear hrun hA hC h
  unfold uz at HC
  go_enter_defers Try.func21, Try.ntmps21
  go_wp2_with fail
  refine HC.out.mono ?_
  rintro r w2 ⟨R', k, u, ho, hq, he⟩
  clear HC
  generalize w.heap.size = g at *
  rcases he with ⟨rfl, rfl, rfl⟩ | ⟨rfl, rfl, rfl⟩ | ⟨i, kd, n, x, rfl, rfl, rfl⟩
  · have HO := Lib.hid ho
    have hpq := sep_ne ho
    have h5 := ((ho.set 0 (.int .i64 0)).pick 1 rfl)
    have h6 := (((((h5.set 0 (.int .i64 0)).set 1 (.int .i64 0)).set 2 (.int .i64 0)).set 3 (.int .i64 0)).set 4 (.int .u64 0)).pick 1 rfl
    have H6 := Lib.hid h6
    have HQ := Lib.hid hq
    obtain ⟨g0, f0⟩ := ho.cel 0 rfl 0 _ rfl
    obtain ⟨q0, e0⟩ := ho.cel 1 rfl 0 _ rfl
    obtain ⟨q1, e1⟩ := ho.cel 1 rfl 1 _ rfl
    obtain ⟨q2, e2⟩ := ho.cel 1 rfl 2 _ rfl
    obtain ⟨q3, e3⟩ := ho.cel 1 rfl 3 _ rfl
    obtain ⟨q4, e4⟩ := ho.cel 1 rfl 4 _ rfl
    clear ho h5 h6 hq
    go_wp2
    refine leaves_cons (f := 24) (args := #[.pointer (some ⟨g, 0, none⟩), .pointer (some ⟨g + 1, 0, none⟩)]) (by simp) (by simp [go_sem]) ?_
    refine (catch_idle _ _ _).mono ?_
    rintro e u' w'' ⟨rfl, rfl, rfl⟩
    exact ⟨_, guard_results (H6.out) _ rfl rfl, .returned (.tuple #[]), R', 0, uz, (H6.out).drop.drop, HQ.out, .inl ⟨rfl, rfl, rfl⟩, rfl⟩
  · refine leaves_cons (f := 24) (args := #[.pointer (some ⟨g, 0, none⟩), .pointer (some ⟨g + 1, 0, none⟩)]) (by simp) (by simp [go_sem]) ?_
    refine (catch_dry ho _).mono ?_
    rintro e u' w'' ⟨rfl, rfl, ho2⟩
    refine ⟨_, guard_results (ho2) _ rfl rfl, dry, R', 1, uz, ho2.drop.drop, hq, .inr (.inl ⟨rfl, rfl, rfl⟩), rfl⟩
  · refine leaves_cons (f := 24) (args := #[.pointer (some ⟨g, 0, none⟩), .pointer (some ⟨g + 1, 0, none⟩)]) (by simp) (by simp [go_sem]) ?_
    refine (catch_unlike _ _ _ _ _ ho _).mono ?_
    rintro e u' w'' ⟨rfl, rfl, ho2⟩
    refine ⟨_, guard_results (ho2) _ rfl rfl, _, R', 2, _, ho2.drop.drop, hq, .inr (.inr ⟨i, kd, n, x, rfl, rfl, rfl⟩), rfl⟩
end Go.Proofs.Ytkjhaofodlpnmaa
