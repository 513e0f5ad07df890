/-
  Sources: Taken, Tape, Chain, Watch.
-/
import Derived.Test.YtkjhaofodlpnmaaWSrc5
open Go Go.RowKit
set_option linter.unusedVariables false
namespace Go.Proofs.Ytkjhaofodlpnmaa
theorem nil_noneG {w : World} {s cap n : Nat} {cs : List Value} {a : Option Addr} (h : RowG s w a cap n cs) : a = none → n = 0 ∧ cap = 0 := by
  rintro rfl
  obtain ⟨h1, h2, h3, h4⟩ := h
  rcases h4 with ⟨_, h0⟩ | ⟨_, _, h, _⟩
  · exact ⟨by omega, h0⟩
  · cases h
set_option maxRecDepth 100000 in
set_option maxHeartbeats 2000000 in
theorem staken_any {w0 w : World} {R : List Asr} {p k : Nat} {S : Src} {see : Value} (h : Own w0 w (SrcA p k S see :: R)) (hl : S.taken.length ≤ 1000000) :
    Calls Try.prog 15 #[.pointer (some ⟨p, 0, none⟩)] w fun r w' => ∃ a' c', r = .returned (.slice a' S.taken.length c') ∧ RowG 2 w' a' c' S.taken.length (recCells S.taken) ∧ (∀ x ∈ blk a', w.heap.size ≤ x) ∧ Below w.heap.size w w' := by
  obtain ⟨ta, tc, na, nc, ka, kc, h⟩ := h.src
  obtain ⟨g2, -⟩ := h.cel 0 rfl 2 _ rfl
  have hr := h.rowG 1 rfl
  have hc := cloner_any w ka S.taken.length kc (recCells S.taken) hr.cells hr.1 (recc_one _) (nil_noneG hr) (by omega)
  have HC := Lib.hid hc
  clear hc hr h hl
  generalize S.taken.length = n at *
  go_enter Try.func15, Try.ntmps15
  go_wp2_with fail
  refine HC.out.mono ?_
  rintro r w1 ⟨a', c', rfl, k⟩
  have K := Lib.hid k; clear k
  go_wp2
  go_ret
  exact ⟨a', c', rfl, K.out⟩
set_option maxRecDepth 100000 in
set_option maxHeartbeats 2000000 in
theorem tnew_any {w0 w : World} {As : List Asr} (h : Own w0 w As) (a : Option Addr) (c : Nat) (l : List Rec) (hc : CellsAt w a (recCells l)) (h0 : a = none → l.length = 0 ∧ c = 0) (hl : l.length * 16 ≤ 140737488355328) :
    Calls Try.prog 7 #[.slice a l.length c] w fun r w' => ∃ p, r = .returned (.pointer (some ⟨p, 0, none⟩)) ∧ Own w0 w' (SrcA p 1 ⟨l, [], []⟩ .nilFunc :: As) ∧ Below w.heap.size w w' := by
  have hmf : ∀ (fn : Fn) (first cap : Array Value) (w : World), (Instr.makeFunc fn first cap).run Try.prog w = .ok (.func fn first cap) w := fun _ _ _ _ => rfl
  have hcl := cloner_any w a l.length c (recCells l) hc (recCells_len l) (recc_one l) h0 hl
  have H := Lib.hid h
  have HCL := Lib.hid hcl
  obtain ⟨N, hN⟩ : ∃ N, N = l.length := ⟨_, rfl⟩
  have HN := Lib.hid hN
  rw [← hN] at HCL ⊢
  clear h hc h0 hl hcl hN
  go_enter Try.func7, Try.ntmps7
  go_wp2_with fail
  refine HCL.out.mono ?_
  rintro r w1 ⟨a', c', rfl, k1, k2, k3⟩
  have hB := Blk.mk w1 [.func (.func 20) #[.slice a' N c'] #[], .int .i64 (N : Int), .slice none 0 0, .nilFunc] 58 _ rfl
  have hf : Own w0 (w1.alloc (.cells #[.func (.func 20) #[.slice a' N c'] #[], .int .i64 (N : Int), .slice none 0 0, .nilFunc] 58)) (SrcA w1.heap.size 1 ⟨l, [], []⟩ .nilFunc :: As) ∧ Below w.heap.size w (w1.alloc (.cells #[.func (.func 20) #[.slice a' N c'] #[], .int .i64 (N : Int), .slice none 0 0, .nilFunc] 58)) := by
    have hb := below_on k3 (below_alloc1 w1 (.cells #[.func (.func 20) #[.slice a' N c'] #[], .int .i64 (N : Int), .slice none 0 0, .nilFunc] 58))
    refine ⟨Own.srcNew (S := ⟨l, [], []⟩) (na := none) (nc := 0) (ta := a') (tc := c') H.out hb (by rw [HN.out] at k1; exact k1.below (below_alloc1 _ _)) (RowG.nil 1 _) rfl ?_ k3.size (by simp) k2 (by simp [blk]) (fun x hx => by have := k1.lt x hx; omega) (by simp [blk]) (by simp [blk]), hb⟩
    unfold scells Src.many drawer recv
    simp only [List.length_nil, Nat.add_zero, if_true]
    rw [← HN.out]
    exact hB
  have HF := Lib.hid hf
  clear hf hB k1 k2 k3 HCL H
  go_wp2
  go_ret
  exact ⟨_, rfl, HF.out⟩
set_option maxRecDepth 100000 in
set_option maxHeartbeats 2000000 in
theorem swatch_any {w0 w : World} {R : List Asr} {p k : Nat} {S : Src} {see : Value} (G : Nat) (cap : Array Value) (h : Own w0 w (SrcA p k S see :: R)) :
    Calls Try.prog 9 #[.pointer (some ⟨p, 0, none⟩), .func (.func G) #[] cap] w fun r w' => r = .returned (.tuple #[]) ∧ Own w0 w' (SrcA p k S (.func (.func G) #[] cap) :: R) := by
  obtain ⟨ta, tc, na, nc, ka, kc, h⟩ := h.src
  obtain ⟨g3, f3⟩ := h.cel 0 rfl 3 _ rfl
  have hf : Own w0 (w.setCell ⟨p, 3, none⟩ (.func (.func G) #[] cap)) (SrcA p k S (.func (.func G) #[] cap) :: R) := Own.srcBack (h.set 3 (.func (.func G) #[] cap))
  have HF := Lib.hid hf
  have hst : ∀ w : World, (store ⟨p, 3, none⟩ (.func (.func G) #[] cap)).run Try.prog w = stored Try.prog w ⟨p, 3, none⟩ (.func (.func G) #[] cap) .plain := fun w => run_store _ w _ _ _ rfl
  clear hf h
  go_enter Try.func9, Try.ntmps9
  go_wp2
  first
    | refine bodyPost_ret (results_none rfl _ _ _) rfl ?_
    | refine bodyPost_end (results_none rfl _ _ _) rfl ?_
    | trace_state
  exact ⟨rfl, HF.out⟩
end Go.Proofs.Ytkjhaofodlpnmaa
