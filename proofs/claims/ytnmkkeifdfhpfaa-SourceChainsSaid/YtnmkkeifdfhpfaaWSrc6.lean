/-
  Sources: Taken, Tape, Chain, Watch.
-/
import Derived.Test.YtnmkkeifdfhpfaaWSrc5
open Go Go.RowKit
set_option linter.unusedVariables false
namespace Go.Proofs.Ytnmkkeifdfhpfaa
theorem nil_noneG {w : World} {s cap n : Nat} {cs : List Value} {a : Option Addr} (h : RowG s w a cap n cs) : a = none → n = 0 ∧ cap = 0 := by
  rintro rfl
  obtain ⟨h1, h2, h3, h4⟩ := h
  rcases h4 with ⟨_, h0⟩ | ⟨_, _, h, _⟩
  · exact ⟨by omega, h0⟩
  · cases h
set_option maxRecDepth 100000 in
set_option maxHeartbeats 2000000 in
theorem staken_any {w0 w : World} {R : List Asr} {p k : Nat} {S : Src} {see : Value} (h : Own w0 w (SrcA p k S see :: R)) (hl : S.taken.length ≤ 1000000) :
    Calls Try.prog 19 #[.pointer (some ⟨p, 0, none⟩)] w fun r w' => ∃ a' c', r = .returned (.slice a' S.taken.length c') ∧ RowG 2 w' a' c' S.taken.length (recCells S.taken) ∧ (∀ x ∈ blk a', w.heap.size ≤ x) ∧ Below w.heap.size w w' := by
  obtain ⟨ta, tc, na, nc, ka, kc, h⟩ := h.src
  obtain ⟨g2, -⟩ := h.cel 0 rfl 2 _ rfl
  have hr := h.rowG 1 rfl
  have hc := cloner_any w ka S.taken.length kc (recCells S.taken) hr.cells hr.1 (recc_one _) (nil_noneG hr) (by omega)
  have HC := Lib.hid hc
  clear hc hr h hl
  generalize S.taken.length = n at *
  go_enter Try.func19, Try.ntmps19
  go_wp2_with fail
  refine HC.out.mono ?_
  rintro r w1 ⟨a', c', rfl, k⟩
  have K := Lib.hid k; clear k
  go_wp2
  go_ret
  exact ⟨a', c', rfl, K.out⟩
set_option maxRecDepth 100000 in
set_option maxHeartbeats 2000000 in
theorem tnew_any {w0 w : World} {As : List Asr} (h : Own w0 w As) (a : Option Addr) (c : Nat) (l : List Rec) (hc : CellsAt w a (recCells l)) (h0 : a = none → l.length = 0 ∧ c = 0) (hl : l.length * 16 ≤ 140737488355328) :
    Calls Try.prog 11 #[.slice a l.length c] w fun r w' => ∃ p, r = .returned (.pointer (some ⟨p, 0, none⟩)) ∧ Own w0 w' (SrcA p 1 ⟨l, [], []⟩ .nilFunc :: As) ∧ Below w.heap.size w w' := by
  have hmf : ∀ (fn : Fn) (first cap : Array Value) (w : World), (Instr.makeFunc fn first cap).run Try.prog w = .ok (.func fn first cap) w := fun _ _ _ _ => rfl
  have hcl := cloner_any w a l.length c (recCells l) hc (recCells_len l) (recc_one l) h0 hl
  have H := Lib.hid h
  have HCL := Lib.hid hcl
  obtain ⟨N, hN⟩ : ∃ N, N = l.length := ⟨_, rfl⟩
  have HN := Lib.hid hN
  rw [← hN] at HCL ⊢
  clear h hc h0 hl hcl hN
  go_enter Try.func11, Try.ntmps11
  go_wp2_with fail
  refine HCL.out.mono ?_
  rintro r w1 ⟨a', c', rfl, k1, k2, k3⟩
  have hB := Blk.mk w1 [.func (.func 28) #[.slice a' N c'] #[], .int .i64 (N : Int), .slice none 0 0, .nilFunc] 65 _ rfl
  have hf : Own w0 (w1.alloc (.cells #[.func (.func 28) #[.slice a' N c'] #[], .int .i64 (N : Int), .slice none 0 0, .nilFunc] 65)) (SrcA w1.heap.size 1 ⟨l, [], []⟩ .nilFunc :: As) ∧ Below w.heap.size w (w1.alloc (.cells #[.func (.func 28) #[.slice a' N c'] #[], .int .i64 (N : Int), .slice none 0 0, .nilFunc] 65)) := by
    have hb := below_on k3 (below_alloc1 w1 (.cells #[.func (.func 28) #[.slice a' N c'] #[], .int .i64 (N : Int), .slice none 0 0, .nilFunc] 65))
    refine ⟨Own.srcNew (S := ⟨l, [], []⟩) (na := none) (nc := 0) (ta := a') (tc := c') H.out hb (by rw [HN.out] at k1; exact k1.below (below_alloc1 _ _)) (RowG.nil 1 _) rfl ?_ k3.size (by simp) k2 (by simp [blk]) (fun x hx => by have := k1.lt x hx; omega) (by simp [blk]) (by simp [blk]), hb⟩
    unfold scells Src.many drawer recv
    simp only [List.length_nil, Nat.add_zero, if_true]
    rw [← HN.out]
    exact hB
  have HF := Lib.hid hf
  clear hf hB k1 k2 k3 HCL H
  go_wp2
  go_ret
  exact ⟨_, rfl, HF.out⟩
set_option maxRecDepth 100000 in
set_option maxHeartbeats 2000000 in
theorem hnew_any {w0 w : World} {As : List Asr} (h : Own w0 w As) (a : Option Addr) (c : Nat) (l : List Rec) (hc : CellsAt w a (recCells l)) (h0 : a = none → l.length = 0 ∧ c = 0) (hl : l.length ≤ 1000)
    (b : Option Addr) (d : Nat) (m : List Nat) (hd : CellsAt w b (numc m)) (k0 : b = none → m.length = 0 ∧ d = 0) (hm : m.length ≤ 1000) :
    Calls Try.prog 24 #[.slice a l.length c, .slice b m.length d] w fun r w' => ∃ p, r = .returned (.pointer (some ⟨p, 0, none⟩)) ∧ Own w0 w' (SrcA p 2 ⟨l, m, []⟩ .nilFunc :: As) ∧ Below w.heap.size w w' := by
  have hmf : ∀ (fn : Fn) (first cap : Array Value) (w : World), (Instr.makeFunc fn first cap).run Try.prog w = .ok (.func fn first cap) w := fun _ _ _ _ => rfl
  have hcl := cloner_any w a l.length c (recCells l) hc (recCells_len l) (recc_one l) h0 (by omega)
  have hcm := fun w' (hb : Below w.heap.size w w') => cloneu_any w' b m.length d (numc m) (hd.below hb) (numc_len m) (numc_one m) k0 (by omega)
  have H := Lib.hid h
  have HCL := Lib.hid hcl
  have HCM := Lib.hid hcm
  obtain ⟨N, hN⟩ : ∃ N, N = l.length := ⟨_, rfl⟩
  have HN := Lib.hid hN
  obtain ⟨M, hM⟩ : ∃ M, M = m.length := ⟨_, rfl⟩
  have HM := Lib.hid hM
  rw [← hN] at HCL hl ⊢
  rw [← hM] at HCM hm ⊢
  have hw : IntKind.i64.wrap ((N : Int) + (M : Int)) = (N : Int) + (M : Int) := by rw [IntKind.wrap_i64]; omega
  clear h hc h0 hl hcl hN hd k0 hm hcm hM
  go_enter Try.func24, Try.ntmps24
  go_wp2_with fail
  refine HCL.out.mono ?_
  rintro r w1 ⟨a', c', rfl, k1, k2, k3⟩
  have K := Lib.hid (And.intro k1 (And.intro k2 k3))
  clear k1 k2 k3 HCL
  go_wp2_with fail
  refine (HCM.out _ K.out.2.2).mono ?_
  rintro r w2 ⟨b', d', rfl, j1, j2, j3⟩
  obtain ⟨k1, k2, k3⟩ := K.out
  have e4 : Below w.heap.size w w2 := below_on k3 j3
  have hB := Blk.mk (w2.alloc (.cells #[.slice a' N c', .slice b' M d'] 72)) [.func (.func 34) #[.agg #[.slice a' N c', .slice b' M d']] #[], .int .i64 ((N : Int) + (M : Int)), .slice none 0 0, .nilFunc] 65 (w2.heap.size + 1) (by simp)
  have hf : Own w0 ((w2.alloc (.cells #[.slice a' N c', .slice b' M d'] 72)).alloc (.cells #[.func (.func 34) #[.agg #[.slice a' N c', .slice b' M d']] #[], .int .i64 ((N : Int) + (M : Int)), .slice none 0 0, .nilFunc] 65)) (SrcA (w2.heap.size + 1) 2 ⟨l, m, []⟩ .nilFunc :: As) ∧ Below w.heap.size w ((w2.alloc (.cells #[.slice a' N c', .slice b' M d'] 72)).alloc (.cells #[.func (.func 34) #[.agg #[.slice a' N c', .slice b' M d']] #[], .int .i64 ((N : Int) + (M : Int)), .slice none 0 0, .nilFunc] 65)) := by
    have hb2 := below_on (below_alloc1 w2 (.cells #[.slice a' N c', .slice b' M d'] 72)) (below_alloc1 _ (.cells #[.func (.func 34) #[.agg #[.slice a' N c', .slice b' M d']] #[], .int .i64 ((N : Int) + (M : Int)), .slice none 0 0, .nilFunc] 65))
    have hb := below_on e4 hb2
    have s1 := k3.size
    have s2 := j3.size
    refine ⟨Own.srcNew (S := ⟨l, m, []⟩) (na := b') (nc := d') (ta := a') (tc := c') H.out hb (by rw [HN.out] at k1; exact k1.below (below_on j3 hb2)) (by rw [HM.out] at j1; exact j1.below hb2) rfl ?_ (by omega) (by simp) k2 (fun x hx => by have := j2 x hx; omega) (fun x hx => by have := k1.lt x hx; omega) (fun x hx => by have := j1.lt x hx; omega) (fun x hx hc => by have := k1.lt x hx; have := j2 x hc; omega), hb⟩
    unfold scells Src.many drawer recv
    simp only [Nat.reduceEqDiff, if_false, Int.natCast_add]
    rw [← HN.out, ← HM.out]
    exact hB
  have HF := Lib.hid hf
  clear hf hB k1 k2 k3 j1 j2 j3 e4 HCM H K
  go_wp2
  go_ret
  exact ⟨_, rfl, HF.out⟩
set_option maxRecDepth 100000 in
set_option maxHeartbeats 2000000 in
theorem swatch_any {w0 w : World} {R : List Asr} {p k : Nat} {S : Src} {see : Value} (G : Nat) (cap : Array Value) (h : Own w0 w (SrcA p k S see :: R)) :
    Calls Try.prog 13 #[.pointer (some ⟨p, 0, none⟩), .func (.func G) #[] cap] w fun r w' => r = .returned (.tuple #[]) ∧ Own w0 w' (SrcA p k S (.func (.func G) #[] cap) :: R) := by
  obtain ⟨ta, tc, na, nc, ka, kc, h⟩ := h.src
  obtain ⟨g3, f3⟩ := h.cel 0 rfl 3 _ rfl
  have hf : Own w0 (w.setCell ⟨p, 3, none⟩ (.func (.func G) #[] cap)) (SrcA p k S (.func (.func G) #[] cap) :: R) := Own.srcBack (h.set 3 (.func (.func G) #[] cap))
  have HF := Lib.hid hf
  have hst : ∀ w : World, (store ⟨p, 3, none⟩ (.func (.func G) #[] cap)).run Try.prog w = stored Try.prog w ⟨p, 3, none⟩ (.func (.func G) #[] cap) .plain := fun w => run_store _ w _ _ _ rfl
  clear hf h
  go_enter Try.func13, Try.ntmps13
  go_wp2
  first
    | refine bodyPost_ret (results_none rfl _ _ _) rfl ?_
    | refine bodyPost_end (results_none rfl _ _ _) rfl ?_
    | trace_state
  exact ⟨rfl, HF.out⟩
end Go.Proofs.Ytnmkkeifdfhpfaa
