/-
  Sources: Oracle, Tape, Chain, Taken.
-/
import Derived.Test.YtkjhaofodlpnmaaWSrc3
open Go Go.RowKit
set_option linter.unusedVariables false
namespace Go.Proofs.Ytkjhaofodlpnmaa
theorem Own.srcNew {w0 w w' : World} {As : List Asr} {p k : Nat} {S : Src} {see : Value} {ta na : Option Addr} {tc nc : Nat} (h : Own w0 w As) (hb : Below w.heap.size w w') (ht : RowG 2 w' ta tc S.tape.length (recCells S.tape)) (hn : RowG 1 w' na nc S.nums.length (numc S.nums)) (hk : S.taken = [])
    (hB : Blk w' p (scells k S ta tc na nc none 0 see)) (hp : w.heap.size ≤ p) (hpl : p < w'.heap.size) (h1 : ∀ x ∈ blk ta, w.heap.size ≤ x) (h2 : ∀ x ∈ blk na, w.heap.size ≤ x) (h3 : ∀ x ∈ blk ta, x ≠ p) (h4 : ∀ x ∈ blk na, x ≠ p) (h5 : ∀ x ∈ blk ta, x ∉ blk na) :
    Own w0 w' (SrcA p k S see :: As) := by
  refine h.add hb (A := SrcA p k S see) (F := [p] ++ ([] ++ (blk ta ++ (blk na ++ [])))) ⟨ta, tc, na, nc, none, 0, ?_⟩ ?_
  · refine ⟨[p], _, rfl, ⟨rfl, hpl, hB⟩, ?_, [], _, rfl, ⟨rfl, ?_⟩, by simp, blk ta, _, rfl, ⟨rfl, ht⟩, by simpa using h5, blk na, [], rfl, ⟨rfl, hn⟩, by simp, rfl⟩
    · intro x hx hc
      simp at hx hc
      subst hx
      rcases hc with hc | hc
      · exact h3 _ hc rfl
      · exact h4 _ hc rfl
    · rw [hk]; exact RowG.nil 2 w'
  · intro x hx
    simp at hx
    rcases hx with rfl | hx | hx
    · exact hp
    · exact h1 x hx
    · exact h2 x hx
set_option maxRecDepth 100000 in
set_option maxHeartbeats 2000000 in
theorem onew_any {w0 w : World} {As : List Asr} (h : Own w0 w As) (a : Option Addr) (c : Nat) (l : List Nat) (hc : CellsAt w a (numc l)) (h0 : a = none → l.length = 0 ∧ c = 0) (hl : l.length * 8 ≤ 140737488355328) :
    Calls Try.prog 6 #[.slice a l.length c] w fun r w' => ∃ p, r = .returned (.pointer (some ⟨p, 0, none⟩)) ∧ Own w0 w' (SrcA p 0 ⟨[], l, []⟩ .nilFunc :: As) ∧ Below w.heap.size w w' := by
  have hmf : ∀ (fn : Fn) (first cap : Array Value) (w : World), (Instr.makeFunc fn first cap).run Try.prog w = .ok (.func fn first cap) w := fun _ _ _ _ => rfl
  have hcl := cloneu_any w a l.length c (numc l) hc (numc_len l) (numc_one l) h0 hl
  have H := Lib.hid h
  have HCL := Lib.hid hcl
  obtain ⟨N, hN⟩ : ∃ N, N = l.length := ⟨_, rfl⟩
  have HN := Lib.hid hN
  rw [← hN] at HCL ⊢
  clear h hc h0 hl hcl hN
  go_enter Try.func6, Try.ntmps6
  go_wp2_with fail
  refine HCL.out.mono ?_
  rintro r w1 ⟨a', c', rfl, k1, k2, k3⟩
  have hB := Blk.mk w1 [.func (.func 18) #[.slice a' N c'] #[], .int .i64 (N : Int), .slice none 0 0, .nilFunc] 58 _ rfl
  have hf : Own w0 (w1.alloc (.cells #[.func (.func 18) #[.slice a' N c'] #[], .int .i64 (N : Int), .slice none 0 0, .nilFunc] 58)) (SrcA w1.heap.size 0 ⟨[], l, []⟩ .nilFunc :: As) ∧ Below w.heap.size w (w1.alloc (.cells #[.func (.func 18) #[.slice a' N c'] #[], .int .i64 (N : Int), .slice none 0 0, .nilFunc] 58)) := by
    have hb := below_on k3 (below_alloc1 w1 (.cells #[.func (.func 18) #[.slice a' N c'] #[], .int .i64 (N : Int), .slice none 0 0, .nilFunc] 58))
    refine ⟨Own.srcNew (S := ⟨[], l, []⟩) (ta := none) (tc := 0) (na := a') (nc := c') H.out hb (RowG.nil 2 _) (by rw [HN.out] at k1; exact k1.below (below_alloc1 _ _)) rfl ?_ k3.size (by simp) (by simp [blk]) k2 (by simp [blk]) (fun x hx => by have := k1.lt x hx; omega) (by simp [blk]), hb⟩
    unfold scells Src.many drawer recv
    simp only [List.length_nil, Nat.zero_add, if_true]
    rw [← HN.out]
    exact hB
  have HF := Lib.hid hf
  clear hf hB k1 k2 k3 HCL H
  go_wp2
  go_ret
  exact ⟨_, rfl, HF.out⟩
end Go.Proofs.Ytkjhaofodlpnmaa
