/-
  The walk of the law LocksOne.
-/
import Derived.Test.YthfleeimhnenpaaWLk2
import Derived.OpenShut
open Go Go.RowKit
set_option linter.unusedVariables false
namespace Go.Proofs.Ythfleeimhnenpaa.locksOne
def ups (f : Int) (n : Nat) : List Int := (List.range n).map fun (i : Nat) => f + (i : Int)
theorem ups_len (f : Int) (n : Nat) : (ups f n).length = n := by simp [ups]
theorem ups_succ (f : Int) (n : Nat) : ups f (n + 1) = ups f n ++ [f + (n : Int)] := by simp [ups, List.range_succ]
theorem ups_drop (f : Int) (n i : Nat) (h : i < n) : (ups f n).drop i = (f + (i : Int)) :: (ups f n).drop (i + 1) := by
  rw [List.drop_eq_getElem_cons (by rw [ups_len]; exact h)]; simp [ups]
theorem ups_end (f : Int) (n : Nat) : (ups f n).drop n = [] := List.drop_of_length_le (by rw [ups_len]; exact Nat.le_refl _)
theorem ups_head (f : Int) (n i : Nat) : ((ups f n).drop i).headD (-1) = if i < n then f + (i : Int) else -1 := by
  split
  · rw [ups_drop f n i ‹_›]; rfl
  · rw [List.drop_of_length_le (by rw [ups_len]; omega)]; rfl
set_option maxRecDepth 100000 in
set_option maxHeartbeats 2000000 in
theorem walk (a0 a1 : Int) (w : World) (v0 : (Lit.int .i64 a0).wf = true) (v1 : (Lit.int .i64 a1).wf = true) :
    Calls Try.prog 8 #[.int .i64 a0, .int .i64 a1] w fun e w' => e = .returned (.bool true) ∧ Below w.heap.size w w' := by
  obtain ⟨N, hN, hN2, -⟩ := small_of a0 40 (by omega)
  have hN' : (bits BinOp.and IntKind.i64 a0 255).tmod 40 = (N : Int) := hN
  obtain ⟨f, hf⟩ : ∃ f : Int, bits BinOp.and IntKind.i64 a1 65535 = f := ⟨_, rfl⟩
  have hf1 : 0 ≤ f ∧ f < 65536 := by rw [and_65535] at hf; omega
  obtain ⟨hf1, hf2⟩ := hf1
  clear v0 v1 hN
  go_enter Try.func8, Try.ntmps8
  go_wp2_with fail
  refine (awake14_any _).mono ?_
  rintro e w1 ⟨rfl, hb1⟩
  have B1 := Lib.hid hb1; clear hb1
  go_wp2_with fail
  refine (o_knew (w0 := w1) (Own.nil (Below.refl _ _))).mono ?_
  rintro r w2 ⟨p, rfl, h2, -⟩
  have H2 := Lib.hid h2; clear h2
  go_wp2_with fail
  go_loopw [22] (fun iv wr => ∃ i : Nat, i ≤ N + 1 ∧ iv = .int .i64 i ∧ Hid (Own w1 wr [LockA p (ups f i)])) (fun iv _ => N + 1 - (intOf iv).toNat)
  case atStart => exact ⟨0, by omega, rfl, H2⟩
  case round =>
    obtain ⟨i, hi, rfl, hr⟩ := hrel
    by_cases hlt : i < N + 1
    · have hli : (i : Int) < 1 + (N : Int) := by omega
      have he : (ups f i).isEmpty = ((i : Int) == 0) := by
        by_cases h0 : i = 0
        · subst h0; rfl
        · have : ups f i ≠ [] := fun e => h0 (by have := ups_len f i; rw [e] at this; simpa using this.symm)
          rw [List.isEmpty_eq_false_iff.2 this]; symm; rw [beq_eq_false_iff_ne]; omega
      have HE := Lib.hid he; clear he
      go_wp2_with fail
      refine (o_ktake hr.out (f + (i : Int)) (by rw [ups_len]; omega)).mono ?_
      rw [HE.out, ← ups_succ]
      rintro r w3 ⟨rfl, h3⟩
      have H3 := Lib.hid h3; clear h3
      go_wp2
      exact ⟨⟨i + 1, by omega, by go_num, H3⟩, by simp [intOf]; omega⟩
    · have hin : i = N + 1 := by omega
      have hst : Own w1 wr [LockA p ((ups f (N + 1)).drop 0)] := by rw [← hin]; exact hr.out
      have hge : ¬ (i : Int) < 1 + (N : Int) := by omega
      clear hin hlt hi
      have HST := Lib.hid hst; clear hst hr
      go_wp2_with fail
      go_loopw [35] (fun iv wr => ∃ i : Nat, i ≤ N + 1 ∧ iv = .int .i64 i ∧ Hid (Own w1 wr [LockA p ((ups f (N + 1)).drop i)])) (fun iv _ => N + 1 - (intOf iv).toNat)
      case atStart => exact ⟨0, by omega, rfl, HST⟩
      case round =>
        obtain ⟨j, hj, rfl, hq⟩ := hrel
        by_cases hlt2 : j < N + 1
        · have hli : (j : Int) < 1 + (N : Int) := by omega
          have hd := ups_drop f (N + 1) j hlt2
          have HD := Lib.hid hd; clear hd
          have hh := ups_head f (N + 1) (j + 1)
          have HH := Lib.hid hh; clear hh
          have hq' : Own w1 wr [LockA p ((f + (j : Int)) :: (ups f (N + 1)).drop (j + 1))] := by rw [← HD.out]; exact hq.out
          have HQ := Lib.hid hq'; clear hq' hq
          have hg1 : gaveR ((f + (j : Int)) :: (ups f (N + 1)).drop (j + 1)) (f + (j : Int) + 1) = (-1, 5) := by unfold gaveR; simp only; rw [if_neg (by omega)]
          have hg2 : gaveL ((f + (j : Int)) :: (ups f (N + 1)).drop (j + 1)) (f + (j : Int) + 1) = (f + (j : Int)) :: (ups f (N + 1)).drop (j + 1) := by unfold gaveL; simp only; rw [if_neg (by omega)]
          have hg3 : gaveR ((f + (j : Int)) :: (ups f (N + 1)).drop (j + 1)) (f + (j : Int)) = (if j + 1 < N + 1 then f + (j : Int) + 1 else -1, 0) := by unfold gaveR; simp only [if_true]; rw [HH.out]; split <;> simp; omega
          have hg4 : gaveL ((f + (j : Int)) :: (ups f (N + 1)).drop (j + 1)) (f + (j : Int)) = (ups f (N + 1)).drop (j + 1) := by unfold gaveL; simp only [if_true]
          have HG1 := Lib.hid hg1; clear hg1
          have HG2 := Lib.hid hg2; clear hg2
          have HG3 := Lib.hid hg3; clear hg3
          have HG4 := Lib.hid hg4; clear hg4
          go_wp2_with fail
          refine (o_kowner HQ.out).mono ?_
          rintro r w3 ⟨rfl, rfl⟩
          simp only [List.headD_cons]
          go_wp2_with fail
          refine (o_kgive HQ.out (f + (j : Int) + 1)).mono ?_
          rw [HG1.out, HG2.out]
          rintro r w4 ⟨rfl, h4⟩
          have H4 := Lib.hid h4; clear h4
          go_wp2_with fail
          refine (o_kgive H4.out (f + (j : Int))).mono ?_
          rw [HG3.out, HG4.out]
          rintro r w5 ⟨rfl, h5⟩
          have H5 := Lib.hid h5; clear h5
          by_cases hj2 : j + 1 < N + 1
          · rw [if_pos hj2]
            have q1 : (j : Int) < (N : Int) := by omega
            have q2 : ((j : Int) == (N : Int)) = false := by rw [beq_eq_false_iff_ne]; omega
            go_wp2
            exact ⟨⟨j + 1, by omega, by go_num, H5⟩, by simp [intOf]; omega⟩
          · rw [if_neg hj2]
            have q1 : ¬ (j : Int) < (N : Int) := by omega
            have q2 : ((j : Int) == (N : Int)) = true := by rw [beq_iff_eq]; omega
            go_wp2
            exact ⟨⟨j + 1, by omega, by go_num, H5⟩, by simp [intOf]; omega⟩
        · have hjn : j = N + 1 := by omega
          have he := ups_end f (N + 1)
          have hq' : Own w1 wr [LockA p []] := by rw [← he]; have := hq.out; rw [hjn] at this; exact this
          have hge2 : ¬ (j : Int) < 1 + (N : Int) := by omega
          clear hjn hlt2 hj
          have HQ := Lib.hid hq'; clear hq' he hq
          go_wp2_with fail
          refine (o_kowner HQ.out).mono ?_
          rintro r w3 ⟨rfl, rfl⟩
          have hb9 := below_on B1.out HQ.out.bel
          simp only [List.headD_nil]
          go_wp2
          go_ret
          exact ⟨rfl, hb9⟩
end Go.Proofs.Ythfleeimhnenpaa.locksOne
