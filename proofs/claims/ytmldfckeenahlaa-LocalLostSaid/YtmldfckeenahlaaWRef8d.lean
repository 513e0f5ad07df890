/-
  The walks of the document's queues: Steal.
-/
import Derived.Test.YtmldfckeenahlaaWRef8c
import Derived.RegionTactic
open Go Go.RowKit
set_option linter.unusedVariables false
namespace Go.Proofs.Ytmldfckeenahlaa
/-- What a theft answers: both queues, a number. -/
def X8s (w w' : World) (r : Ending) (N N2 : Nat) (nx nx2 : Int) (l l2 : List Int) (k : Int) (olds : List Nat) : Prop :=
  ∃ a c a2 c2, r = .returned (.tuple #[xv nx a l.length c N, xv nx2 a2 l2.length c2 N2, .int .i64 k]) ∧ RowAt w' a c l ∧ RowAt w' a2 c2 l2 ∧ (∀ x ∈ blk a ++ blk a2, x ∈ olds ∨ w.heap.size ≤ x) ∧ Below w.heap.size w w'
theorem X8s.mk {w w' : World} {r : Ending} {N N2 n n2 c c2 : Nat} {nx nx2 k : Int} {l l2 : List Int} {olds : List Nat} {a a2 : Option Addr} (hr : r = .returned (.tuple #[xv nx a n c N, xv nx2 a2 n2 c2 N2, .int .i64 k])) (hn : n = l.length) (hn2 : n2 = l2.length)
    (h : RowAt w' a c l ∧ RowAt w' a2 c2 l2 ∧ (∀ x ∈ blk a ++ blk a2, x ∈ olds ∨ w.heap.size ≤ x) ∧ Below w.heap.size w w') : X8s w w' r N N2 nx nx2 l l2 k olds := by
  subst hn hn2; exact ⟨a, c, a2, c2, hr, h⟩
set_option maxRecDepth 100000 in
set_option maxHeartbeats 2000000 in
theorem x8steal_any (w : World) (a fa : Option Addr) (n c fn fc N N2 : Nat) (q f : LQ) (hn : n = q.l.length) (hfn : fn = f.l.length) (h : RowAt w a c q.l) (hf : RowAt w fa fc f.l) (hl : q.l.length ≤ N) (hfl : f.l.length ≤ 1024) (hN : N ≤ 1024) :
    Calls Try.prog 25 #[xv q.num a n c N, xv f.num fa fn fc N2] w fun r w' => X8s w w' r N N2 (mSteal N q f).1.num (mSteal N q f).2.1.num (mSteal N q f).1.l (mSteal N q f).2.1.l ((mSteal N q f).2.2.getD (-1)) (blk a ++ blk fa) := by
  obtain ⟨S, hS⟩ : ∃ S, S = (fn + 1) / 2 := ⟨_, rfl⟩
  obtain ⟨M, hM⟩ : ∃ M, M = N - q.l.length + 1 := ⟨_, rfl⟩
  obtain ⟨T, hT⟩ : ∃ T, T = min S M := ⟨_, rfl⟩
  have hMN : (N : Int) - (n : Int) + 1 = (M : Int) := by omega
  have hcase : (T = S ∧ (S : Int) ≤ (M : Int)) ∨ (T = M ∧ (M : Int) < (S : Int)) := by omega
  have hquo : ((fn : Int) + 1).tdiv 2 = (S : Int) := by rw [hS, Int.tdiv_eq_ediv_of_nonneg (by omega)]; rfl
  have hw1 : IntKind.i64.wrap ((fn : Int) + 1) = (fn : Int) + 1 := by rw [IntKind.wrap_i64]; omega
  have hw2 : IntKind.i64.wrap (S : Int) = (S : Int) := by rw [IntKind.wrap_i64]; omega
  have HNN := Lib.hid hn
  have HFN := Lib.hid hfn
  have HF := Lib.hid hf
  have H := Lib.hid h
  obtain ⟨s0, hs0⟩ : ∃ s0, s0 = w.heap.size := ⟨_, rfl⟩
  have HS := Lib.hid hs0
  have hO : ∀ nx fx, Own w ((((w.alloc (.cells #[.int .i64 nx, .slice a n c, .int .i64 (N : Int)] 48)).alloc (.cells #[.int .i64 fx, .slice fa fn fc, .int .i64 (N2 : Int)] 48)).alloc (.cells #[.int .i64 0, .slice none 0 0, .int .i64 0] 48)).alloc (.cells #[.int .i64 0, .slice none 0 0, .int .i64 0] 48))
      [CelA (s0 + 1 + 1 + 1) [.int .i64 0, .slice none 0 0, .int .i64 0], CelA (s0 + 1 + 1) [.int .i64 0, .slice none 0 0, .int .i64 0], CelA (s0 + 1) [.int .i64 fx, .slice fa fn fc, .int .i64 (N2 : Int)], CelA s0 [.int .i64 nx, .slice a n c, .int .i64 (N : Int)]] := fun nx fx =>
    ((((Own.nil (Below.refl _ _)).alloc _ _ hs0).alloc _ _ (by simp [hs0])).alloc _ _ (by simp [hs0])).alloc _ _ (by simp [hs0])
  have hNM : (n : Int) ≤ (N : Int) := by omega
  have hnil : fn = 0 → (mSteal N q f) = (q, ⟨none, []⟩, f.nx) ∧ f.l = [] := fun h0 => by
    have : f.l = [] := List.length_eq_zero_iff.1 (by omega)
    exact ⟨by unfold mSteal; rw [this], this⟩
  have hcons : fn ≠ 0 → ∃ x t T1, T1 = T - 1 ∧ f.l = x :: t ∧ mSteal N q f = (⟨q.nx, q.l ++ t.take T1⟩, ⟨f.nx, (x :: t).drop T⟩, some x) ∧ 1 ≤ T ∧ T ≤ fn := fun h0 => by
    cases hfl : f.l with
    | nil => rw [hfl] at hfn; simp at hfn; omega
    | cons x t =>
      refine ⟨x, t, T - 1, rfl, rfl, ?_, by omega, by omega⟩
      have e : min ((f.l.length + 1) / 2) (N - q.l.length + 1) = T := by rw [hT, hS, hM, hfn]
      unfold mSteal
      rw [hfl] at e ⊢
      simp only [e]
      obtain ⟨T', hT'⟩ : ∃ T', T = T' + 1 := ⟨T - 1, by omega⟩
      rw [hT', List.take_succ_cons, List.tail_cons, Nat.add_sub_cancel]
  have HC := Lib.hid hcase
  have HCONS := Lib.hid hcons
  have HNIL := Lib.hid hnil
  clear h hf hn hfn hS hM hT hcase hcons hnil
  by_cases h0 : fn = 0
  · obtain ⟨e1, e2⟩ := HNIL.out h0
    rw [e1]
    have e3 : LQ.num ⟨none, []⟩ = -1 := rfl
    simp only [e3]
    have HFE := Lib.hid e2
    have hO1 := Lib.hid (hO q.num f.num)
    have hfx : f.nx.getD (-1) = f.num := rfl
    rw [hfx]
    generalize q.num = nx at *
    generalize f.num = fx at *
    subst h0
    clear e1 e2 e3 hO hfx HC HCONS HNIL
    unfold xv
    go_enter Try.func25, Try.ntmps25
    go_upto_region 1 with fail
    rw [← hs0]
    clear hs0
    generalize (((w.alloc (.cells #[.int .i64 nx, .slice a n c, .int .i64 (N : Int)] 48)).alloc (.cells #[.int .i64 fx, .slice fa 0 fc, .int .i64 (N2 : Int)] 48)).alloc (.cells #[.int .i64 0, .slice none 0 0, .int .i64 0] 48)).alloc (.cells #[.int .i64 0, .slice none 0 0, .int .i64 0] 48) = W at *
    obtain ⟨g0, f0⟩ := hO1.out.cel 2 rfl 0 _ rfl
    obtain ⟨g1, f1⟩ := hO1.out.cel 2 rfl 1 _ rfl
    go_upto_region 5 with fail
    have hO2 := hO1.out.setAt 2 rfl 0 (.int .i64 (-1))
    have HO2 := Lib.hid hO2
    generalize W.setCell ⟨s0 + 1, 0, none⟩ (.int .i64 (-1)) = W2 at *
    clear g0 g1 f0 f1
    obtain ⟨g0, -⟩ := hO2.cel 3 rfl 0 _ rfl
    obtain ⟨g1, -⟩ := hO2.cel 3 rfl 1 _ rfl
    obtain ⟨g2, -⟩ := hO2.cel 3 rfl 2 _ rfl
    obtain ⟨g3, -⟩ := hO2.cel 2 rfl 0 _ rfl
    obtain ⟨g4, -⟩ := hO2.cel 2 rfl 1 _ rfl
    obtain ⟨g5, -⟩ := hO2.cel 2 rfl 2 _ rfl
    obtain ⟨r0, t0⟩ := hO2.cel 1 rfl 0 _ rfl
    obtain ⟨r1, t1⟩ := hO2.cel 1 rfl 1 _ rfl
    obtain ⟨r2, t2⟩ := hO2.cel 1 rfl 2 _ rfl
    obtain ⟨r3, t3⟩ := hO2.cel 0 rfl 0 _ rfl
    obtain ⟨r4, t4⟩ := hO2.cel 0 rfl 1 _ rfl
    obtain ⟨r5, t5⟩ := hO2.cel 0 rfl 2 _ rfl
    clear hO2
    have hend : ∀ v0 v1 v2 v3 v4 v5, (fun W => RowAt W a c q.l ∧ RowAt W fa fc [] ∧ (∀ x ∈ blk a ++ blk fa, x ∈ blk a ++ blk fa ∨ w.heap.size ≤ x) ∧ Below w.heap.size w W) (((((((W2.setCell ⟨s0 + 1 + 1, 0, none⟩ v0).setCell ⟨s0 + 1 + 1, 1, none⟩ v1).setCell ⟨s0 + 1 + 1, 2, none⟩ v2).setCell ⟨s0 + 1 + 1 + 1, 0, none⟩ v3).setCell ⟨s0 + 1 + 1 + 1, 1, none⟩ v4).setCell ⟨s0 + 1 + 1 + 1, 2, none⟩ v5).drew) := fun v0 v1 v2 v3 v4 v5 => by
      have hO3 := (((((((HO2.out.setAt 1 rfl 0 v0).setAt 1 rfl 1 v1).setAt 1 rfl 2 v2).setAt 0 rfl 0 v3).setAt 0 rfl 1 v4).setAt 0 rfl 2 v5).step (below_drew1 _))
      have hf := HF.out
      rw [HFE.out] at hf
      exact ⟨H.out.below hO3.bel, hf.below hO3.bel, fun x hx => .inl hx, hO3.bel⟩
    have HE := Lib.hid hend
    clear hend
    go_region
    go_wp2
    exact bodyPost_ret (v := .tuple #[.agg #[.int .i64 nx, .slice a n c, .int .i64 (N : Int)], .agg #[.int .i64 (-1), .slice fa 0 fc, .int .i64 (N2 : Int)], .int .i64 fx]) (by simp [results, Try.results25, go_sem, r0, r1, r2, r3, r4, r5]) rfl (X8s.mk rfl HNN.out rfl (HE.out _ _ _ _ _ _))
  · obtain ⟨x, t, T1, hT1, e1, e2, hT0, hTf⟩ := HCONS.out h0
    rw [e2]
    have HFE := Lib.hid e1
    have hO1 := Lib.hid (hO q.num f.num)
    have e4 : LQ.num ⟨q.nx, q.l ++ t.take T1⟩ = q.num := rfl
    have e5 : LQ.num ⟨f.nx, (x :: t).drop T⟩ = f.num := rfl
    rw [e4, e5]
    simp only [Option.getD_some]
    have hf := HF.out
    rw [e1] at hf
    have hfn := HFN.out
    rw [e1] at hfn
    obtain ⟨a1, hs1, hr1, hk1⟩ := slice_mid under_ints size_int hf hfn 1 T (by omega) (by omega)
    obtain ⟨a2, hs2, hr2, hk2⟩ := slice_from under_ints size_int hf T (by omega)
    rw [← hfn] at hs2
    have hl1 : (t.take T1).length = T1 := by simp at hfn; rw [List.length_take]; omega
    have hr1' : IntsAt w a1 (t.take T1) := by
      have := hr1.ints
      rw [List.drop_take, List.drop_succ_cons, List.drop_zero, ← hT1] at this; exact this
    obtain ⟨b9, o9, rfl, g9⟩ := hf.ints 0 (by simp)
    have G9 := Lib.hid (show w.cell? ⟨b9, o9, none⟩ = some (.int .i64 x) from g9)
    have HR1 := Lib.hid hr1'
    have HR2 := Lib.hid hr2.ints
    have HL1 := Lib.hid hl1
    have hld : (List.drop T (x :: t)).length = fn - T := by rw [List.length_drop, ← hfn]
    have HLD := Lib.hid hld
    have hs1' : ∀ w, (Instr.slice 35 (.slice (some ⟨b9, o9, none⟩) fn fc) (some (.int .i64 1)) (some (.int .i64 (T : Int))) none).run Try.prog w = .ok (.slice a1 T1 (fc - 1)) w := by rw [hT1]; exact hs1
    have HT1 := Lib.hid hT1
    generalize q.num = nx at *
    generalize f.num = fx at *
    have hbf : ((fn : Int) == 0) = false := by rw [beq_eq_false_iff_ne]; omega
    have hfn1 : (0 : Int) < (fn : Int) := by omega
    have hfn2 : 0 < fn := by omega
    have hfn3 : fn ≤ 1024 := by rw [HFN.out]; exact hfl
    clear e1 e2 e4 e5 hO HCONS HNIL hr1 hr2 hr1' hl1 hld hk1 hk2 g9 hs1 hT1 hfn hf
    unfold xv
    go_enter Try.func25, Try.ntmps25
    go_upto_region 1 with fail
    rw [← hs0]
    clear hs0
    generalize (((w.alloc (.cells #[.int .i64 nx, .slice a n c, .int .i64 (N : Int)] 48)).alloc (.cells #[.int .i64 fx, .slice (some ⟨b9, o9, none⟩) fn fc, .int .i64 (N2 : Int)] 48)).alloc (.cells #[.int .i64 0, .slice none 0 0, .int .i64 0] 48)).alloc (.cells #[.int .i64 0, .slice none 0 0, .int .i64 0] 48) = W at *
    obtain ⟨g0, -⟩ := hO1.out.cel 2 rfl 0 _ rfl
    obtain ⟨g1, -⟩ := hO1.out.cel 2 rfl 1 _ rfl
    obtain ⟨g2, f2⟩ := hO1.out.cel 3 rfl 1 _ rfl
    obtain ⟨g3, -⟩ := hO1.out.cel 3 rfl 2 _ rfl
    go_upto_region 6 with fail
    go_cut [9] (fun s9 wx => s9 = .int .i64 (T : Int) ∧ Hid (wx = W))
    case first =>
      have HMN := Lib.hid hMN
      clear hMN
      have e1 : IntKind.i64.wrap ((N : Int) - (n : Int)) = (N : Int) - (n : Int) := by rw [IntKind.wrap_i64]; omega
      rcases HC.out with ⟨rfl, z1⟩ | ⟨rfl, z1⟩
      all_goals
        first
          | (exfalso; omega)
          | (try rw [← HMN.out] at z1
             go_wp2_with fail
             go_meet
             exact ⟨by first | rfl | (congr 1 <;> (have := HMN.out; omega)), rfl⟩)
    case rest =>
      obtain ⟨rfl, hr⟩ := hcut
      obtain rfl : W = wc := hr.out.symm
      clear hr HC hMN
      go_upto_region 7 with fail
      go_cut [] (fun wx => ∃ a' c', Hid (Own w wx [RowA a' c' (q.l ++ t.take T1), CelA (s0 + 1 + 1 + 1) [.int .i64 0, .slice none 0 0, .int .i64 0], CelA (s0 + 1 + 1) [.int .i64 0, .slice none 0 0, .int .i64 0], CelA (s0 + 1) [.int .i64 fx, .slice (some ⟨b9, o9, none⟩) fn fc, .int .i64 (N2 : Int)], CelA s0 [.int .i64 nx, .slice a' (n + T1) c', .int .i64 (N : Int)]]))
      case first =>
        have hj := fun W hW1 hW2 => join_any W a a1 n T1 c (fc - 1) q.l (t.take T1) HNN.out HL1.out.symm hW1 hW2 (by have := HL1.out; have := HNN.out; have := HT1.out; simp at *; omega)
        have HJ := Lib.hid hj
        clear hj
        go_region_with (go_at_call 40; refine (HJ.out _ (H.out.ints.below (below_on hO1.out.bel (below_drewN (Below.refl _ _) _))) (HR1.out.below (below_on hO1.out.bel (below_drewN (Below.refl _ _) _)))).mono ?_; rintro r w1 ⟨a', c', rfl, k1, k2, b1⟩; have hO2 := (hO1.out.step (below_drewN (Below.refl _ _) _)).newRow b1 k1 k2; obtain ⟨g5, f5⟩ := hO2.cel 4 rfl 1 _ rfl; have HO2 := Lib.hid hO2; clear hO2 k1 k2 b1)
        all_goals
          have HO3 := Lib.hid ((HO2.out.setAt 4 rfl 1 (.slice a' (n + T1) c')))
          go_wp2_with fail
          go_meet
          exact ⟨a', c', HO3⟩
      case rest =>
        obtain ⟨a', c', hr⟩ := hcut
        obtain ⟨q1, -⟩ := hr.out.cel 3 rfl 1 _ rfl
        have q3 := cell_below G9.out hr.out.bel
        have hj := fun W hW1 => join_any W none a2 0 (fn - T) 0 (fc - T) [] (List.drop T (x :: t)) rfl HLD.out.symm (IntsAt.nil _ _) hW1 (by have := HLD.out; simp only [List.length_nil]; omega)
        have HJ := Lib.hid hj
        clear hj g0 g1 g2 g3 f2
        go_wp2_with fail
        refine (HJ.out _ (HR2.out.below hr.out.bel)).mono ?_
        rintro r w5 ⟨a3, c3, rfl, k1, k2, b5⟩
        have hO5 := hr.out.newRow b5 k1 k2
        obtain ⟨g0, f0⟩ := hO5.cel 4 rfl 1 _ rfl
        have hO6 := hO5.setAt 4 rfl 1 (.slice a3 (fn - T) c3)
        have HO6 := Lib.hid hO6
        have K2 := Lib.hid k2
        have hfr1 : ∀ x ∈ blk a', w.heap.size ≤ x := by obtain ⟨F, ⟨hF, _⟩, h2⟩ := hr.out.fact 0 rfl; subst hF; exact h2
        have HFR := Lib.hid hfr1
        clear hfr1 hO5 hO6 k1 k2 b5 q1 q3
        go_upto_region 10 with fail
        generalize w5.setCell ⟨s0 + 1, 1, none⟩ (.slice a3 (fn - T) c3) = W2 at *
        clear g0 f0
        obtain ⟨g0, -⟩ := HO6.out.cel 5 rfl 0 _ rfl
        obtain ⟨g1, -⟩ := HO6.out.cel 5 rfl 1 _ rfl
        obtain ⟨g2, -⟩ := HO6.out.cel 5 rfl 2 _ rfl
        obtain ⟨g3, -⟩ := HO6.out.cel 4 rfl 0 _ rfl
        obtain ⟨g4, -⟩ := HO6.out.cel 4 rfl 1 _ rfl
        obtain ⟨g5, -⟩ := HO6.out.cel 4 rfl 2 _ rfl
        obtain ⟨r0, t0⟩ := HO6.out.cel 3 rfl 0 _ rfl
        obtain ⟨r1, t1⟩ := HO6.out.cel 3 rfl 1 _ rfl
        obtain ⟨r2, t2⟩ := HO6.out.cel 3 rfl 2 _ rfl
        obtain ⟨r3, t3⟩ := HO6.out.cel 2 rfl 0 _ rfl
        obtain ⟨r4, t4⟩ := HO6.out.cel 2 rfl 1 _ rfl
        obtain ⟨r5, t5⟩ := HO6.out.cel 2 rfl 2 _ rfl
        have hend : ∀ v0 v1 v2 v3 v4 v5, (fun W => RowAt W a' c' (q.l ++ t.take T1) ∧ RowAt W a3 c3 (List.drop T (x :: t)) ∧ (∀ y ∈ blk a' ++ blk a3, y ∈ blk a ++ blk (some ⟨b9, o9, none⟩) ∨ w.heap.size ≤ y) ∧ Below w.heap.size w W) (((((((W2.setCell ⟨s0 + 1 + 1, 0, none⟩ v0).setCell ⟨s0 + 1 + 1, 1, none⟩ v1).setCell ⟨s0 + 1 + 1, 2, none⟩ v2).setCell ⟨s0 + 1 + 1 + 1, 0, none⟩ v3).setCell ⟨s0 + 1 + 1 + 1, 1, none⟩ v4).setCell ⟨s0 + 1 + 1 + 1, 2, none⟩ v5).drew) := fun v0 v1 v2 v3 v4 v5 => by
          have hO7 := (((((((HO6.out.setAt 3 rfl 0 v0).setAt 3 rfl 1 v1).setAt 3 rfl 2 v2).setAt 2 rfl 0 v3).setAt 2 rfl 1 v4).setAt 2 rfl 2 v5).step (below_drew1 _))
          exact ⟨hO7.row 1 rfl, by simpa using hO7.row 0 rfl, fun y hy => by
            rcases List.mem_append.1 hy with h | h
            · exact .inr (HFR.out y h)
            · have h1 := K2.out y h; have h2 := hr.out.bel.size; exact .inr (by omega), hO7.bel⟩
        have HE := Lib.hid hend
        have hl9 : n + T1 = (q.l ++ t.take T1).length := by rw [List.length_append, HL1.out, ← HNN.out]
        have HL9 := Lib.hid hl9
        clear hend hl9 hs1' hs2
        go_region
        go_wp2
        exact bodyPost_ret (v := .tuple #[.agg #[.int .i64 nx, .slice a' (n + T1) c', .int .i64 (N : Int)], .agg #[.int .i64 fx, .slice a3 (fn - T) c3, .int .i64 (N2 : Int)], .int .i64 x]) (by simp [results, Try.results25, go_sem, r0, r1, r2, r3, r4, r5]) rfl (X8s.mk rfl HL9.out HLD.out.symm (HE.out _ _ _ _ _ _))
end Go.Proofs.Ytmldfckeenahlaa
