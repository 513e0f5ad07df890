/-
  The walks of the document's queues: Fetch.
-/
import Derived.Test.YtmldfckeenahlaaWRef8b
open Go Go.RowKit
set_option linter.unusedVariables false
namespace Go.Proofs.Ytmldfckeenahlaa
/-- s[m:k]. -/
theorem slice_mid {P : Program} {t : TypeId} (ht : P.underlying t = some (.slice (P.elem t))) (hs : ∀ w, (sizeOf (P.elem t)).run P w = .ok 1 w) {w0 : World} {a : Option Addr} {cap n : Nat} {l : List Int} (h : RowAt w0 a cap l) (hn : n = l.length) (m k : Nat) (hm : m ≤ k) (hk : k ≤ l.length) :
    ∃ a', (∀ w, (Instr.slice t (.slice a n cap) (some (.int .i64 (m : Int))) (some (.int .i64 (k : Int))) none).run P w = .ok (.slice a' (k - m) (cap - m)) w) ∧ RowAt w0 a' (cap - m) ((l.take k).drop m) ∧ blk a' = blk a := by
  subst hn
  have hl := h.1
  have hlk : (l.take k).length = k := by rw [List.length_take]; omega
  obtain ⟨a', h1, h2, h3⟩ := slice_from ht hs (h.take k) m (by omega)
  refine ⟨a', fun w => ?_, h2, h3⟩
  have := h1 w
  rw [hlk] at this
  rw [run_slice_l (P := P) (t := t) (ht := ht) (kl := .i64) (l := (m : Int)) (h0 := by omega) (h1 := by omega), hs] at this
  rw [run_slice_lh (P := P) (t := t) (ht := ht) (kl := .i64) (kh := .i64) (l := (m : Int)) (h := (k : Int)) (h0 := by omega) (h1 := by omega) (h2 := by omega), hs]
  exact this
set_option maxRecDepth 100000 in
set_option maxHeartbeats 2000000 in
theorem x8fetch_any (w : World) (a ga : Option Addr) (n c gn gc N : Nat) (q : LQ) (gl : List Int) (k : Int) (hn : n = q.l.length) (hgn : gn = gl.length) (h : RowAt w a c q.l) (hg : RowAt w ga gc gl) (hl : q.l.length ≤ N) (hgl : gl.length ≤ 1000000) (hN : N ≤ 1024) :
    Calls Try.prog 23 #[xv q.num a n c N, .slice ga gn gc, .int .i64 k] w fun r w' => X8 w w' r N q.num (mFetch N q gl k).1.l (mFetch N q gl k).2.1 ((mFetch N q gl k).2.2.getD (-1)) (blk a ++ blk ga) := by
  obtain ⟨S, hS⟩ : ∃ S, S = if 0 < k then 1 + gl.length / k.toNat else 1 := ⟨_, rfl⟩
  obtain ⟨M, hM⟩ : ∃ M, M = N - q.l.length + 1 := ⟨_, rfl⟩
  have hms : mShare N q gl k = min S M := by unfold mShare; rw [← hS, ← hM]
  have hS1 : 1 ≤ S := by rw [hS]; generalize gl.length / k.toNat = d; split <;> omega
  have hSb : S ≤ gl.length + 1 := by
    rw [hS]; split
    · have := Nat.div_le_self gl.length k.toNat; omega
    · omega
  have hM2 : 1 ≤ M ∧ M ≤ 1025 := by omega
  have hMN : (N : Int) - (n : Int) + 1 = (M : Int) := by omega
  obtain ⟨T, hT⟩ : ∃ T, T = min (min S M) gl.length := ⟨_, rfl⟩
  have hcase : (T = S ∧ (S : Int) ≤ (M : Int) ∧ (S : Int) ≤ (gn : Int)) ∨ (T = gn ∧ (S : Int) ≤ (M : Int) ∧ (gn : Int) < (S : Int)) ∨ (T = M ∧ (M : Int) < (S : Int) ∧ (M : Int) ≤ (gn : Int)) := by omega
  have hk : (0 < k ∧ ∃ d : Nat, (gn : Int).tdiv k = (d : Int) ∧ S = d + 1 ∧ d ≤ gn) ∨ (¬ 0 < k ∧ S = 1) := by
    rw [← hgn] at hS
    by_cases h0 : 0 < k
    · left
      rw [if_pos h0] at hS
      obtain ⟨kk, rfl⟩ := Int.eq_ofNat_of_zero_le (show 0 ≤ k by omega)
      exact ⟨h0, gn / kk, by rw [Int.tdiv_eq_ediv_of_nonneg (by omega)]; rfl, by rw [hS, Nat.add_comm]; rfl, Nat.div_le_self _ _⟩
    · exact .inr ⟨h0, by rw [if_neg h0] at hS; exact hS⟩
  have HNN := Lib.hid hn
  have HGN := Lib.hid hgn
  have HG := Lib.hid hg
  have H := Lib.hid h
  obtain ⟨s0, hs0⟩ : ∃ s0, s0 = w.heap.size := ⟨_, rfl⟩
  have HS := Lib.hid hs0
  have hO : ∀ nx, Own w ((w.alloc (.cells #[.int .i64 nx, .slice a n c, .int .i64 (N : Int)] 48)).alloc (.cells #[.int .i64 0, .slice none 0 0, .int .i64 0] 48)) [CelA (s0 + 1) [.int .i64 0, .slice none 0 0, .int .i64 0], CelA s0 [.int .i64 nx, .slice a n c, .int .i64 (N : Int)]] := fun nx =>
    ((Own.nil (Below.refl _ _)).alloc _ _ hs0).alloc _ _ (by simp [hs0])
  have hNM : (n : Int) ≤ (N : Int) := by omega
  have hgb : (gn : Int) ≤ 1000000 := by omega
  have hnil : T = 0 → (mFetch N q gl k).1.l = q.l ∧ (mFetch N q gl k).2.1 = gl ∧ (mFetch N q gl k).2.2.getD (-1) = -1 ∧ gn = 0 := fun h0 => by
    cases gl with
    | nil => exact ⟨rfl, rfl, rfl, hgn⟩
    | cons x t => simp at hT; omega
  have hcons : T ≠ 0 → ∃ x t T1, T1 = T - 1 ∧ gl = x :: t ∧ (mFetch N q gl k).1.l = q.l ++ t.take T1 ∧ (mFetch N q gl k).2.1 = gl.drop T ∧ (mFetch N q gl k).2.2.getD (-1) = x ∧ T ≤ gn := fun h0 => by
    cases gl with
    | nil => simp at hT; omega
    | cons x t =>
      refine ⟨x, t, T - 1, rfl, rfl, ?_, ?_, rfl, by omega⟩
      · simp only [mFetch, hms]
        obtain ⟨m', hm'⟩ : ∃ m', min S M = m' + 1 := ⟨min S M - 1, by omega⟩
        rw [hm', List.take_succ_cons, List.tail_cons]
        congr 1
        simp at hT
        rw [List.take_eq_take_iff]; omega
      · simp only [mFetch, hms]
        by_cases e : min S M ≤ (x :: t).length
        · rw [show T = min S M by omega]
        · rw [List.drop_of_length_le (by omega), List.drop_of_length_le (by omega)]
  generalize (mFetch N q gl k).1.l = L' at *
  generalize (mFetch N q gl k).2.1 = GL' at *
  generalize (mFetch N q gl k).2.2.getD (-1) = V at *
  have hO1 := Lib.hid (hO q.num)
  have HC := Lib.hid hcase
  have HNIL := Lib.hid hnil
  have HCONS := Lib.hid hcons
  generalize q.num = nx at *
  clear hO h hg hn hgn hS hM hms hT hcase hnil hcons
  unfold xv
  go_enter Try.func23, Try.ntmps23
  go_upto_region 1 with fail
  rw [← hs0]
  clear hs0
  generalize (w.alloc (.cells #[.int .i64 nx, .slice a n c, .int .i64 (N : Int)] 48)).alloc (.cells #[.int .i64 0, .slice none 0 0, .int .i64 0] 48) = W at *
  obtain ⟨g0, f0⟩ := hO1.out.cel 1 rfl 0 _ rfl
  obtain ⟨g1, f1⟩ := hO1.out.cel 1 rfl 1 _ rfl
  obtain ⟨g2, f2⟩ := hO1.out.cel 1 rfl 2 _ rfl
  rcases hk with ⟨hk0, d, hd, rfl, hdn⟩ | ⟨hk0, rfl⟩
  all_goals
    try have hw1 : IntKind.i64.wrap (d : Int) = (d : Int) := by rw [IntKind.wrap_i64]; omega
    try have hb0 : (k == 0) = false := by rw [beq_eq_false_iff_ne]; omega
    go_upto_region 4 with fail
    go_cut [9] (fun s9 wx => s9 = .int .i64 (T : Int) ∧ Hid (wx = W))
    case first =>
      have HMN := Lib.hid hMN
      clear hMN
      have e1 : IntKind.i64.wrap ((N : Int) - (n : Int)) = (N : Int) - (n : Int) := by rw [IntKind.wrap_i64]; omega
      rcases HC.out with ⟨rfl, z1, z2⟩ | ⟨rfl, z1, z2⟩ | ⟨rfl, z1, z2⟩
      all_goals
        first
          | (exfalso; omega)
          | (try rw [← HMN.out] at z1
             try rw [← HMN.out] at z2
             go_wp2_with fail
             go_meet
             exact ⟨by first | rfl | (congr 1 <;> (have := HMN.out; omega)), rfl⟩)
    case rest =>
      obtain ⟨rfl, hr⟩ := hcut
      obtain rfl : W = wc := hr.out.symm
      clear hr HC hMN
      by_cases hT0 : T = 0
      · obtain ⟨e1, e2, rfl, hgn0⟩ := HNIL.out hT0
        subst e1
        subst e2
        subst hT0
        have hO2 := hO1.out
        obtain ⟨r0, t0⟩ := hO2.cel 0 rfl 0 _ rfl
        obtain ⟨r1, t1⟩ := hO2.cel 0 rfl 1 _ rfl
        obtain ⟨r2, t2⟩ := hO2.cel 0 rfl 2 _ rfl
        have hend : ∀ v1 v2 v3, (fun W => RowAt W a c q.l ∧ RowAt W ga gc GL' ∧ (∀ x ∈ blk a ++ blk ga, x ∈ blk a ++ blk ga ∨ w.heap.size ≤ x) ∧ Below w.heap.size w W) (((W.setCell ⟨s0 + 1, 0, none⟩ v1).setCell ⟨s0 + 1, 1, none⟩ v2).setCell ⟨s0 + 1, 2, none⟩ v3) := fun v1 v2 v3 => by
          have hO3 := ((hO2.setAt 0 rfl 0 v1).setAt 0 rfl 1 v2).setAt 0 rfl 2 v3
          exact ⟨H.out.below hO3.bel, HG.out.below hO3.bel, fun x hx => .inl hx, hO3.bel⟩
        have HE := Lib.hid hend
        clear hend hO2 hgn0
        go_wp2
        exact bodyPost_ret (v := .tuple #[.agg #[.int .i64 nx, .slice a n c, .int .i64 (N : Int)], .slice ga gn gc, .int .i64 (-1)]) (by simp [results, Try.results23, go_sem, r0, r1, r2]) rfl (X8.mk rfl HNN.out HGN.out (HE.out _ _ _))
      · obtain ⟨x, t, T1, hT1, rfl, rfl, rfl, rfl, hTg⟩ := HCONS.out hT0
        clear HNIL HCONS
        have hbT : ((T : Int) == 0) = false := by rw [beq_eq_false_iff_ne]; omega
        obtain ⟨a1, hs1, hr1, hk1⟩ := slice_mid under_ints size_int HG.out HGN.out 1 T (by omega) (by have := HGN.out; omega)
        obtain ⟨a2, hs2, hr2, hk2⟩ := slice_from under_ints size_int HG.out T (by have := HGN.out; omega)
        rw [← HGN.out] at hs2
        have hl1 : (t.take (T - 1)).length = T - 1 := by have := HGN.out; simp at this; rw [List.length_take]; omega
        have hr1' : IntsAt w a1 (t.take (T - 1)) := by
          have := hr1.ints
          rw [List.drop_take, List.drop_succ_cons, List.drop_zero] at this; exact this
        obtain ⟨b9, o9, rfl, g9⟩ := HG.out.ints 0 (by simp)
        have G9 := Lib.hid (show w.cell? ⟨b9, o9, none⟩ = some (.int .i64 V) from g9)
        have HR1 := Lib.hid hr1'
        have HR2 := Lib.hid hr2
        have HK2 := Lib.hid hk2
        have HL1 := Lib.hid hl1
        have hld : (List.drop T (V :: t)).length = gn - T := by rw [List.length_drop, ← HGN.out]
        have HLD := Lib.hid hld
        clear hr1 hr2 hr1' hl1 hld hk1 hk2 g9
        have hs1' : ∀ w, (Instr.slice 35 (.slice (some ⟨b9, o9, none⟩) gn gc) (some (.int .i64 1)) (some (.int .i64 (T : Int))) none).run Try.prog w = .ok (.slice a1 (T - 1) (gc - 1)) w := hs1
        clear hs1
        rw [← hT1] at hs1'
        rw [← hT1] at HR1 HL1
        have HT1 := Lib.hid hT1; clear hT1
        go_upto_region 7 with fail
        go_cut [] (fun wx => ∃ a' c', Hid (Own w wx [RowA a' c' (q.l ++ t.take T1), CelA (s0 + 1) [.int .i64 0, .slice none 0 0, .int .i64 0], CelA s0 [.int .i64 nx, .slice a' (n + T1) c', .int .i64 (N : Int)]]))
        case first =>
          have hj := fun W hW1 hW2 => join_any W a a1 n T1 c (gc - 1) q.l (t.take T1) HNN.out HL1.out.symm hW1 hW2 (by have := HL1.out; have := HNN.out; simp at *; omega)
          have HJ := Lib.hid hj
          clear hj
          go_region_with (go_at_call 40; refine (HJ.out _ (H.out.ints.below (below_on hO1.out.bel (below_drewN (Below.refl _ _) _))) (HR1.out.below (below_on hO1.out.bel (below_drewN (Below.refl _ _) _)))).mono ?_; rintro r w1 ⟨a', c', rfl, k1, k2, b1⟩; have hO2 := (hO1.out.step (below_drewN (Below.refl _ _) _)).newRow b1 k1 k2; obtain ⟨g5, f5⟩ := hO2.cel 2 rfl 1 _ rfl; have HO2 := Lib.hid hO2; clear hO2 k1 k2 b1)
          all_goals
            have HO3 := Lib.hid ((HO2.out.setAt 2 rfl 1 (.slice a' (n + T1) c')))
            go_wp2_with fail
            go_meet
            exact ⟨a', c', HO3⟩
        case rest =>
          obtain ⟨a', c', hr⟩ := hcut
          obtain ⟨q0, -⟩ := hr.out.cel 2 rfl 0 _ rfl
          obtain ⟨q1, -⟩ := hr.out.cel 2 rfl 1 _ rfl
          obtain ⟨q2, -⟩ := hr.out.cel 2 rfl 2 _ rfl
          have q3 := cell_below G9.out hr.out.bel
          have hb9 : b9 ≠ s0 + 1 := by have h9 : b9 < w.heap.size := World.block_lt_of_cell? w _ G9.out; have := HS.out; omega
          have hkeep : ∀ w', CR (s0 + 1) 3 wc w' → w'.cell? ⟨s0, 0, none⟩ = some (.int .i64 nx) ∧ w'.cell? ⟨s0, 1, none⟩ = some (.slice a' (n + T1) c') ∧ w'.cell? ⟨s0, 2, none⟩ = some (.int .i64 (N : Int)) ∧ w'.cell? ⟨b9, o9, none⟩ = some (.int .i64 V) ∧ CR (s0 + 1) 3 wc w' :=
            fun w' hb => ⟨cell_chg q0 hb.1 (by simp), cell_chg q1 hb.1 (by simp), cell_chg q2 hb.1 (by simp), cell_chg q3 hb.1 (by simp [hb9]), hb⟩
          have hrow : ∀ w', CR (s0 + 1) 3 wc w' → IntsAt w' a2 (List.drop T (V :: t)) := fun w' hb => ((HR2.out.below hr.out.bel).chg hb.1 (fun x hx => by rw [HK2.out] at hx; simp [blk] at hx; subst hx; simp [hb9])).ints
          have hst : CR (s0 + 1) 3 wc wc := by
            obtain ⟨F, ⟨_, h1, h2⟩, _⟩ := hr.out.fact 1 rfl
            exact CR.start (Room.of_blk h2 h1)
          have HKEEP := Lib.hid hkeep
          have HROW := Lib.hid hrow
          have HST := Lib.hid hst
          clear hkeep hrow hst q0 q1 q2 q3 g0 g1 g2 f0 f1 f2 hb9
          have hj := fun W hW1 => join_any W none a2 0 (gn - T) 0 (gc - T) [] (List.drop T (V :: t)) rfl HLD.out.symm (IntsAt.nil _ _) hW1 (by have := HLD.out; simp only [List.length_nil]; omega)
          have HJ := Lib.hid hj
          clear hj
          have hgn1 : (0 : Int) < (gn : Int) := by omega
          have hgn2 : 0 < gn := by omega
          go_wp2_with fail
          go_region_held3 (fun w' => w'.cell? ⟨s0, 0, none⟩ = some (.int .i64 nx) ∧ w'.cell? ⟨s0, 1, none⟩ = some (.slice a' (n + T1) c') ∧ w'.cell? ⟨s0, 2, none⟩ = some (.int .i64 (N : Int)) ∧ w'.cell? ⟨b9, o9, none⟩ = some (.int .i64 V) ∧ CR (s0 + 1) 3 wc w')
            ((refine HKEEP.out _ ?_; repeat (first | exact HST.out | exact hb5 | exact lim4 (by assumption) | refine CR.drew ?_ | refine CR.drewN ?_ _ | refine CR.set ?_ _ _)))
            (first
              | (go_at_call 40; refine (HJ.out _ (HROW.out _ (lim4 (by assumption)))).mono ?_; rintro r w5 ⟨a3, c3, rfl, k1, k2, hb4⟩; have hb5 := CR.step (lim4 (by assumption) : CR (s0 + 1) 3 wc _) hb4; obtain ⟨z0, y0, y0'⟩ := hb5.2.at 0 (by omega); obtain ⟨z1, y1, y1'⟩ := hb5.2.at 1 (by omega); obtain ⟨z2, y2, y2'⟩ := hb5.2.at 2 (by omega)))
          have hO5 := (hr.out.step (below_drew1 _)).newRow hb4 k1 k2
          have hO6 := ((hO5.setAt 2 rfl 0 (.int .i64 nx)).setAt 2 rfl 1 (.slice a' (n + T1) c')).setAt 2 rfl 2 (.int .i64 (N : Int))
          have hfr1 : ∀ x ∈ blk a', w.heap.size ≤ x := by obtain ⟨F, ⟨hF, _⟩, h2⟩ := hr.out.fact 0 rfl; subst hF; exact h2
          have hend : RowAt (((w5.setCell ⟨s0 + 1, 0, none⟩ (.int .i64 nx)).setCell ⟨s0 + 1, 1, none⟩ (.slice a' (n + T1) c')).setCell ⟨s0 + 1, 2, none⟩ (.int .i64 (N : Int))) a' c' (q.l ++ t.take T1) ∧
              RowAt (((w5.setCell ⟨s0 + 1, 0, none⟩ (.int .i64 nx)).setCell ⟨s0 + 1, 1, none⟩ (.slice a' (n + T1) c')).setCell ⟨s0 + 1, 2, none⟩ (.int .i64 (N : Int))) a3 c3 (List.drop T (V :: t)) ∧
              (∀ x ∈ blk a' ++ blk a3, x ∈ blk a ++ blk (some ⟨b9, o9, none⟩) ∨ w.heap.size ≤ x) ∧ Below w.heap.size w (((w5.setCell ⟨s0 + 1, 0, none⟩ (.int .i64 nx)).setCell ⟨s0 + 1, 1, none⟩ (.slice a' (n + T1) c')).setCell ⟨s0 + 1, 2, none⟩ (.int .i64 (N : Int))) :=
            ⟨hO6.row 1 rfl, by simpa using hO6.row 0 rfl, fun x hx => by
              rcases List.mem_append.1 hx with h | h
              · exact .inr (hfr1 x h)
              · have h1 := k2 x h; have h2 := hr.out.bel.size; exact .inr (by have : wc.drew.heap.size = wc.heap.size := rfl; omega), hO6.bel⟩
          have HE := Lib.hid hend
          have hl9 : n + T1 = (q.l ++ t.take T1).length := by rw [List.length_append, HL1.out, ← HNN.out]
          have HL9 := Lib.hid hl9
          rename_i hHeld
          clear hend hO5 hO6 hfr1 hb4 hb5 k1 k2 hl9 hHeld
          go_wp2
          exact bodyPost_ret (v := .tuple #[.agg #[.int .i64 nx, .slice a' (n + T1) c', .int .i64 (N : Int)], .slice a3 (gn - T) c3, .int .i64 V]) (by simp [results, Try.results23, go_sem, y0, y1, y2]) rfl (X8.mk rfl HL9.out HLD.out.symm HE.out)
end Go.Proofs.Ytmldfckeenahlaa
