/-
  The walks of the document's queues: lists. What goes in, what comes out.
-/
import Derived.Test.YtmldfckeenahlaaWLoc6
import Derived.Test.YtmldfckeenahlaaSep
open Go Go.RowKit
set_option linter.unusedVariables false
namespace Go.Proofs.Ytmldfckeenahlaa
/-- The document's queue as a value. -/
def xv (nx : Int) (a : Option Addr) (n c N : Nat) : Value := .agg #[.int .i64 nx, .slice a n c, .int .i64 (N : Int)]
theorem sz_add {w : World} {n : Nat} {s0 : Nat} (h : s0 = w.heap.size) (o : Obj) : s0 + 1 = (w.alloc o).heap.size := by simp [h]
set_option maxRecDepth 100000 in
set_option maxHeartbeats 1000000 in
theorem join_any (w : World) (a b : Option Addr) (n k c d : Nat) (l m : List Int) (hn : n = l.length) (hk : k = m.length) (ha : IntsAt w a l) (hb : IntsAt w b m) (hl : l.length + m.length ≤ 1000000000) :
    Calls Try.prog 40 #[.slice a n c, .slice b k d] w fun r w' => ∃ a' c', r = .returned (.slice a' (n + k) c') ∧ RowAt w' a' c' (l ++ m) ∧ (∀ x ∈ blk a', w.heap.size ≤ x) ∧ Below w.heap.size w w' := by
  obtain ⟨i0, hi0, hz0, hz1, hz2⟩ := info_parts info_int
  have Hi := Lib.hid hi0; clear hi0
  have Hz0 := Lib.hid hz0; clear hz0
  have Hz1 := Lib.hid hz1; clear hz1
  have Hz2 := Lib.hid hz2; clear hz2
  have HA := Lib.hid ha
  have HB := Lib.hid hb
  have HN := Lib.hid hn
  have HK := Lib.hid hk
  clear ha hb hn hk
  go_enter Try.func40, Try.ntmps40
  go_wp2_with (at_builtin; refine wpList_append_row (l := []) (m := l) rfl _ _ 35 rfl 3 i0 _ Try.underlying35 Hi.out Hz0.out Hz1.out Hz2.out rfl rfl rfl rfl HN.out (RowAt.empty _ _ rfl) (HA.out.below (below_alloc1 _ _)) (by simp only [List.length_nil]; omega) ?_)
  intro a1 c1 w1 k1 ch1 f1
  have b1 : Below w.heap.size w w1 := Chg.below (below_alloc1 _ _) ch1 (fun x hx => by simp [blk] at hx; omega)
  have hf1 : ∀ x ∈ blk a1, w.heap.size ≤ x := fun x hx => by
    rcases f1 x hx with h | h
    · simp [blk] at h; omega
    · first | omega | (simp at h; omega)
  have B1 := Lib.hid b1
  have F1 := Lib.hid hf1
  have K1 := Lib.hid k1
  clear b1 hf1 k1 ch1 f1
  go_wp2_with (at_builtin; refine wpList_append_row (l := l) (m := m) rfl _ _ 35 rfl 3 i0 _ Try.underlying35 Hi.out Hz0.out Hz1.out Hz2.out rfl rfl rfl (by first | exact HN.out | (rw [← HN.out]; simp)) HK.out K1.out (HB.out.below B1.out) hl ?_)
  intro a2 c2 w2 k2 ch2 f2
  have b2 : Below w.heap.size w w2 := Chg.below B1.out ch2 F1.out
  have hf2 : ∀ x ∈ blk a2, w.heap.size ≤ x := fun x hx => by
    rcases f2 x hx with h | h
    · exact F1.out x h
    · have := B1.out.size; omega
  have B2 := Lib.hid b2
  have F2 := Lib.hid hf2
  have K2 := Lib.hid k2
  clear b2 hf2 k2 ch2 f2
  go_wp2
  go_ret
  exact ⟨a2, c2, by first | rfl | simp, K2.out, F2.out, B2.out⟩
set_option maxRecDepth 100000 in
set_option maxHeartbeats 1000000 in
theorem x8new_any (z : Int) (w : World) : Calls Try.prog 16 #[.int .i64 z] w fun r w' => r = .returned (xv (-1) none 0 0 (roomOf z)) ∧ Below w.heap.size w w' := by
  obtain ⟨N, hN⟩ : ∃ N, N = roomOf z := ⟨_, rfl⟩
  have hV : (N : Int) = 1 ∧ z < 1 ∨ (N : Int) = 1 ∧ z = 1 ∨ (N : Int) = z ∧ 1 < z ∧ z ≤ 1024 ∨ (N : Int) = 1024 ∧ 1024 < z := by rw [hN]; unfold roomOf; omega
  rw [← hN]
  clear hN
  rcases hV with ⟨hV, hz⟩ | ⟨hV, rfl⟩ | ⟨hV, hz, hz'⟩ | ⟨hV, hz⟩
  all_goals
    unfold xv
    rw [hV]
    have HV := Lib.hid hV; clear hV
    go_enter Try.func16, Try.ntmps16
    go_wp2
    exact bodyPost_ret (by simp [results, Try.results16, go_sem]) rfl ⟨rfl, below_alloc1 _ _⟩
/-- What a call on the document's queue answers: the queue, the global row, a number. -/
def X8 (w w' : World) (r : Ending) (N : Nat) (nx : Int) (l gl : List Int) (k : Int) (olds : List Nat) : Prop :=
  ∃ a' c' ga' gc', r = .returned (.tuple #[xv nx a' l.length c' N, .slice ga' gl.length gc', .int .i64 k]) ∧ RowAt w' a' c' l ∧ RowAt w' ga' gc' gl ∧ (∀ x ∈ blk a' ++ blk ga', x ∈ olds ∨ w.heap.size ≤ x) ∧ Below w.heap.size w w'
theorem X8.mk {w w' : World} {r : Ending} {N n' gn' c' gc' : Nat} {nx k : Int} {l gl : List Int} {olds : List Nat} {a' ga' : Option Addr} (hr : r = .returned (.tuple #[xv nx a' n' c' N, .slice ga' gn' gc', .int .i64 k])) (hn : n' = l.length) (hgn : gn' = gl.length)
    (h : RowAt w' a' c' l ∧ RowAt w' ga' gc' gl ∧ (∀ x ∈ blk a' ++ blk ga', x ∈ olds ∨ w.heap.size ≤ x) ∧ Below w.heap.size w w') : X8 w w' r N nx l gl k olds := by
  subst hn hgn; exact ⟨a', c', ga', gc', hr, h⟩
set_option maxRecDepth 100000 in
set_option maxHeartbeats 1000000 in
theorem x8put_any (w : World) (nx : Int) (a ga : Option Addr) (n c gn gc N : Nat) (q : LQ) (gl : List Int) (v : Int) (hn : n = q.l.length) (hgn : gn = gl.length) (h : RowAt w a c q.l) (hg : RowAt w ga gc gl) (hl : q.l.length ≤ 1024) (hgl : gl.length ≤ 1000000) (hN : N ≤ 1024) :
    Calls Try.prog 19 #[xv nx a n c N, .int .i64 v, .slice ga gn gc] w fun r w' => X8 w w' r N nx (mPut N q v gl).1.l (mPut N q v gl).2.1 ((mPut N q v gl).2.2 : Int) (blk ga) := by
  have HNN := Lib.hid hn
  have HG := Lib.hid hg
  have H := Lib.hid h
  have HGN := Lib.hid hgn
  obtain ⟨s0, hs0⟩ : ∃ s0, s0 = w.heap.size := ⟨_, rfl⟩
  have hlt := fun x hx => h.lt x hx
  have hltg := fun x hx => hg.lt x hx
  by_cases hroom : q.l.length < N
  · have e1 : mPut N q v gl = (⟨q.nx, q.l ++ [v]⟩, gl, 0) := by unfold mPut; rw [if_pos hroom]
    rw [e1]
    have hO : Own w ((w.alloc (.cells #[.int .i64 nx, .slice a n c, .int .i64 (N : Int)] 48)).alloc (.cells #[.int .i64 0, .slice none 0 0, .int .i64 0] 48)) [CelA (s0 + 1) [.int .i64 0, .slice none 0 0, .int .i64 0], CelA s0 [.int .i64 nx, .slice a n c, .int .i64 (N : Int)]] :=
      ((Own.nil (Below.refl _ _)).alloc _ _ hs0).alloc _ _ (by simp [hs0])
    have hb : (n : Int) < (N : Int) := by omega
    have HS := Lib.hid hs0
    have HO := Lib.hid hO
    unfold X8 xv
    have hfin : ∀ w', RowAt w' ga gc gl → (∀ x ∈ blk ga, x ∈ blk ga ∨ w.heap.size ≤ x) := fun _ _ x hx => .inl hx
    have hll : (q.l ++ [v]).length = n + 1 := by simp [hn]
    simp only [hll, ← hgn]
    clear h hg e1 hroom hO hn hgn hlt hltg hll hfin
    rw [← hs0]
    clear hs0
    go_enter Try.func19, Try.ntmps19
    go_wp2_with fail
    rw [← HS.out]
    have hO1 := HO.out.alloc [.int .i64 v] 3 (b := s0 + 2) (by simp; have := HS.out; omega)
    have hj := fun W hW1 hW2 => join_any W a (some ⟨s0 + 1 + 1, 0, none⟩) n 1 c 1 q.l [v] HNN.out rfl hW1 hW2 (by simp; omega)
    refine (hj _ (H.out.ints.below hO1.bel) (RowAt.one _ _ _ (by simp; have := HS.out; omega)).ints).mono ?_
    rintro r w1 ⟨a', c', rfl, k1, k2, b1⟩
    have hO2 := hO1.newRow b1 k1 k2
    obtain ⟨g0, f0⟩ := hO2.cel 3 rfl 0 _ rfl
    obtain ⟨g1, f1⟩ := hO2.cel 3 rfl 1 _ rfl
    obtain ⟨g2, f2⟩ := hO2.cel 3 rfl 2 _ rfl
    obtain ⟨r0, t0⟩ := hO2.cel 2 rfl 0 _ rfl
    obtain ⟨r1, t1⟩ := hO2.cel 2 rfl 1 _ rfl
    obtain ⟨r2, t2⟩ := hO2.cel 2 rfl 2 _ rfl
    have hend : ∀ v1 v2 v3 v4, RowAt ((((w1.setCell ⟨s0, 1, none⟩ v1).setCell ⟨s0 + 1, 0, none⟩ v2).setCell ⟨s0 + 1, 1, none⟩ v3).setCell ⟨s0 + 1, 2, none⟩ v4) a' c' (q.l ++ [v]) ∧ RowAt ((((w1.setCell ⟨s0, 1, none⟩ v1).setCell ⟨s0 + 1, 0, none⟩ v2).setCell ⟨s0 + 1, 1, none⟩ v3).setCell ⟨s0 + 1, 2, none⟩ v4) ga gc gl ∧
        (∀ x ∈ blk a' ++ blk ga, x ∈ blk ga ∨ w.heap.size ≤ x) ∧ Below w.heap.size w ((((w1.setCell ⟨s0, 1, none⟩ v1).setCell ⟨s0 + 1, 0, none⟩ v2).setCell ⟨s0 + 1, 1, none⟩ v3).setCell ⟨s0 + 1, 2, none⟩ v4) := fun v1 v2 v3 v4 => by
      have hO3 := (((hO2.setAt 3 rfl 1 v1).setAt 2 rfl 0 v2).setAt 2 rfl 1 v3).setAt 2 rfl 2 v4
      exact ⟨hO3.row 0 rfl, HG.out.below hO3.bel, fun x hx => by
        rcases List.mem_append.1 hx with h | h
        · have := k2 x h; have := hO1.bel.size; omega
        · exact .inl h, hO3.bel⟩
    rw [← HS.out] at hend
    have HE := Lib.hid hend
    clear hend hO1 hO2 k1 k2 b1 hj
    go_wp2
    exact bodyPost_ret (v := .tuple #[.agg #[.int .i64 nx, .slice a' (n + 1) c', .int .i64 (N : Int)], .slice ga gn gc, .int .i64 0]) (by simp [results, Try.results19, go_sem, r0, r1, r2]) rfl ⟨a', c', ga, gc, rfl, HE.out _ _ _ _⟩
  · have e1 : mPut N q v gl = (⟨q.nx, q.l.drop (q.l.length / 2)⟩, gl ++ (q.l.take (q.l.length / 2) ++ [v]), q.l.length / 2 + 1) := by unfold mPut; rw [if_neg hroom]
    rw [e1]
    obtain ⟨k, hk⟩ : ∃ k, k = q.l.length / 2 := ⟨_, rfl⟩
    rw [← hk]
    have hquo : (n : Int).tdiv 2 = (k : Int) := by rw [hk, hn, Int.tdiv_eq_ediv_of_nonneg (by omega)]; rfl
    have hw1 : IntKind.i64.wrap (k : Int) = (k : Int) := by rw [IntKind.wrap_i64]; omega
    have hkn : k ≤ n := by omega
    have hcap := h.1
    obtain ⟨a1, hs1, hr1, hk1⟩ := slice_from under_ints size_int h k (by omega)
    have hs2 : ∀ w', (Instr.slice 35 (.slice a q.l.length c) none (some (.int .i64 (k : Int))) none).run Try.prog w' = .ok (.slice a k c) w' := fun w' => slice_head w' under_ints size_int a q.l.length c k (by omega)
    rw [← hn] at hs1 hs2
    have hO : Own w ((w.alloc (.cells #[.int .i64 nx, .slice a n c, .int .i64 (N : Int)] 48)).alloc (.cells #[.int .i64 0, .slice none 0 0, .int .i64 0] 48)) [CelA (s0 + 1) [.int .i64 0, .slice none 0 0, .int .i64 0], CelA s0 [.int .i64 nx, .slice a n c, .int .i64 (N : Int)]] :=
      ((Own.nil (Below.refl _ _)).alloc _ _ hs0).alloc _ _ (by simp [hs0])
    have hb : ¬ (n : Int) < (N : Int) := by omega
    have HS := Lib.hid hs0
    have HO := Lib.hid hO
    have HT := Lib.hid (h.take k).ints
    have HR := Lib.hid hr1.ints
    unfold X8 xv
    have hl1 : (q.l.take k).length = k := by rw [List.length_take]; omega
    have hl2 : (q.l.drop k).length = n - k := by rw [List.length_drop, hn]
    have hl3 : (gl ++ (q.l.take k ++ [v])).length = gn + k + 1 := by simp only [List.length_append, hl1, List.length_singleton]; omega
    have HL1 := Lib.hid hl1
    have HL2 := Lib.hid hl2
    simp only [hl2, hl3]
    have hkl : k ≤ 1024 := by omega
    clear h hg e1 hroom hO hn hgn hlt hltg hl1 hl2 hl3 hr1 hk1 hk hcap
    rw [← hs0]
    clear hs0
    go_enter Try.func19, Try.ntmps19
    go_wp2_with fail
    rw [← HS.out]
    have hj := fun W hW1 hW2 => join_any W ga a gn k gc c gl (q.l.take k) HGN.out HL1.out.symm hW1 hW2 (by rw [HL1.out]; omega)
    refine (hj _ (HG.out.ints.below HO.out.bel) (HT.out.below HO.out.bel)).mono ?_
    rintro r w1 ⟨a', c', rfl, k1, k2, b1⟩
    have hO1 := HO.out.newRow b1 k1 k2
    have HO1 := Lib.hid hO1
    have hfr : ∀ x ∈ blk a', s0 ≤ x := fun x hx => by have := k2 x hx; have := HO.out.bel.size; have := HS.out; omega
    obtain ⟨g0, f0⟩ := hO1.cel 2 rfl 0 _ rfl
    obtain ⟨g1, f1⟩ := hO1.cel 2 rfl 1 _ rfl
    clear hO1 k1 k2 b1 hj hs2 hfr
    have hO2 := fun b hb => HO1.out.alloc [.int .i64 v] 3 (b := b) hb
    have HO2 := Lib.hid hO2; clear hO2
    go_wp2_with fail
    have hO2 := HO2.out _ rfl
    have hj := fun W hW1 hW2 => join_any W a' (some ⟨w1.heap.size, 0, none⟩) (gn + k) 1 c' 1 (gl ++ q.l.take k) [v] (by rw [List.length_append, HL1.out, HGN.out]) rfl hW1 hW2 (by simp [HL1.out]; omega)
    refine (hj _ (hO2.row 1 rfl).ints (RowAt.one _ _ _ rfl).ints).mono ?_
    rintro r w2 ⟨a2, c2, rfl, k1, k2, b1⟩
    have hO3 := hO2.newRow b1 k1 k2
    have HO3 := Lib.hid hO3
    obtain ⟨g0, f0⟩ := hO3.cel 4 rfl 0 _ rfl
    obtain ⟨g1, f1⟩ := hO3.cel 4 rfl 1 _ rfl
    have HF2 := Lib.hid k2
    clear hO2 hO3 k1 k2 b1 hj HO2
    go_wp2_with fail
    have hj := fun W hW1 => join_any W none a1 0 (n - k) 0 (c - k) [] (q.l.drop k) rfl HL2.out.symm (IntsAt.nil _ _) hW1 (by simp; have := HL2.out; simp at this; omega)
    refine (hj _ (HR.out.below HO3.out.bel)).mono ?_
    rintro r w3 ⟨a3, c3, rfl, k1, k2, b1⟩
    have hO4 := HO3.out.newRow b1 k1 k2
    obtain ⟨g0, f0⟩ := hO4.cel 5 rfl 0 _ rfl
    obtain ⟨g1, f1⟩ := hO4.cel 5 rfl 1 _ rfl
    obtain ⟨g2, f2⟩ := hO4.cel 5 rfl 2 _ rfl
    obtain ⟨r0, t0⟩ := hO4.cel 4 rfl 0 _ rfl
    obtain ⟨r1, t1⟩ := hO4.cel 4 rfl 1 _ rfl
    obtain ⟨r2, t2⟩ := hO4.cel 4 rfl 2 _ rfl
    have hend : ∀ v1 v2 v3 v4, RowAt ((((w3.setCell ⟨s0, 1, none⟩ v1).setCell ⟨s0 + 1, 0, none⟩ v2).setCell ⟨s0 + 1, 1, none⟩ v3).setCell ⟨s0 + 1, 2, none⟩ v4) a3 c3 (q.l.drop k) ∧ RowAt ((((w3.setCell ⟨s0, 1, none⟩ v1).setCell ⟨s0 + 1, 0, none⟩ v2).setCell ⟨s0 + 1, 1, none⟩ v3).setCell ⟨s0 + 1, 2, none⟩ v4) a2 c2 (gl ++ (q.l.take k ++ [v])) ∧
        (∀ x ∈ blk a3 ++ blk a2, x ∈ blk ga ∨ w.heap.size ≤ x) ∧ Below w.heap.size w ((((w3.setCell ⟨s0, 1, none⟩ v1).setCell ⟨s0 + 1, 0, none⟩ v2).setCell ⟨s0 + 1, 1, none⟩ v3).setCell ⟨s0 + 1, 2, none⟩ v4) := fun v1 v2 v3 v4 => by
      have hO5 := (((hO4.setAt 5 rfl 1 v1).setAt 4 rfl 0 v2).setAt 4 rfl 1 v3).setAt 4 rfl 2 v4
      refine ⟨by simpa using hO5.row 0 rfl, by have := hO5.row 1 rfl; rwa [List.append_assoc] at this, fun x hx => ?_, hO5.bel⟩
      rcases List.mem_append.1 hx with h | h
      · have := k2 x h; have := HO3.out.bel.size; omega
      · have h2 := HF2.out x h; have h1 := HO1.out.bel.size; simp at h2; omega
    rw [← HS.out] at hend
    have HE := Lib.hid hend
    clear hend hO4 k1 k2 b1 hj
    go_wp2
    exact bodyPost_ret (v := .tuple #[.agg #[.int .i64 nx, .slice a3 (n - k) c3, .int .i64 (N : Int)], .slice a2 (gn + k + 1) c2, .int .i64 ((k + 1 : Nat) : Int)]) (by simp [results, Try.results19, go_sem, r0, r1, r2]) rfl ⟨a3, c3, a2, c2, rfl, HE.out _ _ _ _⟩
set_option maxRecDepth 100000 in
set_option maxHeartbeats 1000000 in
theorem x8turn_any (w : World) (a ga : Option Addr) (n c gn gc N : Nat) (q : LQ) (gl : List Int) (hn : n = q.l.length) (hgn : gn = gl.length) (h : RowAt w a c q.l) (hg : RowAt w ga gc gl) (hl : q.l.length ≤ 1024) (hgl : gl.length ≤ 1000000) (hN : N ≤ 1024) (hnn : ∀ v, q.nx = some v → 0 ≤ v) :
    Calls Try.prog 27 #[xv q.num a n c N, .slice ga gn gc] w fun r w' => X8 w w' r N (-1) (mTurn N q gl).1.l (mTurn N q gl).2.1 ((mTurn N q gl).2.2 : Int) (blk a ++ blk ga) := by
  have HG := Lib.hid hg
  have H := Lib.hid h
  obtain ⟨s0, hs0⟩ : ∃ s0, s0 = w.heap.size := ⟨_, rfl⟩
  have hO : ∀ nx, Own w ((w.alloc (.cells #[.int .i64 nx, .slice a n c, .int .i64 (N : Int)] 48)).alloc (.cells #[.int .i64 0, .slice none 0 0, .int .i64 0] 48)) [CelA (s0 + 1) [.int .i64 0, .slice none 0 0, .int .i64 0], CelA s0 [.int .i64 nx, .slice a n c, .int .i64 (N : Int)]] := fun nx =>
    ((Own.nil (Below.refl _ _)).alloc _ _ hs0).alloc _ _ (by simp [hs0])
  have HS := Lib.hid hs0
  cases hq : q.nx with
  | none =>
    have e1 : mTurn N q gl = (q, gl, 0) := by unfold mTurn; rw [hq]
    have e2 : q.num = -1 := by unfold LQ.num; rw [hq]; rfl
    rw [e1, e2]
    have HNN := Lib.hid hn
    have HGN := Lib.hid hgn
    unfold xv
    have hO1 := Lib.hid (hO (-1))
    clear hO h hg e1 e2 hq hnn hn hgn
    go_enter Try.func27, Try.ntmps27
    go_upto_region 1 with fail
    rw [← hs0]
    generalize (w.alloc (.cells #[.int .i64 (-1), .slice a n c, .int .i64 (N : Int)] 48)).alloc (.cells #[.int .i64 0, .slice none 0 0, .int .i64 0] 48) = W at *
    obtain ⟨g0, f0⟩ := hO1.out.cel 1 rfl 0 _ rfl
    obtain ⟨g1, f1⟩ := hO1.out.cel 1 rfl 1 _ rfl
    obtain ⟨g2, f2⟩ := hO1.out.cel 1 rfl 2 _ rfl
    obtain ⟨r0, t0⟩ := hO1.out.cel 0 rfl 0 _ rfl
    obtain ⟨r1, t1⟩ := hO1.out.cel 0 rfl 1 _ rfl
    obtain ⟨r2, t2⟩ := hO1.out.cel 0 rfl 2 _ rfl
    have hend : ∀ v0 v1 v2 v3, (fun W => RowAt W a c q.l ∧ RowAt W ga gc gl ∧ (∀ x ∈ blk a ++ blk ga, x ∈ blk a ++ blk ga ∨ w.heap.size ≤ x) ∧ Below w.heap.size w W) ((((W.setCell ⟨s0, 0, none⟩ v0).setCell ⟨s0 + 1, 0, none⟩ v1).setCell ⟨s0 + 1, 1, none⟩ v2).setCell ⟨s0 + 1, 2, none⟩ v3) := fun v0 v1 v2 v3 => by
      have hO3 := (((hO1.out.setAt 1 rfl 0 v0).setAt 0 rfl 0 v1).setAt 0 rfl 1 v2).setAt 0 rfl 2 v3
      exact ⟨H.out.below hO3.bel, HG.out.below hO3.bel, fun x hx => .inl hx, hO3.bel⟩
    have HE := Lib.hid hend
    clear hend hs0
    go_wp2
    exact bodyPost_ret (v := .tuple #[.agg #[.int .i64 (-1), .slice a n c, .int .i64 (N : Int)], .slice ga gn gc, .int .i64 0]) (by simp [results, Try.results27, go_sem, r0, r1, r2]) rfl (X8.mk rfl HNN.out HGN.out (HE.out _ _ _ _))
  | some o =>
    have ho := hnn o hq
    have e1 : mTurn N q gl = mPut N ⟨none, q.l⟩ o gl := by unfold mTurn; rw [hq]
    have e2 : q.num = o := by unfold LQ.num; rw [hq]; rfl
    rw [e1, e2]
    have hput := fun W hw1 hw2 => x8put_any W (-1) a ga n c gn gc N ⟨none, q.l⟩ gl o hn hgn hw1 hw2 hl hgl hN
    obtain ⟨M, hM⟩ : ∃ M, M = mPut N ⟨none, q.l⟩ o gl := ⟨_, rfl⟩
    rw [← hM] at hput ⊢
    have HP := Lib.hid hput
    have hO1 := Lib.hid (hO o)
    clear hO h hg e1 e2 hq hnn hn hgn hput hM
    unfold xv
    go_enter Try.func27, Try.ntmps27
    go_upto_region 1 with fail
    rw [← hs0]
    clear hs0
    generalize (w.alloc (.cells #[.int .i64 o, .slice a n c, .int .i64 (N : Int)] 48)).alloc (.cells #[.int .i64 0, .slice none 0 0, .int .i64 0] 48) = W at *
    obtain ⟨g0, f0⟩ := hO1.out.cel 1 rfl 0 _ rfl
    obtain ⟨g1, f1⟩ := hO1.out.cel 1 rfl 1 _ rfl
    obtain ⟨g2, f2⟩ := hO1.out.cel 1 rfl 2 _ rfl
    have hO2 := Lib.hid (hO1.out.setAt 1 rfl 0 (.int .i64 (-1)))
    go_wp2_with fail
    have hp := HP.out _ (H.out.below hO2.out.bel) (HG.out.below hO2.out.bel)
    unfold xv at hp
    refine hp.mono ?_
    clear hp
    rintro r w1 ⟨a', c', ga', gc', rfl, k1, k2, k3, k4⟩
    have hO3 := hO2.out.step k4
    have hb := hO2.out.bel
    obtain ⟨r0, t0⟩ := hO3.cel 0 rfl 0 _ rfl
    obtain ⟨r1, t1⟩ := hO3.cel 0 rfl 1 _ rfl
    obtain ⟨r2, t2⟩ := hO3.cel 0 rfl 2 _ rfl
    have hlt : s0 + 1 < W.heap.size := by obtain ⟨F, ⟨_, h1, _⟩, _⟩ := hO1.out.fact 0 rfl; exact h1
    have hfr : ∀ x ∈ blk a' ++ blk ga', x ≠ s0 + 1 ∧ (x ∈ blk a ++ blk ga ∨ w.heap.size ≤ x) := fun x hx => by
      rcases k3 x hx with h | h
      · have := HG.out.lt x h; have := HS.out; exact ⟨by omega, .inl (by simp [h])⟩
      · rw [World.size_setCell] at h; have := HS.out; exact ⟨by omega, .inr (by omega)⟩
    have hend : ∀ v1 v2 v3, (fun W => RowAt W a' c' M.1.l ∧ RowAt W ga' gc' M.2.1 ∧ (∀ x ∈ blk a' ++ blk ga', x ∈ blk a ++ blk ga ∨ w.heap.size ≤ x) ∧ Below w.heap.size w W) (((w1.setCell ⟨s0 + 1, 0, none⟩ v1).setCell ⟨s0 + 1, 1, none⟩ v2).setCell ⟨s0 + 1, 2, none⟩ v3) := fun v1 v2 v3 => by
      have hO4 := ((hO3.setAt 0 rfl 0 v1).setAt 0 rfl 1 v2).setAt 0 rfl 2 v3
      have cs : Chg [s0 + 1] w1 (((w1.setCell ⟨s0 + 1, 0, none⟩ v1).setCell ⟨s0 + 1, 1, none⟩ v2).setCell ⟨s0 + 1, 2, none⟩ v3) := (((Chg.refl _ _).setCell _ (.inl (by simp))).setCell _ (.inl (by simp))).setCell _ (.inl (by simp))
      exact ⟨k1.chg cs (fun x hx => by simp; exact (hfr x (by simp [hx])).1), k2.chg cs (fun x hx => by simp; exact (hfr x (by simp [hx])).1), fun x hx => (hfr x hx).2, hO4.bel⟩
    have HE := Lib.hid hend
    obtain ⟨m, hm⟩ : ∃ m, m = M.1.l.length := ⟨_, rfl⟩
    obtain ⟨gm, hgm⟩ : ∃ m, m = M.2.1.length := ⟨_, rfl⟩
    have HM := Lib.hid hm
    have HGM := Lib.hid hgm
    unfold xv
    rw [← hm, ← hgm]
    clear hend hO3 k1 k2 k3 k4 hb hm hgm hfr hlt
    go_wp2
    exact bodyPost_ret (v := .tuple #[.agg #[.int .i64 (-1), .slice a' m c', .int .i64 (N : Int)], .slice ga' gm gc', .int .i64 (M.2.2 : Int)]) (by simp [results, Try.results27, go_sem, r0, r1, r2]) rfl (X8.mk rfl HM.out HGM.out (HE.out _ _ _))
end Go.Proofs.Ytmldfckeenahlaa
