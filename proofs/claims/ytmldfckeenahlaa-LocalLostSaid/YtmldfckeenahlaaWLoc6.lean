/-
  The walks of the global row's Take, and of a queue's Fetch.
-/
import Derived.Test.YtmldfckeenahlaaWLoc5
open Go Go.RowKit
set_option linter.unusedVariables false
namespace Go.Proofs.Ytmldfckeenahlaa
set_option maxRecDepth 100000 in
set_option maxHeartbeats 1000000 in
theorem gtake_any (w : World) (b : Nat) (gl : List Int) (F : List Nat) (k : Int) (h : GloAt w b gl F) (hl : gl.length ≤ 1000000) :
    Calls Try.prog 29 #[.pointer (some ⟨b, 0, none⟩), .int .i64 k] w fun r w' => ∃ a' c', r = .returned (.slice a' (takes k gl.length) c') ∧ RowAt w' a' c' (gl.take (takes k gl.length)) ∧ (∀ x ∈ blk a', w.heap.size ≤ x) ∧
      GloAt w' b (gl.drop (takes k gl.length)) F ∧ Chg F w w' := by
  have hFlt := h.lt
  obtain ⟨a0, cap, rfl, h2, h3, h4⟩ := h
  obtain ⟨K, hK⟩ : ∃ K, K = takes k gl.length := ⟨_, rfl⟩
  have hKl := takes_le k gl.length
  have hV : (K = 0 ∧ k < 0) ∨ (K = 0 ∧ k = 0) ∨ (k = (K : Int) ∧ 0 < K ∧ K < gl.length) ∨ (K = gl.length ∧ 0 < gl.length ∧ k = (gl.length : Int)) ∨ (K = gl.length ∧ 0 < gl.length ∧ (gl.length : Int) < k) ∨ (K = 0 ∧ gl.length = 0 ∧ 0 < k) := by rw [hK]; unfold takes; omega
  rw [← hK] at hKl ⊢
  obtain ⟨a1, hs1, hr1, hk1⟩ := slice_from under_ints size_int h4 K hKl
  have hcap := h4.1
  have hs0 : ∀ w', (Instr.slice 35 (.slice a0 gl.length cap) none (some (.int .i64 (K : Int))) none).run Try.prog w' = .ok (.slice a0 K cap) w' := fun w' => slice_head w' under_ints size_int a0 gl.length cap K (by omega)
  have hc := clone_any w a0 K cap (gl.take K) (h4.take K).ints (by rw [List.length_take]; omega) (by omega) (fun e => by
    rcases h4.2.2 with ⟨_, h⟩ | ⟨_, _, h, _⟩
    · exact h
    · rw [e] at h; cases h)
  have HC := Lib.hid hc
  have H2 := Lib.hid h2
  have H3 := Lib.hid h3
  have HR1 := Lib.hid hr1
  have HK1 := Lib.hid hk1
  have HF := Lib.hid hFlt
  obtain ⟨g0, f0⟩ := h3 0 _ rfl
  have hld : (gl.drop K).length = gl.length - K := List.length_drop
  have HLD := Lib.hid hld
  clear hc h2 h3 h4 hr1 hk1 hK hcap hld hFlt
  obtain ⟨n, hn⟩ : ∃ n, n = gl.length := ⟨_, rfl⟩
  rw [← hn] at hV hs1 hs0 g0 hKl hl HLD
  have HN := Lib.hid hn; clear hn
  go_enter Try.func29, Try.ntmps29
  go_upto_region 1 with fail
  go_cut [1] (fun s1 wx => s1 = .int .i64 (K : Int) ∧ Hid (wx = w))
  case first =>
    clear hs0 hs1
    rcases hV with ⟨rfl, hz⟩ | ⟨rfl, rfl⟩ | ⟨rfl, hz, hz'⟩ | ⟨rfl, hz, rfl⟩ | ⟨rfl, hz, hz'⟩ | ⟨rfl, rfl, hz⟩
    all_goals
      go_wp2_with fail
      go_meet
      exact ⟨rfl, rfl⟩
  obtain ⟨rfl, hr⟩ := hcut
  obtain rfl : w = wc := hr.out.symm
  clear hV hr
  go_wp2_with fail
  refine HC.out.mono ?_
  rintro r w1 ⟨a', c', rfl, k1, k2, b1⟩
  have B1 := (H3.out).below b1
  obtain ⟨g1, f1⟩ := B1 0 _ rfl
  have hlt := HF.out
  have cs : Chg [b] w1 (w1.setCell ⟨b, 0, none⟩ (.slice a1 (n - K) (cap - K))) := (Chg.refl _ _).setCell _ (.inl (by simp))
  have hfin : RowAt (w1.setCell ⟨b, 0, none⟩ (.slice a1 (n - K) (cap - K))) a' c' (gl.take K) ∧ (∀ x ∈ blk a', w.heap.size ≤ x) ∧ GloAt (w1.setCell ⟨b, 0, none⟩ (.slice a1 (n - K) (cap - K))) b (gl.drop K) (b :: blk a0) ∧ Chg (b :: blk a0) w (w1.setCell ⟨b, 0, none⟩ (.slice a1 (n - K) (cap - K))) := by
    refine ⟨k1.chg cs (fun x hx => by have := k2 x hx; have := hlt b (by simp); simp; omega), k2, ⟨a1, cap - K, by rw [HK1.out], by rw [HK1.out]; exact H2.out, ?_, (HR1.out.below b1).chg cs (fun x hx => by rw [HK1.out] at hx; simp; intro e; subst e; exact H2.out hx)⟩, (Chg.of_below b1).trans cs (fun x hx => .inl (by simp at hx; simp [hx]))⟩
    rw [HLD.out]; exact B1.set 0 _
  have HFIN := Lib.hid hfin
  have hcell : w1.cell? ⟨b, 0, none⟩ = some (.slice a0 n cap) := by rw [HN.out]; exact g1
  clear hfin B1 g1 cs k1 k2 b1 hlt
  go_wp2
  go_ret
  exact ⟨a', c', rfl, HFIN.out⟩
/-- Fetch: the queue, the global row, who goes on. -/
def mShare (N : Nat) (q : LQ) (gl : List Int) (k : Int) : Nat := min (if 0 < k then 1 + gl.length / k.toNat else 1) (N - q.l.length + 1)
def mFetch (N : Nat) (q : LQ) (gl : List Int) (k : Int) : LQ × List Int × Option Int := match gl with
  | [] => (q, [], none)
  | x :: t => (⟨q.nx, q.l ++ (gl.take (mShare N q gl k)).tail⟩, gl.drop (mShare N q gl k), some x)
theorem GloAt.fp {w : World} {b : Nat} {gl : List Int} {F : List Nat} (h : GloAt w b gl F) : gl.length ≤ maxLen := by obtain ⟨a, cap, rfl, _, _, h4⟩ := h; exact Nat.le_trans h4.1 h4.2.1
theorem mShare_pos (N : Nat) (q : LQ) (gl : List Int) (k : Int) : 1 ≤ mShare N q gl k := by unfold mShare; generalize gl.length / k.toNat = d; split <;> omega
set_option maxRecDepth 100000 in
set_option maxHeartbeats 2000000 in
theorem lfetch_any (w : World) (p g N b : Nat) (q : LQ) (gl : List Int) (F : List Nat) (k : Int) (h : LocAt w p g N q) (hg : GloAt w b gl F) (hp : p ∉ F) (hgF : g ∉ F) (hl : gl.length ≤ 1000000) :
    Calls Try.prog 22 #[.pointer (some ⟨p, 0, none⟩), .pointer (some ⟨b, 0, none⟩), .int .i64 k] w fun r w' => r = .returned (gotv (mFetch N q gl k).2.2) ∧ LocAt w' p g N (mFetch N q gl k).1 ∧
      Chg (p :: g :: F) w w' ∧ GloAt w' b (mFetch N q gl k).2.1 F := by
  obtain ⟨S, hS⟩ : ∃ S, S = if 0 < k then 1 + gl.length / k.toNat else 1 := ⟨_, rfl⟩
  obtain ⟨M, hM⟩ : ∃ M, M = N - q.l.length + 1 := ⟨_, rfl⟩
  obtain ⟨m, hm⟩ : ∃ m, m = min S M := ⟨_, rfl⟩
  have hms : mShare N q gl k = m := by unfold mShare; rw [← hS, ← hM, ← hm]
  have hS1 : 1 ≤ S := by rw [hS]; generalize gl.length / k.toNat = d; split <;> omega
  have hll := h.ll
  have hSb : S ≤ gl.length + 1 := by
    rw [hS]; split
    · have := Nat.div_le_self gl.length k.toNat; omega
    · omega
  have hM2 : M ≤ 1025 := by omega
  have hcase : ((S : Int) ≤ (M : Int) ∧ m = S) ∨ ((M : Int) < (S : Int) ∧ m = M) := by omega
  have hm1 : 1 ≤ m := by omega
  obtain ⟨T, hT⟩ : ∃ T, T = takes (m : Int) gl.length := ⟨_, rfl⟩
  have hTl : T = min m gl.length := by rw [hT]; rfl
  have hpl := h.lt
  have hFl := hg.lt
  -- the calls
  have cG : Calls Try.prog 15 #[.pointer (some ⟨b, 0, none⟩)] w fun r w' => r = .returned (.int .i64 (gl.length : Int)) ∧ w' = w := glen_any w b gl F hg
  have cM : Calls Try.prog 42 #[.pointer (some ⟨p, 0, none⟩)] w fun r w' => r = .returned (.int .i64 (M : Int)) ∧ ∃ j, w' = w.drewN j := by rw [hM]; exact lmost_any w p g N q h
  have cT : ∀ j, Calls Try.prog 29 #[.pointer (some ⟨b, 0, none⟩), .int .i64 (m : Int)] (w.drewN j) fun r w' => ∃ a' c', r = .returned (.slice a' T c') ∧ RowAt w' a' c' (gl.take T) ∧ (∀ x ∈ blk a', w.heap.size ≤ x) ∧ GloAt w' b (gl.drop T) F ∧ Chg F w w' := fun j => by
    refine (gtake_any (w.drewN j) b gl F (m : Int) (hg.below (below_drewN (Below.refl _ _) j)) hl).mono ?_
    rw [← hT]
    rintro r w' ⟨a', c', e1, k1, k2, k3, k4⟩
    exact ⟨a', c', e1, k1, k2, k3, (Chg.of_below (below_drewN (Below.refl _ _) j)).trans k4 (fun x hx => .inl hx)⟩
  have cO : ∀ w1 a' c', RowAt w1 a' c' (gl.take T) → (∀ x ∈ blk a', w.heap.size ≤ x) → Chg F w w1 → Calls Try.prog 41 #[.pointer (some ⟨p, 0, none⟩), .slice a' T c'] w1 fun r w' => r = .returned (gotv (mFetch N q gl k).2.2) ∧ LocAt w' p g N (mFetch N q gl k).1 ∧ Chg [p, g] w1 w' := fun w1 a' c' k1 k2 k4 => by
    have hL1 := h.chg k4 hp hgF
    cases gl with
    | nil =>
      obtain rfl : T = 0 := by rw [hTl]; simp
      exact (lgoOn_none w1 p a' c').mono (by rintro r w' ⟨rfl, rfl⟩; exact ⟨rfl, hL1, Chg.refl _ _⟩)
    | cons x t =>
      simp only [mFetch, hms]
      obtain ⟨T', rfl⟩ : ∃ T', T = T' + 1 := ⟨T - 1, by simp at hTl; omega⟩
      have e : (x :: t).take m = x :: t.take T' := by
        obtain ⟨m', rfl⟩ : ∃ m', m = m' + 1 := ⟨m - 1, by omega⟩
        rw [List.take_succ_cons]; congr 1
        simp at hTl
        rw [List.take_eq_take_iff]; omega
      rw [e, List.tail_cons]
      rw [List.take_succ_cons] at k1
      refine lgoOn_any w1 p g N q a' (T' + 1) c' x (t.take T') hL1 k1 (by rw [List.length_take]; simp at hTl; omega) (fun y hy => by have := k2 y hy; omega) (by rw [List.length_take]; omega)
  have hdrop : gl.drop T = (mFetch N q gl k).2.1 := by
    cases gl with
    | nil => simp [mFetch]
    | cons x t =>
      simp only [mFetch, hms]
      by_cases e : m ≤ (x :: t).length
      · rw [show T = m by omega]
      · rw [List.drop_of_length_le (by omega), List.drop_of_length_le (by omega)]
  have hfin : ∀ w1 w2, GloAt w1 b (gl.drop T) F → Chg F w w1 → Chg [p, g] w1 w2 → Chg (p :: g :: F) w w2 ∧ GloAt w2 b (mFetch N q gl k).2.1 F := fun w1 w2 k1 k2 k3 => by
    refine ⟨(k2.mono (fun x hx => by simp [hx])).trans k3 (fun x hx => .inl (by simp at hx; simp; omega)), ?_⟩
    rw [← hdrop]; exact k1.chg k3 (fun x hx hc => by simp at hc; rcases hc with rfl | rfl; exact hp hx; exact hgF hx)
  generalize (mFetch N q gl k).2.2 = V at *
  generalize (mFetch N q gl k).2.1 = GL at *
  generalize (mFetch N q gl k).1 = Q at *
  have CG := Lib.hid cG
  have CM := Lib.hid cM
  have CT := Lib.hid cT
  have CO := Lib.hid cO
  have HFIN := Lib.hid hfin
  clear cG cM cT cO hfin hdrop hTl hT hms hll hpl hFl hm1 h hg hp hgF hm hM
  obtain ⟨n, hn⟩ : ∃ n, n = gl.length := ⟨_, rfl⟩
  have hk : (0 < k ∧ ∃ d : Nat, (n : Int).tdiv k = (d : Int) ∧ S = 1 + d ∧ d ≤ n) ∨ (¬ 0 < k ∧ S = 1) := by
    rw [← hn] at hS
    by_cases h0 : 0 < k
    · left
      rw [if_pos h0] at hS
      obtain ⟨kk, rfl⟩ := Int.eq_ofNat_of_zero_le (show 0 ≤ k by omega)
      exact ⟨h0, n / kk, by rw [Int.tdiv_eq_ediv_of_nonneg (by omega)]; rfl, hS, Nat.div_le_self _ _⟩
    · exact .inr ⟨h0, by rw [if_neg h0] at hS; exact hS⟩
  rw [← hn] at CG hl hSb
  clear hS hn
  have HCA : Hid (((S : Int) ≤ (M : Int) ∧ m = S) ∨ ((M : Int) < (S : Int) ∧ m = M)) := hcase
  clear hcase
  rcases hk with ⟨hk0, d, hd, rfl, hdn⟩ | ⟨hk0, rfl⟩
  · have hw1 : IntKind.i64.wrap (d : Int) = (d : Int) := by rw [IntKind.wrap_i64]; omega
    have hb0 : (k == 0) = false := by rw [beq_eq_false_iff_ne]; omega
    go_enter Try.func22, Try.ntmps22
    go_wp2_with fail
    refine CG.out.mono ?_
    rintro r w1 ⟨rfl, rfl⟩
    go_wp2_with fail
    refine CM.out.mono ?_
    rintro r w2 ⟨rfl, mq, rfl⟩
    rcases HCA.out with ⟨hle, rfl⟩ | ⟨hle, rfl⟩
    all_goals
      have CT' := Lib.hid (CT.out mq)
      try rw [show ((1 + d : Nat) : Int) = 1 + (d : Int) by omega] at CT'
      go_wp2_with fail
      refine CT'.out.mono ?_
      rintro r w3 ⟨a', c', rfl, k1, k2, k3, k4⟩
      have c5 := CO.out _ _ _ k1 k2 k4
      simp only [gotv] at c5 ⊢
      have C5 := Lib.hid c5
      have K3 := Lib.hid k3
      have K4 := Lib.hid k4
      clear k1 k2 k3 k4 c5
      go_wp2_with fail
      refine C5.out.mono ?_
      rintro r w4 ⟨rfl, k5, k6⟩
      have K5 := Lib.hid k5
      have K6 := Lib.hid (HFIN.out _ _ K3.out K4.out k6)
      clear k5 k6
      go_wp2
      go_ret2
      exact ⟨rfl, K5.out, K6.out⟩
  · go_enter Try.func22, Try.ntmps22
    go_wp2_with fail
    refine CM.out.mono ?_
    rintro r w2 ⟨rfl, mq, rfl⟩
    rcases HCA.out with ⟨hle, rfl⟩ | ⟨hle, rfl⟩
    all_goals
      have CT' := Lib.hid (CT.out mq)
      try rw [show ((1 : Nat) : Int) = 1 by rfl] at CT'
      go_wp2_with fail
      refine CT'.out.mono ?_
      rintro r w3 ⟨a', c', rfl, k1, k2, k3, k4⟩
      have c5 := CO.out _ _ _ k1 k2 k4
      simp only [gotv] at c5 ⊢
      have C5 := Lib.hid c5
      have K3 := Lib.hid k3
      have K4 := Lib.hid k4
      clear k1 k2 k3 k4 c5
      go_wp2_with fail
      refine C5.out.mono ?_
      rintro r w4 ⟨rfl, k5, k6⟩
      have K5 := Lib.hid k5
      have K6 := Lib.hid (HFIN.out _ _ K3.out K4.out k6)
      clear k5 k6
      go_wp2
      go_ret2
      exact ⟨rfl, K5.out, K6.out⟩
end Go.Proofs.Ytmldfckeenahlaa
