/-
  The walks of a queue's calls: what goes in, what comes out.
-/
import Derived.Test.YtmldfckeenahlaaWLoc1
open Go Go.RowKit
set_option linter.unusedVariables false
namespace Go.Proofs.Ytmldfckeenahlaa
/-- Put, Turn, Ready, Get: the queue, the global row, how many went there; who goes on. -/
def mPut (N : Nat) (q : LQ) (v : Int) (g : List Int) : LQ × List Int × Nat :=
  if q.l.length < N then (⟨q.nx, q.l ++ [v]⟩, g, 0) else (⟨q.nx, q.l.drop (q.l.length / 2)⟩, g ++ (q.l.take (q.l.length / 2) ++ [v]), q.l.length / 2 + 1)
def mTurn (N : Nat) (q : LQ) (g : List Int) : LQ × List Int × Nat := match q.nx with | none => (q, g, 0) | some v => mPut N ⟨none, q.l⟩ v g
def mReady (N : Nat) (q : LQ) (v : Int) (g : List Int) : LQ × List Int × Nat := (⟨some v, (mTurn N q g).1.l⟩, (mTurn N q g).2.1, (mTurn N q g).2.2)
def mGet (q : LQ) : LQ × Option Int := match q.nx with
  | some v => (⟨none, q.l⟩, some v)
  | none => match q.l with
    | [] => (q, none)
    | x :: t => (⟨none, t⟩, some x)
theorem mPut_len (N : Nat) (q : LQ) (v : Int) (g : List Int) : (mPut N q v g).2.1.length ≤ g.length + q.l.length + 1 := by
  unfold mPut; split
  · simp; omega
  · simp only [List.length_append, List.length_take, List.length_singleton]; omega
theorem mPut_ll (N : Nat) (q : LQ) (v : Int) (g : List Int) (h : q.l.length ≤ N) : (mPut N q v g).1.l.length ≤ N := by
  unfold mPut; split
  · simp; omega
  · simp only [List.length_drop]; omega
theorem one_far {p g B : Nat} (hp : p < B) (hg : g < B) : ∀ x ∈ blk (some ⟨B, 0, none⟩), x ∉ [p, g] := fun x hx => by
  simp [blk] at hx; subst hx; simp; omega
set_option maxRecDepth 100000 in
set_option maxHeartbeats 1000000 in
theorem ltake_any (w : World) (p g N : Nat) (q : LQ) (h : LocAt w p g N q) :
    Calls Try.prog 35 #[.pointer (some ⟨p, 0, none⟩)] w fun r w' => r = .returned (.tuple #[.int .i64 q.num, .bool q.nx.isSome]) ∧ LocAt w' p g N ⟨none, q.l⟩ ∧ Chg [p, g] w w' := by
  have hb : ∀ m, LocAt (w.drewN m) p g N q := fun m => h.below (below_drewN (Below.refl _ _) m)
  have hf : ∀ m, LocAt (((w.drewN m).setCell ⟨p, 0, none⟩ (.bool false)).setCell ⟨p, 1, none⟩ (.int .i64 0)) p g N ⟨none, q.l⟩ ∧ Chg [p, g] w (((w.drewN m).setCell ⟨p, 0, none⟩ (.bool false)).setCell ⟨p, 1, none⟩ (.int .i64 0)) := fun m =>
    ⟨((hb m).setNext none).1, (Chg.of_below (below_drewN (Below.refl _ _) m)).trans ((hb m).setNext none).2 (fun x hx => .inl hx)⟩
  obtain ⟨-, ⟨k2, f2⟩, k4, f4⟩ := h
  have HB := Lib.hid hb
  have HF := Lib.hid hf
  clear hb hf
  obtain ⟨s, hs⟩ : ∃ s, s = q.nx.isSome := ⟨_, rfl⟩
  obtain ⟨v, hv⟩ : ∃ v, v = q.num := ⟨_, rfl⟩
  rw [← hs] at k2 ⊢
  rw [← hv]
  have hcall : ∀ m, Calls Try.prog 10 #[.pointer (some ⟨p, 0, none⟩)] (w.drewN m) fun r w' => r = .returned (.int .i64 v) ∧ w' = w.drewN m := fun m => by rw [hv]; exact lnext_any _ p g N q (HB.out m)
  have HC := Lib.hid hcall
  clear hcall hs hv
  go_enter Try.func35, Try.ntmps35
  go_wp2_with fail
  go_quiet ((go_at_call 10; exact Calls.quiet_of_same (HC.out _)))
  go_wp2
  go_ret2
  exact ⟨rfl, HF.out _⟩
set_option maxRecDepth 100000 in
set_option maxHeartbeats 1000000 in
theorem llen_any (w : World) (p g N : Nat) (q : LQ) (h : LocAt w p g N q) :
    Calls Try.prog 31 #[.pointer (some ⟨p, 0, none⟩)] w fun r w' => r = .returned (.int .i64 ((q.l.length : Int) + if q.nx.isSome then 1 else 0)) ∧ w' = w := by
  obtain ⟨⟨e, h1⟩, ⟨k2, -⟩, -, -⟩ := h
  have ll := h1.ll
  have n2 := h1.n2
  have H1 := Lib.hid h1; clear h1
  cases hq : q.nx with
  | none =>
    rw [hq] at k2
    simp only [Option.isSome_none] at k2
    clear hq
    go_enter Try.func31, Try.ntmps31
    go_wp2_with fail
    refine (rlen_any _ _ _ _ _ _ _ H1.out).mono ?_
    rintro r w1 ⟨rfl, rfl⟩
    go_wp2
    go_ret
    exact ⟨ret_int (by simp), rfl⟩
  | some v =>
    rw [hq] at k2
    simp only [Option.isSome_some] at k2
    clear hq
    go_enter Try.func31, Try.ntmps31
    go_wp2_with fail
    refine (rlen_any _ _ _ _ _ _ _ H1.out).mono ?_
    rintro r w1 ⟨rfl, rfl⟩
    go_wp2
    go_ret
    exact ⟨ret_int (by simp), rfl⟩
set_option maxRecDepth 100000 in
set_option maxHeartbeats 1000000 in
theorem llist_any (w : World) (p g N : Nat) (q : LQ) (h : LocAt w p g N q) :
    Calls Try.prog 9 #[.pointer (some ⟨p, 0, none⟩)] w fun r w' => ∃ b, r = .returned (.slice (some ⟨b, 0, none⟩) q.l.length q.l.length) ∧ w.heap.size ≤ b ∧ RowAt w' (some ⟨b, 0, none⟩) q.l.length q.l ∧ Below w.heap.size w w' := by
  obtain ⟨⟨e, h1⟩, -⟩ := h
  have H1 := Lib.hid h1; clear h1
  go_enter Try.func9, Try.ntmps9
  go_wp2_with fail
  refine (rlist_any _ _ _ _ _ _ _ H1.out).mono ?_
  rintro r w1 ⟨b, rfl, k⟩
  have K := Lib.hid k; clear k
  go_wp2
  go_ret
  exact ⟨b, rfl, K.out⟩
set_option maxRecDepth 100000 in
set_option maxHeartbeats 2000000 in
theorem lput_any (w : World) (p g N b : Nat) (q : LQ) (gl : List Int) (F : List Nat) (v : Int) (h : LocAt w p g N q) (hg : GloAt w b gl F) (hp : p ∉ F) (hgF : g ∉ F) (hl : gl.length ≤ 1000000) :
    Calls Try.prog 18 #[.pointer (some ⟨p, 0, none⟩), .int .i64 v, .pointer (some ⟨b, 0, none⟩)] w fun r w' => r = .returned (.int .i64 ((mPut N q v gl).2.2 : Int)) ∧ LocAt w' p g N (mPut N q v gl).1 ∧
      Chg (p :: g :: F) w w' ∧ ∃ F', GloAt w' b (mPut N q v gl).2.1 F' ∧ ∀ x ∈ F', x ∈ F ∨ w.heap.size ≤ x := by
  obtain ⟨e, h1⟩ := h.1
  have ll := h1.ll
  have n2 := h1.n2
  have H := Lib.hid h; clear h
  have H1 := Lib.hid h1
  have HG := Lib.hid hg
  have HD : Hid (p ∉ F ∧ g ∉ F) := Lib.hid ⟨hp, hgF⟩
  obtain ⟨hpl, hgl⟩ := h1.lt
  have hgp := h1.ne
  clear h1 hp hgF hg
  by_cases hroom : q.l.length < N
  · have e1 : mPut N q v gl = (⟨q.nx, q.l ++ [v]⟩, gl, 0) := by unfold mPut; rw [if_pos hroom]
    rw [e1]
    clear e1
    have HR := Lib.hid hroom
    go_enter Try.func18, Try.ntmps18
    go_wp2_with fail
    refine (push_any _ _ _ _ _ _ _ v H1.out HR.out).mono ?_
    rintro r w1 ⟨rfl, k1, k2⟩
    have hfin : LocAt w1 p g N ⟨q.nx, q.l ++ [v]⟩ ∧ Chg (p :: g :: F) w w1 ∧ ∃ F', GloAt w1 b gl F' ∧ ∀ x ∈ F', x ∈ F ∨ w.heap.size ≤ x :=
      ⟨H.out.ring k1 k2, k2.chg.mono (fun x hx => by simp at hx ⊢; omega), F, HG.out.chg k2.chg (fun x hx hc => by simp at hc; rcases hc with rfl | rfl; exact HD.out.1 hx; exact HD.out.2 hx), fun x hx => .inl hx⟩
    have HFIN := Lib.hid hfin
    clear hfin k1 k2
    go_wp2
    go_ret
    exact ⟨rfl, HFIN.out⟩
  · have e1 : mPut N q v gl = (⟨q.nx, q.l.drop (q.l.length / 2)⟩, gl ++ (q.l.take (q.l.length / 2) ++ [v]), q.l.length / 2 + 1) := by unfold mPut; rw [if_neg hroom]
    rw [e1]
    clear e1
    have HR := Lib.hid hroom
    obtain ⟨n, hn⟩ : ∃ n, n = q.l.length := ⟨_, rfl⟩
    obtain ⟨k, hk⟩ : ∃ k, k = n / 2 := ⟨_, rfl⟩
    rw [← hn, ← hk]
    rw [← hn] at ll hroom
    have hkn : k ≤ n := by omega
    have hquo : (n : Int).tdiv 2 = (k : Int) := by rw [hk, Int.tdiv_eq_ediv_of_nonneg (by omega)]; rfl
    have hw : IntKind.i64.wrap (k : Int) = (k : Int) := by rw [IntKind.wrap_i64]; omega
    have hT : takes (k : Int) q.l.length = k := by unfold takes; omega
    have HT := Lib.hid hT
    have HN := Lib.hid hn
    clear hT hn hk
    obtain ⟨i0, hi0, hz0, hz1, hz2⟩ := info_parts info_int
    have Hi := Lib.hid hi0; clear hi0
    have Hz0 := Lib.hid hz0; clear hz0
    have Hz1 := Lib.hid hz1; clear hz1
    have Hz2 := Lib.hid hz2; clear hz2
    go_enter Try.func18, Try.ntmps18
    go_wp2_with fail
    refine (push_full _ _ _ _ _ _ _ v H1.out HR.out).mono ?_
    rintro r w1 ⟨rfl, k1, k2⟩
    have R1 := Lib.hid k1
    have C1 := Lib.hid k2
    obtain ⟨hpl1, hgl1⟩ := k1.lt
    clear k1 k2
    go_wp2_with fail
    go_region_law (first
      | (go_simp; go_at_call 39; refine (rlen_any _ p 2 g N e q.l (by first | exact R1.out.below (below_drew1 _) | exact R1.out.below ((below_drew1 _).alloc (by simp) _) | exact R1.out.below (below_alloc1 _ _).drew)).mono ?_; rw [← HN.out]; rintro r w2 ⟨rfl, rfl⟩)
      | (go_simp; go_at_call 38; refine (rtake_any _ p 2 g N e q.l _ (by first | exact R1.out.below (below_drew1 _) | exact R1.out.below ((below_drew1 _).alloc (by simp) _) | exact R1.out.below (below_alloc1 _ _).drew)).mono ?_; rw [HT.out]; rintro r w3 ⟨bq, eq, rfl, k3, k4, k5, k6⟩)
      | (refine step_append_row (l := q.l.take k) (m := [v]) (by rfl) _ _ 35 (by rfl) 3 i0 _ Try.underlying35 Hi.out Hz0.out Hz1.out Hz2.out rfl (by rfl) (by rfl) (by rw [List.length_take, ← HN.out]; omega) (by rfl) (by first | exact k4 | exact k4.below (below_alloc1 _ _)) (by first | exact (RowAt.one _ _ _ rfl).ints | exact ((RowAt.one w1.drew v 3 (b := w1.heap.size) rfl).chg k6.chg (one_far hpl1 hgl1)).ints) (by rw [List.length_take, List.length_singleton]; omega) ?_; intro a2 c2 w4 k7 c7 f7))
    all_goals
      have c34 : Chg (blk (some ⟨bq, 0, none⟩)) w3 w4 := by first | exact c7 | exact (Chg.of_below (below_alloc1 _ _)).trans c7 (fun x hx => .inl hx)
      have r13 : RChg p 2 g w1 w3 := by first | exact (RChg.of_below hpl1 (below_drew1 _)).trans k6 | exact (RChg.of_below hpl1 ((below_drew1 _).alloc (Nat.le_refl _) _)).trans k6
      have hbq : w1.heap.size ≤ bq := by first | exact k3 | exact Nat.le_trans (by simp) k3
      have hpl3 := k5.lt
      have r4 := k5.chg c34 (by simp [blk]; omega) (by simp [blk]; omega)
      have r14 := r13.more c34 (by simp [blk]; omega) (fun x hx => by simp [blk] at hx; omega) hpl3.1
      have L4 := (H.out.ring R1.out C1.out).ring r4 r14
      have G4 := (HG.out.chg C1.out.chg (fun x hx hc => by simp at hc; rcases hc with rfl | rfl; exact HD.out.1 hx; exact HD.out.2 hx)).chg r14.chg (fun x hx hc => by simp at hc; rcases hc with rfl | rfl; exact HD.out.1 hx; exact HD.out.2 hx)
      have C4 := C1.out.chg.trans r14.chg (fun x hx => .inl hx)
      have HL4 := Lib.hid L4
      have HG4 := Lib.hid G4
      have HC4 := Lib.hid C4
      have HI := Lib.hid k7.ints
      clear L4 G4 C4 r14 r4 hpl3 hbq r13 c34 k3 k4 k5 k6 k7 c7 f7
      go_wp2_with fail
      refine (gput_any w4 b gl F HG4.out a2 (k + 1) c2 (q.l.take k ++ [v]) (by rw [List.length_append, List.length_take, List.length_singleton, ← HN.out]; omega) HI.out (by rw [List.length_append, List.length_take, List.length_singleton, ← HN.out]; omega)).mono ?_
      rintro r w5 ⟨rfl, c5, F', k8, k9⟩
      have hfin : LocAt w5 p g N ⟨q.nx, q.l.drop k⟩ ∧ Chg (p :: g :: F) w w5 ∧ ∃ F', GloAt w5 b (gl ++ (q.l.take k ++ [v])) F' ∧ ∀ x ∈ F', x ∈ F ∨ w.heap.size ≤ x := by
        refine ⟨HL4.out.chg c5 HD.out.1 HD.out.2, (HC4.out.mono (fun x hx => by simp at hx ⊢; omega)).trans c5 (fun x hx => .inl (by simp [hx])), F', k8, fun x hx => ?_⟩
        rcases k9 x hx with h | h
        · exact .inl h
        · exact .inr (Nat.le_trans HC4.out.size h)
      have HFIN := Lib.hid hfin
      clear hfin c5 k8 k9
      go_wp2
      go_ret
      exact ⟨ret_int (by simp), HFIN.out⟩
set_option maxRecDepth 100000 in
set_option maxHeartbeats 1000000 in
theorem lturn_any (w : World) (p g N b : Nat) (q : LQ) (gl : List Int) (F : List Nat) (h : LocAt w p g N q) (hg : GloAt w b gl F) (hp : p ∉ F) (hgF : g ∉ F) (hl : gl.length ≤ 1000000) :
    Calls Try.prog 26 #[.pointer (some ⟨p, 0, none⟩), .pointer (some ⟨b, 0, none⟩)] w fun r w' => r = .returned (.int .i64 ((mTurn N q gl).2.2 : Int)) ∧ LocAt w' p g N ⟨none, (mTurn N q gl).1.l⟩ ∧
      Chg (p :: g :: F) w w' ∧ ∃ F', GloAt w' b (mTurn N q gl).2.1 F' ∧ ∀ x ∈ F', x ∈ F ∨ w.heap.size ≤ x := by
  have H := Lib.hid h; clear h
  have HG := Lib.hid hg; clear hg
  have HD : Hid (p ∉ F ∧ g ∉ F) := Lib.hid ⟨hp, hgF⟩
  clear hp hgF
  cases hq : q.nx with
  | none =>
    have e1 : mTurn N q gl = (q, gl, 0) := by unfold mTurn; rw [hq]
    have e2 : q.nx.isSome = false := by rw [hq]; rfl
    rw [e1]
    have hc := ltake_any w p g N q H.out
    rw [e2] at hc
    have HC := Lib.hid hc
    clear e1 e2 hq hc
    go_enter Try.func26, Try.ntmps26
    go_wp2_with fail
    refine HC.out.mono ?_
    rintro r w1 ⟨rfl, h1, c1⟩
    have hfin : LocAt w1 p g N ⟨none, q.l⟩ ∧ Chg (p :: g :: F) w w1 ∧ ∃ F', GloAt w1 b gl F' ∧ ∀ x ∈ F', x ∈ F ∨ w.heap.size ≤ x :=
      ⟨h1, c1.mono (fun x hx => by simp at hx ⊢; omega), F, HG.out.chg c1 (fun x hx hc => by simp at hc; rcases hc with rfl | rfl; exact HD.out.1 hx; exact HD.out.2 hx), fun x hx => .inl hx⟩
    have HFIN := Lib.hid hfin
    clear hfin h1 c1
    go_wp2
    go_ret
    exact ⟨rfl, HFIN.out⟩
  | some v =>
    have e1 : mTurn N q gl = mPut N ⟨none, q.l⟩ v gl := by unfold mTurn; rw [hq]
    have e2 : q.num = v := by unfold LQ.num; rw [hq]; rfl
    have e4 : q.nx.isSome = true := by rw [hq]; rfl
    have e3 : (mPut N ⟨none, q.l⟩ v gl).1 = ⟨none, (mPut N ⟨none, q.l⟩ v gl).1.l⟩ := by unfold mPut; split <;> rfl
    have hp2 := fun w1 h1 h2 => lput_any w1 p g N b ⟨none, q.l⟩ gl F v h1 h2 HD.out.1 HD.out.2 hl
    obtain ⟨M, hM⟩ : ∃ M, M = mPut N ⟨none, q.l⟩ v gl := ⟨_, rfl⟩
    rw [e1]
    rw [← hM] at e3 hp2 ⊢
    have hc := ltake_any w p g N q H.out
    rw [e2, e4] at hc
    have HC := Lib.hid hc
    have HP := Lib.hid hp2
    have E3 := Lib.hid e3
    clear e1 e2 e3 e4 hq hc hp2 hM
    go_enter Try.func26, Try.ntmps26
    go_wp2_with fail
    refine HC.out.mono ?_
    rintro r w1 ⟨rfl, h1, c1⟩
    have G1 := Lib.hid (HG.out.chg c1 (fun x hx hc => by simp at hc; rcases hc with rfl | rfl; exact HD.out.1 hx; exact HD.out.2 hx))
    have H1 := Lib.hid h1
    have C1 := Lib.hid c1
    clear h1 c1 HC
    go_wp2_with fail
    refine (HP.out _ H1.out G1.out).mono ?_
    rintro r w2 ⟨rfl, h2, c2, F', h3, h4⟩
    have hfin : LocAt w2 p g N ⟨none, M.1.l⟩ ∧ Chg (p :: g :: F) w w2 ∧ ∃ F', GloAt w2 b M.2.1 F' ∧ ∀ x ∈ F', x ∈ F ∨ w.heap.size ≤ x := by
      refine ⟨by rw [← E3.out]; exact h2, (C1.out.mono (fun x hx => by simp at hx ⊢; omega)).trans c2 (fun x hx => .inl hx), F', h3, fun x hx => ?_⟩
      rcases h4 x hx with h | h
      · exact .inl h
      · exact .inr (Nat.le_trans C1.out.size h)
    have HFIN := Lib.hid hfin
    clear hfin h2 c2 h3 h4
    go_wp2
    go_ret
    exact ⟨rfl, HFIN.out⟩
set_option maxRecDepth 100000 in
set_option maxHeartbeats 1000000 in
theorem lready_any (w : World) (p g N b : Nat) (q : LQ) (gl : List Int) (F : List Nat) (v : Int) (h : LocAt w p g N q) (hg : GloAt w b gl F) (hp : p ∉ F) (hgF : g ∉ F) (hl : gl.length ≤ 1000000) :
    Calls Try.prog 13 #[.pointer (some ⟨p, 0, none⟩), .int .i64 v, .pointer (some ⟨b, 0, none⟩)] w fun r w' => r = .returned (.int .i64 ((mReady N q v gl).2.2 : Int)) ∧ LocAt w' p g N (mReady N q v gl).1 ∧
      Chg (p :: g :: F) w w' ∧ ∃ F', GloAt w' b (mReady N q v gl).2.1 F' ∧ ∀ x ∈ F', x ∈ F ∨ w.heap.size ≤ x := by
  have H := Lib.hid h; clear h
  have HG := Lib.hid hg; clear hg
  have HD : Hid (p ∉ F ∧ g ∉ F) := Lib.hid ⟨hp, hgF⟩
  clear hp hgF
  unfold mReady
  have ht := lturn_any w p g N b q gl F H.out HG.out HD.out.1 HD.out.2 hl
  obtain ⟨M, hM⟩ : ∃ M, M = mTurn N q gl := ⟨_, rfl⟩
  rw [← hM] at ht ⊢
  have HTT := Lib.hid ht
  clear ht hM
  go_enter Try.func13, Try.ntmps13
  go_wp2_with fail
  refine HTT.out.mono ?_
  rintro r w1 ⟨rfl, h1, c1, F', h2, h3⟩
  obtain ⟨s1, s2⟩ := h1.setNext (some v)
  have hFn : p ∉ F' ∧ g ∉ F' := ⟨fun hx => by rcases h3 p hx with h | h; exact HD.out.1 h; exact absurd H.out.lt.1 (by omega), fun hx => by rcases h3 g hx with h | h; exact HD.out.2 h; exact absurd H.out.lt.2 (by omega)⟩
  have hfin : LocAt ((w1.setCell ⟨p, 0, none⟩ (.bool true)).setCell ⟨p, 1, none⟩ (.int .i64 v)) p g N ⟨some v, M.1.l⟩ ∧ Chg (p :: g :: F) w ((w1.setCell ⟨p, 0, none⟩ (.bool true)).setCell ⟨p, 1, none⟩ (.int .i64 v)) ∧
      ∃ F', GloAt ((w1.setCell ⟨p, 0, none⟩ (.bool true)).setCell ⟨p, 1, none⟩ (.int .i64 v)) b M.2.1 F' ∧ ∀ x ∈ F', x ∈ F ∨ w.heap.size ≤ x :=
    ⟨s1, c1.trans s2 (fun x hx => by simp at hx; simp; omega), F', h2.chg s2 (fun x hx hc => by simp at hc; rcases hc with rfl | rfl; exact hFn.1 hx; exact hFn.2 hx), h3⟩
  have HFIN := Lib.hid hfin
  obtain ⟨-, ⟨k2, f2⟩, k4, f4⟩ := h1
  clear hfin hFn s1 s2 h2 h3 c1
  go_wp2
  go_ret
  exact ⟨rfl, HFIN.out⟩
/-- Who goes on, as what a call answers. -/
def gotv (x : Option Int) : Value := .tuple #[.int .i64 (x.getD (-1)), .bool x.isSome]
set_option maxRecDepth 100000 in
set_option maxHeartbeats 1000000 in
theorem lget_any (w : World) (p g N : Nat) (q : LQ) (h : LocAt w p g N q) :
    Calls Try.prog 14 #[.pointer (some ⟨p, 0, none⟩)] w fun r w' => r = .returned (gotv (mGet q).2) ∧ LocAt w' p g N (mGet q).1 ∧ Chg [p, g] w w' := by
  have H := Lib.hid h; clear h
  go_enter Try.func14, Try.ntmps14
  go_wp2_with fail
  refine (ltake_any _ _ _ _ _ H.out).mono ?_
  rintro r w1 ⟨rfl, h1, c1⟩
  have H1 := Lib.hid h1
  have C1 := Lib.hid c1
  clear h1 c1
  obtain ⟨nx, l⟩ := q
  cases nx with
  | some v =>
    simp only [LQ.num, Option.getD_some, Option.isSome_some]
    go_wp2
    go_ret2
    exact ⟨rfl, H1.out, C1.out⟩
  | none =>
    obtain ⟨⟨e, r1⟩, -⟩ := H1.out
    cases l with
    | nil =>
      simp only [LQ.num, Option.getD_none, Option.isSome_none]
      have R1 := Lib.hid r1; clear r1
      go_wp2_with fail
      refine (pop_none _ _ _ _ _ _ R1.out).mono ?_
      rintro r w2 ⟨rfl, h2, c2⟩
      have H2 := Lib.hid (H1.out.ring h2 c2)
      have C2 := Lib.hid (C1.out.trans c2.chg (fun x hx => .inl hx))
      clear h2 c2
      go_wp2
      go_ret2
      exact ⟨rfl, H2.out, C2.out⟩
    | cons x t =>
      simp only [LQ.num, Option.getD_none, Option.isSome_none]
      have R1 := Lib.hid r1; clear r1
      go_wp2_with fail
      refine (pop_any _ _ _ _ _ _ _ _ R1.out).mono ?_
      rintro r w2 ⟨rfl, h2, c2⟩
      have H2 := Lib.hid (H1.out.ring h2 c2)
      have C2 := Lib.hid (C1.out.trans c2.chg (fun x hx => .inl hx))
      clear h2 c2
      go_wp2
      go_ret2
      exact ⟨rfl, H2.out, C2.out⟩
set_option maxRecDepth 100000 in
set_option maxHeartbeats 1000000 in
theorem lnew_any (z : Int) (w : World) : Calls Try.prog 12 #[.int .i64 z] w fun r w' => ∃ p g, r = .returned (.pointer (some ⟨p, 0, none⟩)) ∧ LocAt w' p g (roomOf z) ⟨none, []⟩ ∧ w.heap.size ≤ p ∧ w.heap.size ≤ g ∧ Below w.heap.size w w' := by
  have hr := rnew_any z w
  generalize roomOf z = N at hr ⊢
  have HR := Lib.hid hr
  clear hr
  go_enter Try.func12, Try.ntmps12
  go_wp2_with fail
  refine HR.out.mono ?_
  rintro r w1 ⟨p0, g, rfl, h1, h2, h3, h4⟩
  have c0 := h1.c0
  have c1 := h1.c1
  have c2 := h1.c2
  have hs : ∀ o : Obj, o = .cells #[.bool false, .int .i64 0, .slice (some ⟨g, 0, none⟩) N N, .int .i64 0, .int .i64 0] 68 → LocAt (w1.alloc o) w1.heap.size g N ⟨none, []⟩ ∧ w.heap.size ≤ w1.heap.size ∧ w.heap.size ≤ g ∧ Below w.heap.size w (w1.alloc o) := fun o ho => by
    subst ho
    obtain ⟨cs, r1, r2, r3⟩ := h1.row
    have hgl := h1.lt.2
    have hB := Blk.mk w1 [.bool false, .int .i64 0, .slice (some ⟨g, 0, none⟩) N N, .int .i64 0, .int .i64 0] 68 _ rfl
    exact ⟨⟨⟨0, h1.n1, h1.n2, by simp, by have := h1.n1; omega, by omega, (hB 2 _ rfl).1, (hB 3 _ rfl).1, (hB 4 _ rfl).1, (hB 3 _ rfl).2, (hB 4 _ rfl).2, Plain.new _ _ _ rfl, cs, r1, r2.alloc _, fun i hi => by simp at hi⟩, hB 0 _ rfl, hB 1 _ rfl⟩, h4.size, h3, h4.alloc h4.size _⟩
  have HS := Lib.hid hs
  clear hs h1
  go_wp2
  go_ret
  exact ⟨_, g, rfl, HS.out _ rfl⟩
end Go.Proofs.Ytmldfckeenahlaa
