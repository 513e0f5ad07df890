/-
  The walk of a heap's Wake.
-/
import Derived.Test.YtljdckipnbdknaaWHeap4
open Go Go.RowKit
set_option linter.unusedVariables false
namespace Go.Proofs.Ytljdckipnbdknaa
/-- Who wakes by then; the others. -/
def wakeF : Nat → List It → Int → List It × List It
  | 0, l, _ => ([], l)
  | f + 1, l, now => if 0 < l.length ∧ (gI l 0).at_ ≤ now then (gI l 0 :: (wakeF f (remF l 0) now).1, (wakeF f (remF l 0) now).2) else ([], l)
def wakes (l : List It) (now : Int) : List It × List It := wakeF l.length l now
theorem wakes_go {l : List It} {now : Int} (h : 0 < l.length) (h2 : (gI l 0).at_ ≤ now) : wakes l now = (gI l 0 :: (wakes (remF l 0) now).1, (wakes (remF l 0) now).2) := by
  unfold wakes
  rw [remF_len h]
  obtain ⟨n, hn⟩ : ∃ n, l.length = n + 1 := ⟨l.length - 1, by omega⟩
  rw [hn, wakeF, if_pos ⟨h, h2⟩, Nat.add_sub_cancel]
theorem wakes_stop {l : List It} {now : Int} (h : ¬ (0 < l.length ∧ (gI l 0).at_ ≤ now)) : wakes l now = ([], l) := by
  unfold wakes
  cases hn : l.length with
  | zero => rw [wakeF]
  | succ n => rw [wakeF, if_neg h]
def lenV : Value → Nat
  | .slice _ n _ => n
  | _ => 0
def itc (x : It) : List Value := [.int .u64 x.at_, .int .u64 x.seq, .int .i64 x.id]
/-- In the midst of Wake. -/
def WakeSt (w : World) (p : Nat) (v : Value) (nx : Nat) (T : List It × List It) (now : Int) (N : Nat) (W : World) (v5 : Value) (b : Nat) (pre l' : List It) (v' : Value) (x : It) : Prop :=
  (pre ++ (wakes l' now).1, (wakes l' now).2) = T ∧ pre.length + l'.length = N ∧ HeapAt W p v' l' nx ∧ v'.ownBlock = v.ownBlock ∧ Chg (foot p v) w W ∧ ItemsAt W v5 pre ∧ (∀ y ∈ v5.ownBlock.toList, w.heap.size ≤ y ∧ y ≠ b) ∧ Blk W b (itc x) ∧ w.heap.size ≤ b ∧ (0 < l'.length → x = gI l' 0)
theorem foot_lt {w : World} {p : Nat} {v : Value} {l : List It} {nx : Nat} (h : HeapAt w p v l nx) : ∀ x ∈ foot p v, x < w.heap.size := fun x hx => by
  simp only [foot, List.mem_cons] at hx
  rcases hx with rfl | hx
  · exact h.lt.1
  · exact h.lt.2 x hx
theorem foot_eq {p : Nat} {v v' : Value} (h : v'.ownBlock = v.ownBlock) : foot p v' = foot p v := by simp only [foot, h]
/-- What Wake comes to. -/
def Woke (w : World) (p : Nat) (v : Value) (nx : Nat) (T : List It × List It) (r : Ending) (w' : World) : Prop :=
  ∃ v5 v', r = .returned v5 ∧ ItemsAt w' v5 T.1 ∧ (∀ y ∈ v5.ownBlock.toList, w.heap.size ≤ y) ∧ HeapAt w' p v' T.2 nx ∧ v'.ownBlock = v.ownBlock ∧ Chg (foot p v) w w'
set_option maxRecDepth 100000 in
set_option maxHeartbeats 2000000 in
theorem wake_any (w : World) (p : Nat) (v : Value) (l : List It) (nx : Nat) (now : Int) (h : HeapAt w p v l nx) (hl : l.length ≤ 100000) :
    Calls Try.prog 12 #[.pointer (some ⟨p, 0, none⟩), .int .u64 now] w (Woke w p v nx (wakes l now)) := by
  have hft := foot_lt h
  have HFT := Lib.hid hft; clear hft
  obtain ⟨T, hT⟩ : ∃ T, T = wakes l now := ⟨_, rfl⟩
  rw [← hT]
  have HT := Lib.hid hT; clear hT
  -- Min, whatever there is
  have hmin : ∀ W v' l', HeapAt W p v' l' nx → Calls Try.prog 13 #[.pointer (some ⟨p, 0, none⟩)] W fun r w' => ∃ x ok, r = .returned (.tuple #[itv x, .bool ok]) ∧ (ok = true ↔ 0 < l'.length) ∧ (0 < l'.length → x = gI l' 0) ∧ Below W.heap.size W w' := fun W v' l' h' => by
    by_cases h0 : 0 < l'.length
    · exact (hmin_any W p v' l' nx h' h0).mono fun r w' ⟨e1, e2⟩ => ⟨_, _, e1, by simp [h0], fun _ => rfl, e2⟩
    · have : l' = [] := List.length_eq_zero_iff.1 (by omega)
      subst this
      exact (hmin_none W p v' nx h').mono fun r w' ⟨e1, e2⟩ => ⟨_, _, e1, by simp, fun h => by simp at h, e2⟩
  have HMIN := Lib.hid hmin; clear hmin
  have H := Lib.hid h; clear h
  have HL := Lib.hid hl; clear hl
  obtain ⟨i0, hi0, hz0, hz1, hz2⟩ := info_parts info_item
  have Hi := Lib.hid hi0; clear hi0
  have Hz0 := Lib.hid hz0; clear hz0
  have Hz1 := Lib.hid hz1; clear hz1
  have Hz2 := Lib.hid hz2; clear hz2
  go_enter Try.func12, Try.ntmps12
  go_wp2_with fail
  refine (HMIN.out w v l H.out).mono ?_
  rintro r w1 ⟨x, ok, rfl, e1, e2, b1⟩
  have hst : WakeSt w p v nx T now l.length (w1.alloc (.cells (itc x).toArray 43)) (.slice none 0 0) w1.heap.size [] l v x :=
    have b2 := below_on b1 (below_alloc1 w1 (.cells (itc x).toArray 43))
    ⟨by rw [HT.out]; rfl, by simp, H.out.below b2, rfl, Chg.of_below b2, ItemsAt.nil _, fun y hy => by simp [Value.ownBlock] at hy, Blk.mk _ _ _ _ rfl, b1.size, e2⟩
  have HST := Lib.hid hst
  have E1 := Lib.hid e1
  clear hst e1 e2 b1
  obtain ⟨xa, xs, xi⟩ := x
  unfold itv
  unfold itc at HST
  go_wp2_with fail
  go_loopw [5, 6, 7] (fun t5 t6 t7 wr => ∃ b a5 n5 c5 pre l' v' xa xs xi ok, t5 = .slice a5 n5 c5 ∧ t6 = .pointer (some ⟨b, 0, none⟩) ∧ t7 = .bool ok ∧ n5 ≤ l.length ∧ Hid ((ok = true ↔ 0 < l'.length) ∧ n5 = pre.length ∧ WakeSt w p v nx T now l.length wr (.slice a5 n5 c5) b pre l' v' ⟨xa, xs, xi⟩)) (fun t5 _ _ _ => l.length - lenV t5)
  case atStart => exact ⟨_, _, _, _, [], l, v, xa, xs, xi, ok, rfl, rfl, rfl, by omega, E1.out, rfl, HST.out⟩
  case round =>
    obtain ⟨b, a5, n5, c5, pre, l', v', xa, xs, xi, ok, rfl, rfl, rfl, hn5, hr⟩ := hrel
    obtain ⟨hok, hn5', S⟩ := hr.out
    obtain ⟨s1, s2, s3, s4, s5, s6, s7, s8, s9, s10⟩ := S
    have hexit : ¬ (0 < l'.length ∧ (gI l' 0).at_ ≤ now) → Woke w p v nx T (.returned (.slice a5 n5 c5)) wr := fun h => by
      rw [wakes_stop h] at s1
      rw [← s1]
      exact ⟨_, v', rfl, by simpa using s6, fun y hy => (s7 y hy).1, s3, s4, s5⟩
    have HEXIT := Lib.hid hexit; clear hexit
    cases ok with
    | false =>
      have hE := HEXIT.out (fun h => by have := hok.2 h.1; cases this)
      have HE := Lib.hid hE
      clear hE hok s1 s2 s3 s4 s5 s6 s7 s8 s9 s10 hn5' hr
      go_wp2
      go_ret
      exact HE.out
    | true =>
      have h0 : 0 < l'.length := hok.1 rfl
      have hx := s10 h0
      obtain ⟨g0, -⟩ := s8 0 _ rfl
      obtain ⟨g1, -⟩ := s8 1 _ rfl
      obtain ⟨g2, -⟩ := s8 2 _ rfl
      simp only at g0 g1 g2
      by_cases hat : xa ≤ now
      · have hgo := wakes_go h0 (by rw [← hx]; exact hat)
        have hown0 : ∀ o, (wr.alloc o).ownsRow 0 43 3 (.slice a5 n5 c5) n5 (icells pre) := fun o => by have h := s6.below (below_alloc1 wr o); unfold ItemsAt at h; rw [← hn5'] at h; exact h
        have HOWN := Lib.hid hown0
        have HS : Hid (WakeSt w p v nx T now l.length wr (.slice a5 n5 c5) b pre l' v' ⟨xa, xs, xi⟩) := hr.out.2.2
        have HN5 := Lib.hid hn5'
        have HGO := Lib.hid hgo
        have HX := Lib.hid hx
        have H0 := Lib.hid h0
        have hn5b : n5 ≤ 100000 := by have := HL.out; omega
        clear s1 s2 s3 s4 s5 s6 s7 s8 s9 s10 hok hn5' hgo hx hr hown0 h0 HEXIT
        go_wp2_with (at_builtin; go_loud (refine wpList_append_lies _ rfl _ _ 24 rfl 0 43 i0 _ 3 24 Try.underlying24 Hi.out Hz0.out Hz1.out Hz2.out rfl (by decide) _ n5 (icells pre) rfl (HOWN.out _) ⟨wr.heap.size, 0, none⟩ 1 1 [.int .u64 xa, .int .u64 xs, .int .i64 xi] rfl rfl (three_new _ _ _ _ _ rfl) (by simp [Value.oneCell']) (by omega) (by unfold maxLen; omega) (by omega) (Nat.zero_le _) (wr.heap.size + 1) (by simp) ?_))
        intro g c2 w2 hown hgr hlies hglt
        obtain ⟨s1, s2, s3, s4, s5, s6, s7, s8, s9, s10⟩ := HS.out
        have hc1 : Chg ((Value.slice a5 n5 c5).ownBlock.toList) wr w2 := (Chg.of_below (below_alloc1 _ _)).trans (grownBy_chg hgr) (fun x hx => .inl hx)
        have hfl : ∀ y ∈ foot p v', y < w.heap.size := by rw [foot_eq s4]; exact HFT.out
        have hH2 : HeapAt w2 p v' l' nx := s3.chg hc1 (fun hp => by have := (s7 p hp).1; have := hfl p (by simp [foot]); omega) (fun y hy hy2 => by have := (s7 y hy2).1; have := hfl y (by simp only [foot, List.mem_cons]; exact .inr hy); omega)
        have hB2 : Blk w2 b (itc ⟨xa, xs, xi⟩) := s8.chg hc1 (fun hb => (s7 b hb).2 rfl)
        have hI2 : ItemsAt w2 (.slice (some ⟨g, 0, none⟩) (n5 + 1) c2) (pre ++ [⟨xa, xs, xi⟩]) := by
          unfold ItemsAt
          rw [List.length_append, ← HN5.out, icells_app]; exact hown
        have hgw : w.heap.size ≤ g := by
          rcases hlies with h | h
          · exact (s7 g (by rw [h]; simp)).1
          · have := s5.size; omega
        have hsz2 : w.heap.size ≤ w2.heap.size := Nat.le_trans s5.size hc1.size
        have hC2 : Chg (foot p v) w w2 := s5.trans hc1 (fun y hy => .inr (s7 y hy).1)
        have hbw : b < w2.heap.size := hB2.lt (by simp [itc])
        have hrem := remove_any w2 p v' l' nx 0 hH2 H0.out (by have := HL.out; omega)
        rw [foot_eq s4] at hrem
        have HREM := Lib.hid hrem
        have HI2 := Lib.hid hI2
        have HB2 := Lib.hid hB2
        have HC2 := Lib.hid hC2
        have HG : Hid (w.heap.size ≤ g ∧ w.heap.size ≤ b ∧ b < w2.heap.size ∧ g < w2.heap.size ∧ w.heap.size ≤ w2.heap.size) := ⟨hgw, s9, hbw, hglt, hsz2⟩
        have HT2 : Hid (v'.ownBlock = v.ownBlock ∧ pre.length + l'.length = l.length ∧ (pre ++ (wakes l' now).1, (wakes l' now).2) = T) := ⟨s4, s2, s1⟩
        clear s1 s2 s3 s4 s5 s6 s7 s8 s9 s10 hc1 hfl hH2 hB2 hI2 hgw hC2 hrem hown hgr hlies hglt hbw hsz2 HOWN g0 g1 g2
        go_wp2_with fail
        refine HREM.out.mono ?_
        rintro r w3 ⟨v3, rfl, k1, k2, k3⟩
        have hB3 : Blk w3 b (itc ⟨xa, xs, xi⟩) := HB2.out.chg k3 (fun hb => by have := HFT.out b hb; have := HG.out.2.1; omega)
        have hI3 := HI2.out.chg k3 (fun y hy hy2 => by simp [Value.ownBlock] at hy; subst hy; have := HFT.out y hy2; have := HG.out.1; omega)
        obtain ⟨g0, -⟩ := hB3 0 _ rfl
        obtain ⟨g1, -⟩ := hB3 1 _ rfl
        obtain ⟨g2, -⟩ := hB3 2 _ rfl
        simp only at g0 g1 g2
        have hsz3 := k3.size
        have HB3 := Lib.hid hB3
        have HI3 := Lib.hid hI3
        have H3 := Lib.hid k1
        have HV3 := Lib.hid (k2.trans HT2.out.1)
        have HC3 := Lib.hid (HC2.out.trans0 k3)
        clear hB3 hI3 k1 k2 k3
        go_wp2_with fail
        obtain ⟨b', hb'⟩ : ∃ b', b' = w3.heap.size := ⟨_, rfl⟩
        have hNB := Blk.mk w3 [.int .u64 xa, .int .u64 xs, .int .i64 xi] 43 b' hb'
        have hbel4 := below_alloc1 w3 (.cells #[.int .u64 xa, .int .u64 xs, .int .i64 xi] 43)
        refine (HMIN.out _ v3 _ (H3.out.below hbel4)).mono ?_
        rintro r w4 ⟨y, ok', rfl, e1, e2, b4⟩
        obtain ⟨ya, ys, yi⟩ := y
        unfold itv
        have hbx : w.heap.size ≤ b' ∧ g ≠ b' := ⟨by have := HG.out; omega, by have := HG.out; omega⟩
        have hfoot : ∀ y ∈ foot p v3, y ∉ [b'] := fun y hy hc => by rw [foot_eq HV3.out] at hy; have := HFT.out y hy; simp at hc; omega
        have hb34 := below_on hbel4 b4
        have hst : WakeSt w p v nx T now l.length (((w4.setCell ⟨b', 0, none⟩ (.int .u64 ya)).setCell ⟨b', 1, none⟩ (.int .u64 ys)).setCell ⟨b', 2, none⟩ (.int .i64 yi)) (.slice (some ⟨g, 0, none⟩) (n5 + 1) c2) b' (pre ++ [⟨xa, xs, xi⟩]) (remF l' 0) v3 ⟨ya, ys, yi⟩ := by
          have cs : Chg [b'] w4 (((w4.setCell ⟨b', 0, none⟩ (.int .u64 ya)).setCell ⟨b', 1, none⟩ (.int .u64 ys)).setCell ⟨b', 2, none⟩ (.int .i64 yi)) := (((Chg.refl _ _).setCell _ (.inl (by simp))).setCell _ (.inl (by simp))).setCell _ (.inl (by simp))
          refine ⟨?_, ?_, ((H3.out.below hb34).chg cs (fun hp => hfoot p (by simp [foot]) hp) (fun y hy => hfoot y (by simp only [foot, List.mem_cons]; exact .inr hy))), HV3.out, (HC3.out.trans0 (Chg.of_below hb34)).trans cs (fun y hy => .inr (by simp at hy; omega)), (HI3.out.below hb34).chg cs (fun y hy => by simp [Value.ownBlock] at hy; subst hy; simp; exact hbx.2), fun y hy => ?_, (((hNB.below b4).set 0 _).set 1 _).set 2 _, hbx.1, e2⟩
          · rw [← HT2.out.2.2, HGO.out, ← HX.out]; simp
          · have := remF_len H0.out; have := HT2.out.2.1; have := H0.out; rw [List.length_append, List.length_singleton]; omega
          · simp [Value.ownBlock] at hy; subst hy; exact ⟨HG.out.1, hbx.2⟩
        obtain ⟨j0, m0⟩ := (hNB.below b4) 0 _ rfl
        obtain ⟨j1, m1⟩ := (hNB.below b4) 1 _ rfl
        obtain ⟨j2, m2⟩ := (hNB.below b4) 2 _ rfl
        have HST' := Lib.hid hst
        have hn6 : n5 + 1 = (pre ++ [(⟨xa, xs, xi⟩ : It)]).length := by rw [List.length_append, ← HN5.out]; rfl
        have hn7 : n5 + 1 ≤ l.length := by have := HT2.out.2.1; have := H0.out; have := HN5.out; omega
        have HF : Hid ((ok' = true ↔ 0 < (remF l' 0).length) ∧ n5 + 1 = (pre ++ [(⟨xa, xs, xi⟩ : It)]).length ∧ WakeSt w p v nx T now l.length (((w4.setCell ⟨b', 0, none⟩ (.int .u64 ya)).setCell ⟨b', 1, none⟩ (.int .u64 ys)).setCell ⟨b', 2, none⟩ (.int .i64 yi)) (.slice (some ⟨g, 0, none⟩) (n5 + 1) c2) b' (pre ++ [⟨xa, xs, xi⟩]) (remF l' 0) v3 ⟨ya, ys, yi⟩) := ⟨e1, hn6, HST'.out⟩
        rw [← hb']
        clear hst hb34 hfoot hbx b4 e1 e2 hNB hbel4 hb' hn6 hsz3 g0 g1 g2 HST'
        go_wp2
        exact ⟨⟨b', _, _, _, _, _, v3, ya, ys, yi, ok', rfl, rfl, rfl, hn7, HF⟩, by simp [lenV]; omega⟩
      · have hE := HEXIT.out (fun h => by rw [← hx] at h; exact hat h.2)
        have HE := Lib.hid hE
        have hng : ¬ xa ≤ now := hat
        clear hE hok s1 s2 s3 s4 s5 s6 s7 s8 s9 s10 hn5' hr hx h0 hat
        go_wp2
        go_ret
        exact HE.out
end Go.Proofs.Ytljdckipnbdknaa
