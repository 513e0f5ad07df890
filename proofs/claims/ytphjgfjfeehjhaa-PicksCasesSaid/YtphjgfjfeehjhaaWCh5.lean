/-
  Channels: State.
-/
import Derived.Test.YtphjgfjfeehjhaaWCh4
open Go Go.RowKit
set_option linter.unusedVariables false
namespace Go.Proofs.Ytphjgfjfeehjhaa
theorem nil_of_none {w : World} {s cap n : Nat} {cs : List Value} (hs : 0 < s) (h : RowG s w none cap n cs) : cap = 0 ∧ n = 0 ∧ cs = [] := by
  obtain ⟨h1, h2, h3, h4⟩ := h
  rcases h4 with ⟨_, h0⟩ | ⟨_, _, h, _⟩
  · have hn : n = 0 := by omega
    subst hn
    exact ⟨h0, rfl, List.length_eq_zero_iff.1 (by simpa using h1)⟩
  · cases h
set_option maxRecDepth 100000 in
set_option maxHeartbeats 1000000 in
theorem clonei_any (w : World) (a : Option Addr) (n c : Nat) (cs : List Value) (h : RowG 1 w a c n cs) (hone : ∀ u ∈ cs, u.oneCell' = true) (hl : n ≤ 1000000) :
    Calls Try.prog 31 #[.slice a n c] w fun r w' => ∃ a' c', r = .returned (.slice a' n c') ∧ RowG 1 w' a' c' n cs ∧ (∀ x ∈ blk a', w.heap.size ≤ x) ∧ Below w.heap.size w w' := by
  cases a with
  | none =>
    obtain ⟨rfl, rfl, rfl⟩ := nil_of_none (by omega) h
    clear h hone
    have he : ∀ w : World, (binOp .eql 43 (.slice none 0 0) (.slice none 0 0)).run Try.prog w = .ok (.bool true) w := fun _ => rfl
    go_enter Try.func31, Try.ntmps31
    go_wp2
    go_ret
    exact ⟨none, 0, rfl, RowG.nil _ _, fun x hx => by simp [blk] at hx, Below.refl _ _⟩
  | some ad =>
    obtain ⟨i0, hi0, hz0, hz1, hz2⟩ := info_parts info_i6
    have Hi := Lib.hid hi0; clear hi0
    have Hz0 := Lib.hid hz0; clear hz0
    have Hz1 := Lib.hid hz1; clear hz1
    have Hz2 := Lib.hid hz2; clear hz2
    have H := Lib.hid h
    have HO := Lib.hid hone
    clear h hone
    have he : ∀ w : World, (binOp .eql 43 (.slice (some ad) n c) (.slice none 0 0)).run Try.prog w = .ok (.bool false) w := fun _ => rfl
    go_enter Try.func31, Try.ntmps31
    go_wp2_with (at_builtin; refine wpList_append_rowG (m := n) (n := 0) (cs := []) (ds := cs) rfl _ _ 43 rfl 2 i0 _ Try.underlying43 Hi.out Hz0.out Hz1.out Hz2.out rfl (by omega) (by omega) rfl rfl (RowG.zero (by simp)) ((H.out.below (below_alloc1 _ _)).cells) H.out.1 HO.out (by omega) ?_)
    intro a1 c1 w1 k1 ch1 f1
    have hf : RowG 1 w1 a1 c1 n cs ∧ (∀ x ∈ blk a1, w.heap.size ≤ x) ∧ Below w.heap.size w w1 := by
      refine ⟨by simpa using k1, fun x hx => ?_, Chg.below (below_alloc1 _ _) ch1 (fun x hx => by simp [blk] at hx; omega)⟩
      rcases f1 x hx with h | h
      · simp [blk] at h; omega
      · first | omega | (simp at h; omega)
    have HF := Lib.hid hf
    clear hf k1 ch1 f1
    go_wp2
    go_ret
    exact ⟨a1, c1, by simp, HF.out⟩
set_option maxRecDepth 100000 in
set_option maxHeartbeats 1000000 in
theorem clonew_any (w : World) (a : Option Addr) (n c : Nat) (cs : List Value) (h : RowG 3 w a c n cs) (hone : ∀ u ∈ cs, u.oneCell' = true) (hl : n ≤ 1000000) :
    Calls Try.prog 32 #[.slice a n c] w fun r w' => ∃ a' c', r = .returned (.slice a' n c') ∧ RowG 3 w' a' c' n cs ∧ (∀ x ∈ blk a', w.heap.size ≤ x) ∧ Below w.heap.size w w' := by
  cases a with
  | none =>
    obtain ⟨rfl, rfl, rfl⟩ := nil_of_none (by omega) h
    clear h hone
    have he : ∀ w : World, (binOp .eql 46 (.slice none 0 0) (.slice none 0 0)).run Try.prog w = .ok (.bool true) w := fun _ => rfl
    go_enter Try.func32, Try.ntmps32
    go_wp2
    go_ret
    exact ⟨none, 0, rfl, RowG.nil _ _, fun x hx => by simp [blk] at hx, Below.refl _ _⟩
  | some ad =>
    obtain ⟨i0, hi0, hz0, hz1, hz2⟩ := info_parts info_wt
    have Hi := Lib.hid hi0; clear hi0
    have Hz0 := Lib.hid hz0; clear hz0
    have Hz1 := Lib.hid hz1; clear hz1
    have Hz2 := Lib.hid hz2; clear hz2
    have H := Lib.hid h
    have HO := Lib.hid hone
    clear h hone
    have he : ∀ w : World, (binOp .eql 46 (.slice (some ad) n c) (.slice none 0 0)).run Try.prog w = .ok (.bool false) w := fun _ => rfl
    go_enter Try.func32, Try.ntmps32
    go_wp2_with (at_builtin; refine wpList_append_rowG (m := n) (n := 0) (cs := []) (ds := cs) rfl _ _ 46 rfl 62 i0 _ Try.underlying46 Hi.out Hz0.out Hz1.out Hz2.out rfl (by omega) (by omega) rfl rfl (RowG.zero (by simp)) ((H.out.below (below_alloc1 _ _)).cells) H.out.1 HO.out (by omega) ?_)
    intro a1 c1 w1 k1 ch1 f1
    have hf : RowG 3 w1 a1 c1 n cs ∧ (∀ x ∈ blk a1, w.heap.size ≤ x) ∧ Below w.heap.size w w1 := by
      refine ⟨by simpa using k1, fun x hx => ?_, Chg.below (below_alloc1 _ _) ch1 (fun x hx => by simp [blk] at hx; omega)⟩
      rcases f1 x hx with h | h
      · simp [blk] at h; omega
      · first | omega | (simp at h; omega)
    have HF := Lib.hid hf
    clear hf k1 ch1 f1
    go_wp2
    go_ret
    exact ⟨a1, c1, by simp, HF.out⟩
set_option maxRecDepth 100000 in
set_option maxHeartbeats 4000000 in
theorem cstate_any {w0 w : World} {R : List Asr} {p N : Nat} {C : Ch} (h : Own w0 w (ChanA p N C :: R)) (hb : C.buf.length ≤ 100000) (hs : C.S.length ≤ 100000) (hr : C.R.length ≤ 100000) :
    Calls Try.prog 14 #[.pointer (some ⟨p, 0, none⟩)] w fun r w' => ∃ ba bc sa sc ra rc, r = .returned (.agg #[.slice ba C.buf.length bc, .slice sa C.S.length sc, .slice ra C.R.length rc, .bool C.cl]) ∧
      Own w0 w' (RowGA 3 ra rc C.R.length (wtc C.R) :: RowGA 3 sa sc C.S.length (wtc C.S) :: RowGA 1 ba bc C.buf.length (intc C.buf) :: ChanA p N C :: R) ∧ Below w.heap.size w w' := by
  obtain ⟨buf, S, Rv, cl⟩ := C
  simp only at hb hs hr ⊢
  obtain ⟨n1, hn1⟩ : ∃ n, n = buf.length := ⟨_, rfl⟩
  obtain ⟨n2, hn2⟩ : ∃ n, n = S.length := ⟨_, rfl⟩
  obtain ⟨n3, hn3⟩ : ∃ n, n = Rv.length := ⟨_, rfl⟩
  rw [← hn1] at hb
  rw [← hn2] at hs
  rw [← hn3] at hr
  rw [← hn1, ← hn2, ← hn3]
  have H1 := Lib.hid hn1
  have H2 := Lib.hid hn2
  have H3 := Lib.hid hn3
  clear hn1 hn2 hn3
  obtain ⟨ba, bc, sa, sc, ra, rc, h1⟩ := h.chan
  simp only [ccells] at h1
  rw [← H1.out, ← H2.out, ← H3.out] at h1
  obtain ⟨s0, hs0⟩ : ∃ s0, s0 = w.heap.size := ⟨_, rfl⟩
  have hA := h1.alloc [.slice none 0 0, .slice none 0 0, .slice none 0 0, .bool false] 48 hs0
  have hpl : p < w.heap.size := World.block_lt_of_cell? w _ (h1.cel 0 rfl 0 _ rfl).1
  have hps : p ≠ s0 := by omega
  have hbel : Below w.heap.size w (w.alloc (.cells #[.slice none 0 0, .slice none 0 0, .slice none 0 0, .bool false] 48)) := below_alloc1 _ _
  have HBEL := Lib.hid hbel
  have HS0 := Lib.hid hs0
  go_enter Try.func14, Try.ntmps14
  go_upto_region 1 with fail
  rw [← hs0]
  clear h1 h hs0 hbel
  generalize w.alloc (.cells #[.slice none 0 0, .slice none 0 0, .slice none 0 0, .bool false] 48) = W at *
  obtain ⟨g1, -⟩ := hA.cel 1 rfl 1 _ rfl
  obtain ⟨g2, -⟩ := hA.cel 1 rfl 2 _ rfl
  obtain ⟨g3, -⟩ := hA.cel 1 rfl 3 _ rfl
  obtain ⟨g4, -⟩ := hA.cel 1 rfl 4 _ rfl
  have hrow1 := hA.rowG 2 rfl
  have hrow2 := hA.rowG 3 rfl
  have hrow3 := hA.rowG 4 rfl
  have hsl : s0 < W.heap.size := World.block_lt_of_cell? W _ (hA.cel 0 rfl 0 _ rfl).1
  have HST : Hid (CR s0 4 W W) := Lib.hid (CR.start (Room.of_blk (cs := [.slice none 0 0, .slice none 0 0, .slice none 0 0, .bool false]) (hA.cel 0 rfl) hsl))
  have HK : Hid (∀ w', CR s0 4 W w' → w'.cell? ⟨p, 1, none⟩ = some (.slice ba n1 bc) ∧ w'.cell? ⟨p, 2, none⟩ = some (.slice sa n2 sc) ∧ w'.cell? ⟨p, 3, none⟩ = some (.slice ra n3 rc) ∧ w'.cell? ⟨p, 4, none⟩ = some (.bool cl) ∧ CR s0 4 W w') := Lib.hid fun w' c =>
    ⟨cell_chg g1 c.1 (by simp; omega), cell_chg g2 c.1 (by simp; omega), cell_chg g3 c.1 (by simp; omega), cell_chg g4 c.1 (by simp; omega), c⟩
  have HR1 := Lib.hid hrow1
  have HR2 := Lib.hid hrow2
  have HR3 := Lib.hid hrow3
  have HO := Lib.hid hA
  clear g1 g2 g3 g4 hrow1 hrow2 hrow3 hA
  go_wp2_with fail
  go_region_held3 (fun w' => w'.cell? ⟨p, 1, none⟩ = some (.slice ba n1 bc) ∧ w'.cell? ⟨p, 2, none⟩ = some (.slice sa n2 sc) ∧ w'.cell? ⟨p, 3, none⟩ = some (.slice ra n3 rc) ∧ w'.cell? ⟨p, 4, none⟩ = some (.bool cl) ∧ CR s0 4 W w')
    ((refine HK.out _ ?_; repeat (first | exact HST.out | exact cr3 | exact cr2 | exact cr1 | exact lim4 (by assumption) | refine CR.drew ?_ | refine CR.drewN ?_ _ | refine CR.set ?_ _ _ | refine CR.step ?_ (below_alloc1 _ _))))
    (first
      | (go_at_call 31; refine (clonei_any _ ba n1 bc (intc buf) (HR1.out.below (by repeat (first | exact Below.refl _ _ | refine Below.drew ?_ | refine below_drewN ?_ _))) (intc_one _) (by omega)).mono ?_; rintro r w1 ⟨ba1, bc1, rfl, k1, x1, b1⟩
         have b1' : Below W.heap.size W w1 := by first | exact b1 | exact below_on (below_drew1 _) b1 | exact below_on (below_drewN (Below.refl _ _) _) b1
         have cr1 : CR s0 4 W w1 := CR.step HST.out b1'
         have o1 := HO.out.add b1' (A := RowGA 1 ba1 bc1 n1 (intc buf)) ⟨rfl, k1⟩ (fun x hx => x1 x hx)
         have b1s := b1'.size)
      | (go_at_call 32; (with_reducible refine (clonew_any _ sa n2 sc (wtc S) (HR2.out.below b1') (wtc_one _) (by omega)).mono ?_); rintro r w2 ⟨sa1, sc1, rfl, k2, x2, b2⟩
         have b2' : Below W.heap.size W w2 := below_on b1' b2
         have cr2 : CR s0 4 W w2 := CR.step cr1 b2
         have o2 := o1.add b2 (A := RowGA 3 sa1 sc1 n2 (wtc S)) ⟨rfl, k2⟩ (fun x hx => x2 x hx))
      | (go_at_call 32; (with_reducible refine (clonew_any _ ra n3 rc (wtc Rv) (HR3.out.below b2') (wtc_one _) (by omega)).mono ?_); rintro r w3 ⟨ra1, rc1, rfl, k3, x3, b3⟩
         have b3' : Below W.heap.size W w3 := below_on b2' b3
         have cr3 : CR s0 4 W w3 := CR.step cr2 b3
         have o3 := o2.add b3 (A := RowGA 3 ra1 rc1 n3 (wtc Rv)) ⟨rfl, k3⟩ (fun x hx => x3 x hx)
         obtain ⟨u0, t0⟩ := o3.cel 3 rfl 0 _ rfl
         obtain ⟨u1, t1⟩ := o3.cel 3 rfl 1 _ rfl
         obtain ⟨u2, t2⟩ := o3.cel 3 rfl 2 _ rfl
         obtain ⟨u3, t3⟩ := o3.cel 3 rfl 3 _ rfl))
  all_goals
    have hE : ∀ v0 v1 v2 v3, Own w0 ((((w3.setCell ⟨s0, 0, none⟩ v0).setCell ⟨s0, 1, none⟩ v1).setCell ⟨s0, 2, none⟩ v2).setCell ⟨s0, 3, none⟩ v3) (RowGA 3 ra1 rc1 n3 (wtc Rv) :: RowGA 3 sa1 sc1 n2 (wtc S) :: RowGA 1 ba1 bc1 n1 (intc buf) :: ChanA p N ⟨buf, S, Rv, cl⟩ :: R) ∧
        Below w.heap.size w ((((w3.setCell ⟨s0, 0, none⟩ v0).setCell ⟨s0, 1, none⟩ v1).setCell ⟨s0, 2, none⟩ v2).setCell ⟨s0, 3, none⟩ v3) := fun v0 v1 v2 v3 => by
      have o4 := (((o3.setAt 3 rfl 0 v0).setAt 3 rfl 1 v1).setAt 3 rfl 2 v2).setAt 3 rfl 3 v3
      have o5 := ((o4.pick 3 rfl).drop)
      have o6 := ((((((o5.pick 2 rfl).pick 2 rfl).pick 2 rfl).pick 6 rfl).pick 6 rfl).pick 6 rfl).pick 6 rfl
      refine ⟨?_, ((((below_on HBEL.out b3').setCell (by show w.heap.size ≤ s0; have := HS0.out; omega) _).setCell (by show w.heap.size ≤ s0; have := HS0.out; omega) _).setCell (by show w.heap.size ≤ s0; have := HS0.out; omega) _).setCell (by show w.heap.size ≤ s0; have := HS0.out; omega) _⟩
      have o7 : Own w0 ((((w3.setCell ⟨s0, 0, none⟩ v0).setCell ⟨s0, 1, none⟩ v1).setCell ⟨s0, 2, none⟩ v2).setCell ⟨s0, 3, none⟩ v3) (CelA p (ccells N ⟨buf, S, Rv, cl⟩ ba bc sa sc ra rc) :: RowGA 1 ba bc buf.length (intc buf) :: RowGA 3 sa sc S.length (wtc S) :: RowGA 3 ra rc Rv.length (wtc Rv) :: RowGA 3 ra1 rc1 n3 (wtc Rv) :: RowGA 3 sa1 sc1 n2 (wtc S) :: RowGA 1 ba1 bc1 n1 (intc buf) :: R) := by
        simp only [ccells]
        rw [← H1.out, ← H2.out, ← H3.out]
        exact o6
      exact (((Own.chanBack o7).pick 3 rfl).pick 3 rfl).pick 3 rfl
    have HE := Lib.hid hE
    rename_i hHeld
    clear hE hHeld k1 k2 k3 o1 o2 o3 b1 b1' b2 b2' b3 b3' cr1 cr2 cr3
    go_wp2
    exact bodyPost_ret (v := .agg #[.slice ba1 n1 bc1, .slice sa1 n2 sc1, .slice ra1 n3 rc1, .bool cl]) (by simp [results, Try.results14, go_sem, u0, u1, u2, u3]) rfl ⟨ba1, bc1, sa1, sc1, ra1, rc1, rfl, HE.out _ _ _ _⟩
end Go.Proofs.Ytphjgfjfeehjhaa
