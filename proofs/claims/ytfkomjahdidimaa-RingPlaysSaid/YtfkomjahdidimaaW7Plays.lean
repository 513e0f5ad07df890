/-
  The walk of the law RingPlays.
-/
import Derived.Test.YtfkomjahdidimaaWRef7
import Derived.Test.YtfkomjahdidimaaActsIn
import Derived.OpenShut
import Derived.Deep.CutBlock
open Go Go.RowKit
set_option linter.unusedVariables false
namespace Go.Proofs.Ytfkomjahdidimaa.ringPlays
/-- The ring, and the document's in its box. -/
def St (w1 w : World) (p g bx N : Nat) (l : List Int) : Prop :=
  RI w1 w p g N l ∧ bx ≠ p ∧ bx ≠ g ∧ w1.heap.size ≤ bx ∧ ∃ a cap, Blk w bx [.slice a l.length cap, .int .i64 (N : Int)] ∧ RowAt w a cap l ∧ ∀ x ∈ blk a, x ≠ p ∧ x ≠ g ∧ x ≠ bx
theorem St.step {w1 w w' : World} {p g bx N : Nat} {l : List Int} (h : St w1 w p g bx N l) (hb : Below w.heap.size w w') : St w1 w' p g bx N l := by
  obtain ⟨h1, h2, h3, h4, a, cap, h5, h6, h7⟩ := h
  exact ⟨h1.step hb, h2, h3, h4, a, cap, h5.below hb, h6.below hb, h7⟩
/-- The document's ring is another one; then the ring. -/
theorem St.next {w1 w w2 w3 w4 : World} {p g bx N : Nat} {l l' : List Int} (h : St w1 w p g bx N l) {a' : Option Addr} {cap' n' : Nat} (hn : n' = l'.length) (hr : RowAt w2 a' cap' l') (ha : ∀ x ∈ blk a', x ≠ p ∧ x ≠ g ∧ x ≠ bx)
    (hc : Chg [bx] w2 w3) (hx : Blk w3 bx [.slice a' n' cap', .int .i64 (N : Int)]) (c4 : Chg [p, g] w3 w4) (h4 : RI w1 w4 p g N l') : St w1 w4 p g bx N l' := by
  obtain ⟨h1, h2, h3, h4', a, cap, h5, h6, h7⟩ := h
  subst hn
  exact ⟨h4, h2, h3, h4', a', cap', hx.chg c4 (by simp; omega), (hr.chg hc (fun x hx => by have := ha x hx; simp; omega)).chg c4 (fun x hx => by have := ha x hx; simp; omega), ha⟩
theorem St.fresh {w1 w : World} {p g bx N : Nat} {l : List Int} (h : St w1 w p g bx N l) {a' : Option Addr} (ha : ∀ x ∈ blk a', w.heap.size ≤ x) : ∀ x ∈ blk a', x ≠ p ∧ x ≠ g ∧ x ≠ bx := fun x hx => by
  obtain ⟨h1, h2, h3, h4', a, cap, h5, h6, h7⟩ := h
  have hp := h1.lt
  have hbx := h5.lt (by simp)
  have := ha x hx
  exact ⟨by omega, by omega, by omega⟩
/-- The ring, then the document's. -/
theorem St.set {w1 w w2 : World} {p g bx N : Nat} {l l' : List Int} (h : St w1 w p g bx N l) {a' : Option Addr} {cap' n' : Nat} {x y : Value} (hn : n' = l'.length) (hr : RowAt w2 a' cap' l') (ha : ∀ x ∈ blk a', x ≠ p ∧ x ≠ g ∧ x ≠ bx)
    (hx : Blk w2 bx [x, y]) (h4 : RI w1 w2 p g N l') : St w1 ((w2.setCell ⟨bx, 0, none⟩ (.slice a' n' cap')).setCell ⟨bx, 1, none⟩ (.int .i64 (N : Int))) p g bx N l' := by
  obtain ⟨h1, h2, h3, h4', a, cap, h5, h6, h7⟩ := h
  subst hn
  have c : Chg [bx] w2 ((w2.setCell ⟨bx, 0, none⟩ (.slice a' l'.length cap')).setCell ⟨bx, 1, none⟩ (.int .i64 (N : Int))) := ((Chg.refl _ _).setCell _ (.inl (by simp))).setCell _ (.inl (by simp))
  exact ⟨h4.chg c (by simp; omega) (by simp; omega) (fun x hx => by simp at hx; omega), h2, h3, h4', a', cap', (hx.set 0 _).set 1 _, hr.chg c (fun x hx => by have := ha x hx; simp; omega), ha⟩
theorem keep2 {W w' : World} {b o b' o' : Nat} {v v' : Value} (h : Hid (W.cell? ⟨b, o, none⟩ = some v)) (h' : Hid (W.cell? ⟨b', o', none⟩ = some v')) (hb : Below W.heap.size W w') :
    w'.cell? ⟨b, o, none⟩ = some v ∧ w'.cell? ⟨b', o', none⟩ = some v' ∧ Below W.heap.size W w' := ⟨cell_below h.out hb, cell_below h'.out hb, hb⟩
/-- The box is told another ring. -/
theorem box_set {w : World} {bx : Nat} {x y s t : Value} (h : Blk w bx [x, y]) (o : Obj) : Blk (((w.alloc o).setCell ⟨bx, 0, none⟩ s).setCell ⟨bx, 1, none⟩ t) bx [s, t] ∧ Chg [bx] w (((w.alloc o).setCell ⟨bx, 0, none⟩ s).setCell ⟨bx, 1, none⟩ t) :=
  ⟨((h.alloc o).set 0 s).set 1 t, ((Chg.of_below (below_alloc1 w o)).setCell _ (.inl (by simp))).setCell _ (.inl (by simp))⟩
theorem two_at {w : World} {b : Nat} {x y : Value} (h : Blk w b [x, y]) : (∀ o, (w.alloc o).cell? ⟨b, 0, none⟩ = some x) ∧ (∀ o, (w.alloc o).cell? ⟨b, 1, none⟩ = some y) ∧ (∀ o, (w.alloc o).frozen? ⟨b, 0, none⟩ = false) ∧ (∀ o, (w.alloc o).frozen? ⟨b, 1, none⟩ = false) :=
  ⟨fun o => ((h.alloc o) 0 _ rfl).1, fun o => ((h.alloc o) 1 _ rfl).1, fun o => ((h.alloc o) 0 _ rfl).2, fun o => ((h.alloc o) 1 _ rfl).2⟩
theorem takes_one_nil : takes 1 0 = 0 := rfl
theorem takes_one (n : Nat) : takes 1 (n + 1) = 1 := by unfold takes; omega
set_option maxRecDepth 100000 in
set_option maxHeartbeats 4000000 in
theorem walk (a0 : Int) (a1 : Option Addr) (len1 cap1 : Nat) (l1 : List Ac2) (w : World) (w0 : (Lit.int .i64 a0).wf = true) (w1' : IsActs2 w a1 len1 cap1 l1) :
    Calls Try.prog 3 #[.int .i64 a0, .slice a1 len1 cap1] w fun e w' => e = .returned (.bool true) ∧ Below w.heap.size w w' := by
  obtain ⟨hm, hlc, hcm, hat, -⟩ := w1'
  have hlm : len1 ≤ maxLen := Nat.le_trans hlc hcm
  unfold maxLen at hlm
  have Hat := Lib.hid hat; clear hat hlc hcm w0
  have Hm := Lib.hid hm; clear hm
  go_enter Try.func3, Try.ntmps3
  go_wp2_with fail
  refine (awake7_any _).mono ?_
  rintro e w1 ⟨rfl, hb1⟩
  have Hat1 := Lib.hid (Hat.out.below hb1)
  have B1 := Lib.hid hb1; clear hb1 Hat
  go_wp2_with fail
  refine (ri_new a0 w1 _ (Below.refl _ _)).mono ?_
  rintro e w2 ⟨p, g, rfl, h2, -, -, -⟩
  obtain ⟨l0, hl1, hl2⟩ := h2.ll
  have H2 := Lib.hid h2; clear h2 l0
  go_wp2_with fail
  refine (xnew_any a0 _).mono ?_
  rintro e w3 ⟨rfl, b3⟩
  generalize roomOf a0 = N at *
  have hst : St w1 (w3.alloc (.cells #[.slice none 0 0, .int .i64 (N : Int)] 28)) p g w3.heap.size N [] := by
    have h3 := H2.out.step b3
    have := h3.lt
    have := h3.bel.size
    exact ⟨h3.step (below_alloc1 _ _), by omega, by omega, by omega, none, 0, Blk.mk _ _ _ _ rfl, RowAt.nil _, fun x hx => by simp [blk] at hx⟩
  have HST := Lib.hid hst; clear hst b3
  unfold xval
  go_wp2_with fail
  obtain ⟨bx, hbx⟩ : ∃ bx, bx = w3.heap.size := ⟨_, rfl⟩
  rw [← hbx] at HST ⊢
  clear hbx
  go_loopw [7] (fun iv wr => ∃ i : Nat, ∃ l : List Int, i ≤ 80 ∧ i ≤ len1 ∧ iv = .int .i64 i ∧ Hid (St w1 wr p g bx N l)) (fun iv _ => 80 - (intOf iv).toNat)
  case atStart => exact ⟨0, [], by omega, by omega, rfl, HST⟩
  case round =>
    obtain ⟨i, l, hi, hil, rfl, hr⟩ := hrel
    by_cases hlt : i < len1 ∧ i < 80
    · obtain ⟨q1, q2⟩ := hlt
      obtain ⟨b, off, rfl, z1, z2⟩ := (Hat1.out.below hr.out.1.bel) i (by have := Hm.out; omega)
      generalize l1[i]'(by have := Hm.out; omega) = ac at z1 z2
      obtain ⟨kd, v⟩ := ac
      simp only at z1 z2
      obtain ⟨K, hK, hK1, -⟩ := small_of kd 7 (by omega)
      have hK' : (bits BinOp.and IntKind.i64 kd 255).tmod 7 = (K : Int) := hK
      clear hK
      go_upto_block 2 with fail
      have hb8 : Below wr.heap.size wr (wr.alloc (.cells #[.int .i64 kd, .int .i64 v] 31)) := below_alloc1 _ _
      have hS8 := Lib.hid (hr.out.step hb8)
      have hA8 : Hid (Blk (wr.alloc (.cells #[.int .i64 kd, .int .i64 v] 31)) wr.heap.size [.int .i64 kd, .int .i64 v]) := Lib.hid (Blk.mk _ _ _ _ rfl)
      have hn8 : Hid (wr.heap.size ≠ bx ∧ wr.heap.size ≠ p ∧ wr.heap.size ≠ g) := by
        obtain ⟨r1, r2, r3, r4, a, cap, r5, r6, r7⟩ := hr.out
        have := r1.lt
        have := r5.lt (by simp)
        exact Lib.hid ⟨by omega, by omega, by omega⟩
      obtain ⟨ab, hab⟩ : ∃ ab, ab = wr.heap.size := ⟨_, rfl⟩
      rw [← hab] at hA8 hn8 ⊢
      clear hab hb8 z1 z2
      generalize wr.alloc (.cells #[.int .i64 kd, .int .i64 v] 31) = W8 at *
      go_cut [] (fun wx => ∃ l', Hid (St w1 wx p g bx N l'))
      case first =>
        obtain ⟨r1, r2, r3, r4, a, cap, r5, r6, r7⟩ := hS8.out
        obtain ⟨x0, -⟩ := r5 0 _ rfl
        obtain ⟨x1, -⟩ := r5 1 _ rfl
        obtain ⟨y1, -⟩ := hA8.out 1 _ rfl
        obtain ⟨n8a, n8b, n8c⟩ := hn8.out
        have hS := hS8
        obtain ⟨n, hn⟩ : ∃ n, n = l.length := ⟨_, rfl⟩
        rw [← hn] at x0 r5
        have hnN : n ≤ N := by have := r1.ll; omega
        have R1 := Lib.hid r1
        have R5 := Lib.hid r5
        have R6 := Lib.hid r6
        have R7 := Lib.hid r7
        have RN : Hid (bx ≠ p ∧ bx ≠ g ∧ w1.heap.size ≤ bx) := Lib.hid ⟨r2, r3, r4⟩
        clear r1 r2 r3 r4 r5 r6 r7
        have HN := Lib.hid hn; clear hn
        by_cases hk4 : K < 4
        · have hd : (K : Int) < 4 := by omega
          by_cases hfull : n < N
          · go_wp2_with fail
            have hx := xpush_any W8 a cap N l v R6.out (by have := HN.out; omega) (by omega)
            rw [← HN.out] at hx
            unfold xval at hx
            have HX := Lib.hid hx; clear hx
            refine HX.out.mono ?_
            rintro e w5 ⟨a', cap', rfl, k1, k2, b5⟩
            have K1 := Lib.hid k1
            have K2 := Lib.hid k2
            have B5 := Lib.hid b5
            have S5 := Lib.hid (R5.out.below b5)
            obtain ⟨s1, s2, s3, s4⟩ := two_at (R5.out.below b5)
            obtain ⟨-, s5, -, -⟩ := two_at (hA8.out.below b5)
            clear k1 k2 b5 HX
            go_wp2_with fail
            refine (ri_push ((R1.out.step B5.out).chg (box_set S5.out _).2 (by have := RN.out; simp; omega) (by have := RN.out; simp; omega) (fun x hx => by have := RN.out; simp at hx; omega)) v (by have := HN.out; omega)).mono ?_
            rintro e w6 ⟨rfl, h6, c6⟩
            have h7 : ∃ l', Hid (St w1 w6 p g bx N l') := ⟨l ++ [v], Lib.hid (hS.out.next (by have := HN.out; simp; omega) K1.out (hS.out.fresh K2.out) (box_set S5.out _).2 (box_set S5.out _).1 c6 h6)⟩
            have H7 := Lib.hid h7; clear h7 h6 c6
            go_wp2_with fail
            go_meet
            exact H7.out
          · obtain rfl : n = N := by omega
            go_wp2_with fail
            have hx := xpush_full W8 a n cap n v rfl
            unfold xval at hx
            have HX := Lib.hid hx; clear hx
            refine HX.out.mono ?_
            rintro e w5 ⟨rfl, b5⟩
            have B5 := Lib.hid b5
            have S5 := Lib.hid (R5.out.below b5)
            obtain ⟨s1, s2, s3, s4⟩ := two_at (R5.out.below b5)
            obtain ⟨-, s5, -, -⟩ := two_at (hA8.out.below b5)
            clear b5 HX
            go_wp2_with fail
            refine (ri_full ((R1.out.step B5.out).chg (box_set S5.out _).2 (by have := RN.out; simp; omega) (by have := RN.out; simp; omega) (fun x hx => by have := RN.out; simp at hx; omega)) v (by have := HN.out; omega)).mono ?_
            rintro e w6 ⟨rfl, h6, c6⟩
            have h7 : ∃ l', Hid (St w1 w6 p g bx n l') := ⟨l, Lib.hid (hS.out.next HN.out (R6.out.below B5.out) R7.out (box_set S5.out _).2 (box_set S5.out _).1 c6 h6)⟩
            have H7 := Lib.hid h7; clear h7 h6 c6
            go_wp2_with fail
            go_meet
            exact H7.out
        · have hd : ¬ (K : Int) < 4 := by omega
          have hxt := fun k => xtake_any W8 a cap N l k R6.out (by have := HN.out; omega)
          rw [← HN.out] at hxt
          unfold xval at hxt
          have HX := Lib.hid hxt; clear hxt
          by_cases hk6 : K < 6
          · have hd2 : (K : Int) < 6 := by omega
            cases l with
            | nil =>
              obtain rfl : n = 0 := HN.out
              have HX1 := Lib.hid (HX.out 1)
              rw [takes_one_nil] at HX1
              go_wp2_with fail
              refine HX1.out.mono ?_
              rintro e w5 ⟨a1, c1, a2, c2, rfl, k1, k2, k3, b5⟩
              have K1 := Lib.hid k1
              have K3 := Lib.hid k3
              have B5 := Lib.hid b5
              have S5 := Lib.hid (R5.out.below b5)
              obtain ⟨s1, s2, s3, s4⟩ := two_at (R5.out.below b5)
              clear k1 k2 k3 b5 HX HX1
              go_wp2_with fail
              refine (ri_none ((R1.out.step B5.out).step (below_alloc1 _ _))).mono ?_
              rintro e w6 ⟨rfl, h6, c6⟩
              have c6' : Chg [p, g] w5 w6 := (Chg.of_below (below_alloc1 _ _)).trans c6 (fun x hx => .inl hx)
              obtain ⟨yb, hyb⟩ : ∃ yb, yb = w5.heap.size := ⟨_, rfl⟩
              have hl5 := (R1.out.step B5.out).lt
              have hY : Blk w6 yb [.slice a1 0 c1, .int .i64 (N : Int)] := (Blk.mk _ _ _ _ hyb).chg c6 (by simp; omega)
              rw [← hyb]
              have hX : Blk w6 bx [.slice a 0 cap, .int .i64 (N : Int)] := S5.out.chg c6' (by have := RN.out; simp; omega)
              have hf := hS.out.fresh (fun x hx => K3.out x (by simp [hx]) : ∀ x ∈ blk a1, W8.heap.size ≤ x)
              have hrow := K1.out.chg c6' (fun x hx => by have := hf x hx; simp; omega)
              have h7 := hS.out.set (l' := []) (n' := 0) rfl hrow hf hX h6
              have H7 := Lib.hid h7
              obtain ⟨u0, -⟩ := hY 0 _ rfl
              obtain ⟨u1, -⟩ := hY 1 _ rfl
              obtain ⟨u2, u3⟩ := hX 0 _ rfl
              obtain ⟨u4', u5⟩ := hX 1 _ rfl
              clear h7 h6 c6 c6' hyb hl5 hY hX hf hrow s1 s2 s3 s4
              go_wp2_with fail
              go_meet
              exact ⟨_, H7⟩
            | cons x t =>
              obtain ⟨m, rfl⟩ : ∃ m, n = m + 1 := ⟨t.length, HN.out⟩
              have HX1 := Lib.hid (HX.out 1)
              rw [takes_one] at HX1
              go_wp2_with fail
              refine HX1.out.mono ?_
              rintro e w5 ⟨a1, c1, a2, c2, rfl, k1, k2, k3, b5⟩
              have K1 := Lib.hid k1
              have K2 := Lib.hid k2
              have K3 := Lib.hid k3
              have B5 := Lib.hid b5
              have S5 := Lib.hid (R5.out.below b5)
              obtain ⟨s1, s2, s3, s4⟩ := two_at (R5.out.below b5)
              clear k1 k2 k3 b5 HX HX1
              go_wp2_with fail
              refine (ri_pop ((R1.out.step B5.out).step (below_alloc1 _ _))).mono ?_
              rintro e w6 ⟨rfl, h6, c6⟩
              have c6' : Chg [p, g] w5 w6 := (Chg.of_below (below_alloc1 _ _)).trans c6 (fun x hx => .inl hx)
              obtain ⟨yb, hyb⟩ : ∃ yb, yb = w5.heap.size := ⟨_, rfl⟩
              have hl5 := (R1.out.step B5.out).lt
              have hY : Blk w6 yb [.slice a1 m c1, .int .i64 (N : Int)] := (Blk.mk _ _ _ _ hyb).chg c6 (by simp; omega)
              rw [← hyb]
              have hX : Blk w6 bx [.slice a (m + 1) cap, .int .i64 (N : Int)] := S5.out.chg c6' (by have := RN.out; simp; omega)
              have hf := hS.out.fresh (fun x hx => K3.out x (by simp [hx]) : ∀ x ∈ blk a1, W8.heap.size ≤ x)
              have hf2 := hS.out.fresh (fun x hx => K3.out x (by simp [hx]) : ∀ x ∈ blk a2, W8.heap.size ≤ x)
              have hrow := K1.out.chg c6' (fun x hx => by have := hf x hx; simp; omega)
              have hrow2 := K2.out.chg c6' (fun x hx => by have := hf2 x hx; simp; omega)
              have h7 := hS.out.set (l' := t) (n' := m) (by have := HN.out; simpa using this) hrow hf hX h6
              have H7 := Lib.hid h7
              obtain ⟨u0, -⟩ := hY 0 _ rfl
              obtain ⟨u1, -⟩ := hY 1 _ rfl
              obtain ⟨u2, u3⟩ := hX 0 _ rfl
              obtain ⟨u4', u5⟩ := hX 1 _ rfl
              have hxi : IntsAt w6 a2 [x] := hrow2.ints
              obtain ⟨b2, o2, rfl, u6⟩ := hxi 0 (by simp)
              simp only [List.getElem_cons_zero, Nat.add_zero] at u6
              have hbxb2 : bx ≠ b2 := by have := hf2 b2 (by simp [blk]); omega
              clear h7 h6 c6 c6' hyb hl5 hY hX hf hf2 hrow hrow2 hxi s1 s2 s3 s4
              go_wp2_with fail
              go_meet
              exact ⟨_, H7⟩
          · have hd2 : ¬ (K : Int) < 6 := by omega
            have HX1 := Lib.hid (HX.out v)
            have hT : takes v n ≤ n := takes_le v n
            obtain ⟨T, hTe⟩ : ∃ T, T = takes v n := ⟨_, rfl⟩
            rw [← hTe] at HX1 hT
            have hTe' : takes v l.length = T := by rw [hTe, HN.out]
            have HTE := Lib.hid hTe'; clear hTe hTe'
            go_wp2_with fail
            refine HX1.out.mono ?_
            rintro e w5 ⟨a1, c1, a2, c2, rfl, k1, k2, k3, b5⟩
            have K1 := Lib.hid k1
            have K2 := Lib.hid k2
            have K3 := Lib.hid k3
            have B5 := Lib.hid b5
            have S5 := Lib.hid (R5.out.below b5)
            obtain ⟨s1, s2, s3, s4⟩ := two_at (R5.out.below b5)
            obtain ⟨-, s5, -, -⟩ := two_at (hA8.out.below b5)
            clear k1 k2 k3 b5 HX HX1
            go_wp2_with fail
            refine (ri_take ((R1.out.step B5.out).chg (box_set S5.out _).2 (by have := RN.out; simp; omega) (by have := RN.out; simp; omega) (fun x hx => by have := RN.out; simp at hx; omega)) v).mono ?_
            rw [HTE.out]
            rintro e w6 ⟨q, rfl, k4, k5, h6, c6⟩
            have hf := hS.out.fresh (fun x hx => K3.out x (by simp [hx]) : ∀ x ∈ blk a1, W8.heap.size ≤ x)
            have hf2 := hS.out.fresh (fun x hx => K3.out x (by simp [hx]) : ∀ x ∈ blk a2, W8.heap.size ≤ x)
            have hrow2 := (K2.out.chg (box_set S5.out _).2 (fun x hx => by have := hf2 x hx; simp; omega)).chg c6 (fun x hx => by have := hf2 x hx; simp; omega)
            have I1 := Lib.hid k5.ints
            have I2 := Lib.hid hrow2.ints
            have hnx : ∀ mq, St w1 (w6.drewN mq) p g bx N (l.drop T) := fun mq =>
              (hS.out.next (l' := l.drop T) (n' := n - T) (by rw [List.length_drop, HN.out]) K1.out hf (box_set S5.out _).2 (box_set S5.out _).1 c6 h6).step (below_drewN (Below.refl _ _) mq)
            have H7 := Lib.hid hnx
            clear hnx hrow2 hf hf2 k4 k5 h6 c6 s1 s2 s3 s4 s5
            go_wp2_with fail
            refine (same_n w6 _ _ T _ _ (l.take T) (by rw [List.length_take]; have := HN.out; omega) I1.out I2.out (by omega)).mono ?_
            rintro e w7 ⟨rfl, mq, rfl⟩
            go_wp2_with fail
            go_meet
            exact ⟨_, Lib.hid (H7.out mq)⟩
      case rest =>
        obtain ⟨l', hr'⟩ := hcut
        clear hr hS8 hA8 hK'
        obtain ⟨r1, r2, r3, r4, a, cap, r5, r6, r7⟩ := hr'.out
        obtain ⟨x0, -⟩ := r5 0 _ rfl
        obtain ⟨x1, -⟩ := r5 1 _ rfl
        obtain ⟨n, hn⟩ : ∃ n, n = l'.length := ⟨_, rfl⟩
        rw [← hn] at x0
        have X0 := Lib.hid x0
        have X1 := Lib.hid x1
        have R1 := Lib.hid r1
        have I6 := Lib.hid r6.ints
        have hn1 : n ≤ 1024 := by have := r1.ll; omega
        have HN := Lib.hid hn
        have HR := Lib.hid hr'.out
        clear r1 r2 r3 r4 r5 r6 r7 hn hr'
        go_wp2_with fail
        go_region_held3 (fun w' => w'.cell? ⟨bx, 0, none⟩ = some (.slice a n cap) ∧ w'.cell? ⟨bx, 1, none⟩ = some (.int .i64 (N : Int)) ∧ Below wc.heap.size wc w')
          ((refine keep2 X0 X1 ?_; repeat (first | exact Below.refl _ _ | exact st2_b (by assumption) | refine below_on ?_ hb5 | refine Below.drew ?_ | refine below_drewN ?_ _)))
          (first
            | (go_at_call 19; refine (ri_list (R1.out.step (st2_b (by assumption)))).mono ?_; rw [← HN.out]; rintro e w5 ⟨q, rfl, k1, k2, k3, hb5⟩)
            | (go_at_call 17; refine (same_n _ _ _ n _ _ l' HN.out (RowAt.ints (by assumption)) (I6.out.below (st2_b (by assumption))) (by omega)).mono ?_; rintro e w6 ⟨rfl, mq, rfl⟩)
            | (go_at_call 20; refine (ri_len (R1.out.step (st2_b (by assumption)))).mono ?_; rw [← HN.out]; rintro e w7 ⟨rfl, rfl⟩)
            | (go_at_call 21; refine (ri_room (R1.out.step (st2_b (by assumption)))).mono ?_; rintro e w8 ⟨rfl, rfl⟩))
        rename_i hHeld
        have HF := Lib.hid (HR.out.step hHeld.2.2)
        clear hHeld k1 k2 k3 hb5
        go_wp2
        exact ⟨⟨i + 1, l', by omega, by omega, by go_num, HF⟩, by simp [intOf]; omega⟩
    · have hcase : (i < len1 ∧ ¬ i < 80) ∨ ¬ i < len1 := by omega
      rcases hcase with ⟨h1, h2⟩ | h1
      all_goals
        have hb9 := below_on B1.out hr.out.1.bel
        go_wp2
        go_ret
        exact ⟨rfl, hb9⟩
end Go.Proofs.Ytfkomjahdidimaa.ringPlays
