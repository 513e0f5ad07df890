/-
  The walk of the law HeapPlays.
-/
import Derived.Test.YtljdckipnbdknaaW9P1
import Derived.Test.YtljdckipnbdknaaActsK3
import Derived.Test.YtljdckipnbdknaaSegH
import Derived.OpenShut
import Derived.LoopTactic
import Derived.Deep.CutBlock
open Go Go.RowKit
set_option linter.unusedVariables false
namespace Go.Proofs.Ytljdckipnbdknaa.heapPlays
/-- The heap, and the document's in its box. -/
def St (w1 w : World) (p px n : Nat) : Prop := ∃ l L vx nx, nx ≤ n ∧ PSt l L nx ∧ L.length ≤ n ∧ Own w1 w [HeapA p l nx, CelA px [vx, .int .u64 (nx : Int)], ItA 48 vx L]
set_option maxRecDepth 100000 in
set_option maxHeartbeats 4000000 in
theorem walk (a0 : Option Addr) (len0 cap0 : Nat) (l0 : List Ac3) (w : World) (w0 : IsActsK3 .i64 .i64 .u64 w a0 len0 cap0 l0) :
    Calls Try.prog 3 #[.slice a0 len0 cap0] w fun e w' => e = .returned (.bool true) ∧ Below w.heap.size w w' := by
  obtain ⟨hm, hlc, hcm, hat, -⟩ := w0
  have hlm : len0 ≤ maxLen := Nat.le_trans hlc hcm
  unfold maxLen at hlm
  have Hat := Lib.hid hat; clear hat hlc hcm
  have Hm := Lib.hid hm; clear hm
  go_enter Try.func3, Try.ntmps3
  go_wp2_with fail
  refine (awake9_any _).mono ?_
  rintro e w1 ⟨rfl, hb1⟩
  have Hat1 := Lib.hid (Hat.out.below hb1)
  have B1 := Lib.hid hb1; clear hb1 Hat
  have hnew : Own w1 ((w1.alloc (.cells #[.slice none 0 0, .int .u64 0] 27)).alloc (.cells #[.slice none 0 0, .int .u64 0] 30)) [HeapA w1.heap.size [] 0, CelA (w1.heap.size + 1) [.slice none 0 0, .int .u64 ((0 : Nat) : Int)], ItA 48 (.slice none 0 0) []] := by
    have h1 : Own w1 (w1.alloc (.cells #[.slice none 0 0, .int .u64 0] 27)) [HeapA w1.heap.size [] 0] :=
      (Own.nil (Below.refl _ w1)).add (below_alloc1 _ _) (A := HeapA w1.heap.size [] 0) (F := foot w1.heap.size (.slice none 0 0)) ⟨.slice none 0 0, rfl, Blk.mk w1 [.slice none 0 0, .int .u64 0] 27 _ rfl, ItemsAt.nil _, fun x hx => by simp [Value.ownBlock] at hx⟩ (fun x hx => by simp [foot, Value.ownBlock] at hx; omega)
    have h2 := h1.alloc [.slice none 0 0, .int .u64 0] 30 (b := w1.heap.size + 1) (by simp)
    have h3 := h2.add (Below.refl _ _) (A := ItA 48 (.slice none 0 0) []) (F := []) ⟨rfl, ItemsT.nil _ _⟩ (fun x hx => by simp at hx)
    exact (h3.pick 2 rfl).perm (List.Perm.cons _ (List.Perm.swap _ _ _))
  have hst : St w1 ((w1.alloc (.cells #[.slice none 0 0, .int .u64 0] 27)).alloc (.cells #[.slice none 0 0, .int .u64 0] 30)) w1.heap.size (w1.heap.size + 1) 0 := ⟨[], [], _, 0, Nat.le_refl _, PSt.nil, by simp, hnew⟩
  have HST := Lib.hid hst; clear hnew hst
  go_upto_region 5 with fail
  obtain ⟨p, hp⟩ : ∃ p, p = w1.heap.size := ⟨_, rfl⟩
  rw [← hp] at HST ⊢
  clear hp
  obtain ⟨px, hpx⟩ : ∃ px, px = p + 1 := ⟨_, rfl⟩
  rw [← hpx] at HST ⊢
  clear hpx
  generalize (w1.alloc (.cells #[.slice none 0 0, .int .u64 0] 27)).alloc (.cells #[.slice none 0 0, .int .u64 0] 30) = W0 at *
  go_wp2_with fail
  go_loopw [5] (fun iv wr => ∃ i : Nat, i ≤ 60 ∧ i ≤ len0 ∧ iv = .int .i64 i ∧ Hid (St w1 wr p px i)) (fun iv _ => 60 - (intOf iv).toNat)
  case atStart => exact ⟨0, by omega, by omega, rfl, HST⟩
  case round =>
    obtain ⟨i, hi, hil, rfl, hr⟩ := hrel
    by_cases hlt : i < len0 ∧ i < 60
    · obtain ⟨q1, q2⟩ := hlt
      have hbel : Below w1.heap.size w1 wr := by obtain ⟨_, _, _, _, _, _, _, h⟩ := hr.out; exact h.bel
      obtain ⟨b, off, rfl, z1, z2, z3⟩ := (Hat1.out.below hbel) i (by have := Hm.out; omega)
      generalize l0[i]'(by have := Hm.out; omega) = ac at z1 z2 z3
      obtain ⟨kd, id, at_⟩ := ac
      simp only at z1 z2 z3
      obtain ⟨K, hK, hK1, -⟩ := small_ofk kd 6 (by omega)
      have hK' : (bits BinOp.and IntKind.i64 kd 255).tmod 6 = (K : Int) := hK
      clear hK
      have HB0 := Lib.hid (below_on B1.out hbel)
      clear hbel
      go_upto_block 2 with fail
      obtain ⟨ab, hab⟩ : ∃ ab, ab = wr.heap.size := ⟨_, rfl⟩
      obtain ⟨l, L, vx, nx, hnx, hP, hLn, hO⟩ := hr.out
      have hO8 := hO.alloc [.int .i64 kd, .int .i64 id, .int .u64 at_] 32 hab
      have hpa : px < ab := by rw [hab]; exact World.block_lt_of_cell? wr _ (hO.cel 1 rfl 0 _ rfl).1
      have HO8 := Lib.hid hO8
      have HP := Lib.hid hP
      have HLN := Lib.hid hLn
      rw [← hab]
      clear hab hO8 hO hP hLn z1 z2 z3
      generalize wr.alloc (.cells #[.int .i64 kd, .int .i64 id, .int .u64 at_] 32) = W8 at *
      go_cut [7] (fun s7 wx => s7 = .int .i64 (K : Int) ∧ Hid (St w1 wx p px (i + 1)))
      case first =>
        obtain ⟨e0, -⟩ := HO8.out.cel 0 rfl 1 _ rfl
        obtain ⟨e1, -⟩ := HO8.out.cel 0 rfl 2 _ rfl
        obtain ⟨x0, -⟩ := HO8.out.cel 2 rfl 0 _ rfl
        obtain ⟨x1, -⟩ := HO8.out.cel 2 rfl 1 _ rfl
        have hl60 : L.length ≤ 100000 := by have := HLN.out; omega
        have hll : l.length ≤ 100000 := by rw [HP.out.len]; exact hl60
        by_cases hk4 : K < 4
        · have hd : (K : Int) < 4 := by omega
          have hpu := own_push ((HO8.out.step (below_drew1 _)).pick 1 rfl) at_ id hll (by omega)
          have HPU := Lib.hid hpu
          have h0 : W8.drew.cell? ⟨ab, 1, none⟩ = some (.int .i64 id) ∧ W8.drew.cell? ⟨ab, 2, none⟩ = some (.int .u64 at_) ∧ W8.drew.cell? ⟨px, 1, none⟩ = some (.int .u64 (nx : Int)) := ⟨e0, e1, x1⟩
          clear hpu
          go_wp2_with fail
          refine wp_region_lexH (fun wx => wx.cell? ⟨ab, 1, none⟩ = some (.int .i64 id) ∧ wx.cell? ⟨ab, 2, none⟩ = some (.int .u64 at_) ∧ wx.cell? ⟨px, 1, none⟩ = some (.int .u64 (nx : Int))) 8 (Array.replicate 8 false) (by kernel_rfl) (by kernel_rfl) ?_
          refine wpAnyH_seg 0 4 _ #[true, true, true, true, false, false, false, false] 4 (by kernel_rfl) noPanic_put h0 (by kernel_rfl) ?_
          simp only [List.take_succ_cons, List.take_zero, List.drop_zero]
          repeat (first
            | (refine wpSegH_no (by rfl) ?_; simp only [Act.put, List.setIfInBounds_toArray, List.set_cons_zero, List.set_cons_succ])
            | (refine wpSegH_yes (by rfl) ?_; apply Exists.intro; apply And.intro; (· (intro wx hS; (try dsimp only at hS); go_simp; first | done | with_reducible rfl)); simp only [Act.put, List.setIfInBounds_toArray, List.set_cons_zero, List.set_cons_succ]))
          refine wpSegH_nil ?_
          refine wpAnyH_seg 5 2 _ #[true, true, true, true, false, true, true, false] 2 (by kernel_rfl) noPanic_put h0 (by kernel_rfl) ?_
          simp only [List.take_succ_cons, List.take_zero, List.drop_succ_cons, List.drop_zero]
          repeat (first
            | (refine wpSegH_no (by rfl) ?_; simp only [Act.put, List.setIfInBounds_toArray, List.set_cons_zero, List.set_cons_succ])
            | (refine wpSegH_yes (by rfl) ?_; apply Exists.intro; apply And.intro; (· (intro wx hS; (try dsimp only at hS); go_simp; first | done | with_reducible rfl)); simp only [Act.put, List.setIfInBounds_toArray, List.set_cons_zero, List.set_cons_succ]))
          refine wpSegH_nil ?_
          refine wpAnyH_one 4 _ #[true, true, true, true, true, true, true, false] 1 (by kernel_rfl) (fun K hK => ?_)
          have HK := Lib.hid hK
          clear hK
          simp only [List.drop_succ_cons, List.drop_zero]
          refine headH_mk (by rfl) ?_
          go_simp
          refine HPU.out.mono ?_
          rintro r w2 ⟨rfl, h2⟩
          obtain ⟨e0', -⟩ := h2.cel 1 rfl 1 _ rfl
          obtain ⟨e1', -⟩ := h2.cel 1 rfl 2 _ rfl
          obtain ⟨x0', -⟩ := h2.cel 2 rfl 0 _ rfl
          obtain ⟨x1', -⟩ := h2.cel 2 rfl 1 _ rfl
          have H2 := Lib.hid h2
          have hx := xpush_any w2 vx L nx at_ id (h2.items 3 rfl) hl60 (by omega)
          unfold xhv at hx
          have HX := Lib.hid hx
          refine HK.out _ _ ⟨e0', e1', x1'⟩ ?_
          clear h2 hx HPU h0 HK K e0 e1 x0 x1
          refine wpAnyH_seg 7 1 _ (Array.replicate 8 true) 0 (by kernel_rfl) noPanic_put ⟨e0', e1', x1'⟩ (by kernel_rfl) ?_
          simp only [List.take_succ_cons, List.take_zero, List.drop_succ_cons, List.drop_zero]
          repeat (first
            | (refine wpSegH_no (by rfl) ?_; simp only [Act.put, List.setIfInBounds_toArray, List.set_cons_zero, List.set_cons_succ])
            | (refine wpSegH_yes (by rfl) ?_; apply Exists.intro; apply And.intro; (· (intro wx hS; (try dsimp only at hS); go_simp; first | done | with_reducible rfl)); simp only [Act.put, List.setIfInBounds_toArray, List.set_cons_zero, List.set_cons_succ]))
          refine wpSegH_nil ?_
          refine wpAnyH_done (by kernel_rfl) (NoPanic.normal ?_) _
          go_wp2_with fail
          refine HX.out.mono ?_
          rintro r w3 ⟨v', rfl, k1, k2, k3⟩
          unfold xhv
          obtain ⟨a', c', rfl, -⟩ := k1.slice
          have hO3 := Own.item (H2.out) k3 k1 k2
          have HO3 := Lib.hid hO3
          obtain ⟨y0, g0⟩ := hO3.cel 3 rfl 0 _ rfl
          obtain ⟨y1, g1⟩ := hO3.cel 3 rfl 1 _ rfl
          have hPn := HP.out.push at_ id
          have HPn := Lib.hid hPn
          have hln : (xPush L ⟨at_, nx, id⟩).length ≤ i + 1 := by
            have h1 := hPn.len
            rw [pushF_len, HP.out.len] at h1
            have := HLN.out; omega
          have hend : ∀ x y, x = (Value.slice a' (xPush L ⟨at_, nx, id⟩).length c') → y = ((nx + 1 : Nat) : Int) → St w1 ((w3.setCell ⟨px, 0, none⟩ x).setCell ⟨px, 1, none⟩ (.int .u64 y)) p px (i + 1) := fun x y ex ey => by
            subst ex ey
            exact ⟨_, _, _, nx + 1, by omega, HPn.out, hln, (((((HO3.out.setAt 3 rfl 0 _).setAt 3 rfl 1 _).pick 3 rfl).pick 2 rfl) : Own w1 _ ([HeapA p _ _, CelA px _, ItA _ _ _] ++ [_, _])).dropR⟩
          have HE := Lib.hid hend
          clear hO3 k1 k2 k3 HX hPn hln hend
          go_wp2_with fail
          go_meet
          exact ⟨rfl, Lib.hid (HE.out _ _ rfl (by simp))⟩
        · have hd : ¬ (K : Int) < 4 := by omega
          by_cases hk6 : K = 4
          · have hd2 : ((K : Int) == 4) = true := by simp; omega
            have hx := xcancel_any W8 vx L nx at_ (HO8.out.items 3 rfl) hl60
            unfold xhv at hx
            have HX := Lib.hid hx
            clear hx
            go_wp2_with fail
            refine HX.out.mono ?_
            rintro r w2 ⟨v', rfl, k1, k2, k3⟩
            obtain ⟨a', c', rfl, -⟩ := k1.slice
            have hO3 := Own.item HO8.out k3 k1 k2
            have HO3 := Lib.hid hO3
            have K3 := Lib.hid k3
            have m0 : ∀ o, (w2.alloc o).cell? ⟨px, 0, none⟩ = some vx ∧ (w2.alloc o).frozen? ⟨px, 0, none⟩ = false := fun o => (hO3.step (below_alloc1 w2 o)).cel 3 rfl 0 _ rfl
            have m1 : ∀ o, (w2.alloc o).cell? ⟨px, 1, none⟩ = some (.int .u64 (nx : Int)) ∧ (w2.alloc o).frozen? ⟨px, 1, none⟩ = false := fun o => (hO3.step (below_alloc1 w2 o)).cel 3 rfl 1 _ rfl
            have m2 : ∀ o, (w2.alloc o).cell? ⟨ab, 2, none⟩ = some (.int .u64 at_) := fun o => ((hO3.step (below_alloc1 w2 o)).cel 1 rfl 2 _ rfl).1
            have hne : w2.heap.size ≠ px ∧ ab ≠ px := ⟨by have := World.block_lt_of_cell? w2 _ (hO3.cel 3 rfl 0 _ rfl).1; simp only at this; omega, by omega⟩
            have hlx : (xCancel L at_).length ≤ i + 1 := by have := xCancel_len L at_; have := HLN.out; omega
            have HLX := Lib.hid hlx
            clear hO3 k1 k2 k3 HX hlx
            by_cases hy : ∃ j, j < l.length ∧ (gI l j).seq = at_
            · have hdec : decide ((xCancel L at_).length < L.length) = true := by
                obtain ⟨j, hj, hs⟩ := hy
                simpa using (HP.out.yes hj hs).2
              have HY := Lib.hid hy
              clear hy
              go_wp2_with fail
              refine (own_yes (((((HO3.out.step (below_alloc1 _ _)).setAt 3 rfl 0 _).setAt 3 rfl 1 _)).pick 2 rfl) at_ (by omega) HY.out).mono ?_
              rintro r w3 ⟨rfl, k, hk, hs, h3⟩
              have hst : St w1 w3 p px (i + 1) := ⟨_, _, _, nx, by omega, (HP.out.yes hk hs).1, HLX.out, (((h3.pick 1 rfl).pick 3 rfl).pick 2 rfl : Own w1 _ ([HeapA p _ _, CelA px _, ItA _ _ _] ++ [_, _])).dropR⟩
              have HST' := Lib.hid hst
              clear h3 hst hk hs
              go_wp2_with fail
              go_meet
              exact ⟨by rw [hk6]; rfl, HST'⟩
            · have hn : ∀ j, j < l.length → (gI l j).seq ≠ at_ := fun j hj hs => hy ⟨j, hj, hs⟩
              have hno := HP.out.no hn
              have hdec : decide ((xCancel L at_).length < L.length) = false := by rw [hno]; simp
              have HN := Lib.hid hn
              have HNO := Lib.hid hno
              clear hy hn hno
              go_wp2_with fail
              refine (own_no (((((HO3.out.step (below_alloc1 _ _)).setAt 3 rfl 0 _).setAt 3 rfl 1 _)).pick 2 rfl) at_ (by omega) HN.out).mono ?_
              rintro r w3 ⟨rfl, h3⟩
              have hst : St w1 w3 p px (i + 1) := ⟨_, _, _, nx, by omega, by rw [HNO.out]; exact HP.out, HLX.out, (((h3.pick 1 rfl).pick 3 rfl).pick 2 rfl : Own w1 _ ([HeapA p _ _, CelA px _, ItA _ _ _] ++ [_, _])).dropR⟩
              have HST' := Lib.hid hst
              clear h3 hst
              go_wp2_with fail
              go_meet
              exact ⟨by rw [hk6]; rfl, HST'⟩
          · have hd2 : ((K : Int) == 4) = false := by rw [beq_eq_false_iff_ne]; omega
            have hx := xwake_any W8 vx L nx at_ (HO8.out.items 3 rfl) hl60
            unfold XW xhv at hx
            have HX := Lib.hid hx
            clear hx
            go_wp2_with fail
            refine HX.out.mono ?_
            rintro r w2 ⟨v1, v2, rfl, k1, k2, k3, k4, k5⟩
            obtain ⟨a1, c1, rfl, -⟩ := k1.slice
            obtain ⟨a2, c2, rfl, -⟩ := k2.slice
            obtain ⟨n1, hn1⟩ : ∃ n1, n1 = (L.drop (xWakes L at_)).length := ⟨_, rfl⟩
            obtain ⟨n2, hn2⟩ : ∃ n2, n2 = (L.take (xWakes L at_)).length := ⟨_, rfl⟩
            rw [← hn1] at k1 k3 ⊢
            rw [← hn2] at k2 k4 ⊢
            have hO2 := Own.turn (As := [ItA 48 vx L]) (As' := [ItA 48 (.slice a2 n2 c2) (L.take (xWakes L at_))]) ((Own.item HO8.out k5 k1 k3).pick 4 rfl) (fun F hF => by
              obtain ⟨rfl, -⟩ := sep_one.1 hF
              exact ⟨_, sep_one.2 ⟨rfl, k2⟩, Chg.refl _ _, fun x hx => .inl (k4 x hx)⟩)
            have hO3 : Own w1 w2 [ItA 48 (.slice a1 n1 c1) (L.drop (xWakes L at_)), ItA 48 (.slice a2 n2 c2) (L.take (xWakes L at_)), CelA ab [.int .i64 kd, .int .i64 id, .int .u64 at_], HeapA p l nx, CelA px [vx, .int .u64 (nx : Int)]] := hO2.pick 1 rfl
            have HO3 := Lib.hid hO3
            have m0 : ∀ o, (w2.alloc o).cell? ⟨px, 0, none⟩ = some vx ∧ (w2.alloc o).frozen? ⟨px, 0, none⟩ = false := fun o => (hO3.step (below_alloc1 w2 o)).cel 4 rfl 0 _ rfl
            have m1 : ∀ o, (w2.alloc o).cell? ⟨px, 1, none⟩ = some (.int .u64 (nx : Int)) ∧ (w2.alloc o).frozen? ⟨px, 1, none⟩ = false := fun o => (hO3.step (below_alloc1 w2 o)).cel 4 rfl 1 _ rfl
            have m2 : ∀ o, (w2.alloc o).cell? ⟨ab, 2, none⟩ = some (.int .u64 at_) := fun o => ((hO3.step (below_alloc1 w2 o)).cel 2 rfl 2 _ rfl).1
            have hne : w2.heap.size ≠ px ∧ ab ≠ px := ⟨by have := World.block_lt_of_cell? w2 _ (hO3.cel 4 rfl 0 _ rfl).1; simp only at this; omega, by omega⟩
            have hlx : (L.drop (xWakes L at_)).length ≤ i + 1 := by rw [List.length_drop]; have := HLN.out; omega
            have HLX := Lib.hid hlx
            clear hO2 hO3 k1 k2 k3 k4 k5 HX hlx hn1 hn2
            obtain ⟨hw1, hw2⟩ := HP.out.wake at_
            have HW1 := Lib.hid hw1
            have HW2 := Lib.hid hw2
            clear hw1 hw2
            go_wp2_with fail
            refine (own_wake (((((HO3.out.step (below_alloc1 _ _)).setAt 4 rfl 0 _).setAt 4 rfl 1 _)).pick 3 rfl) at_ hll).mono ?_
            rintro r w3 ⟨v5, rfl, h3⟩
            rw [HW1.out] at h3
            have H3 := Lib.hid h3
            clear h3
            go_wp2_with fail
            refine (own_same H3.out 1 3 rfl rfl (by rw [List.length_take]; omega)).mono ?_
            rintro r w4 ⟨rfl, m, rfl⟩
            have hst : St w1 (w3.drewN m) p px (i + 1) := ⟨_, _, _, nx, by omega, HW2.out, HLX.out, ((((H3.out.step (below_drewN (Below.refl _ _) m)).pick 2 rfl).pick 5 rfl).pick 2 rfl : Own w1 _ ([HeapA p _ _, CelA px _, ItA _ _ _] ++ [_, _, _])).dropR⟩
            have HST' := Lib.hid hst
            clear hst
            go_wp2_with fail
            go_meet
            exact ⟨rfl, HST'⟩
      obtain ⟨rfl, hcut⟩ := hcut
      obtain ⟨l2, L2, v2, nx2, hnx2, hP2, hL2, hO2⟩ := hcut.out
      have HP2 := Lib.hid hP2
      have HO2 := Lib.hid hO2
      have HL2 := Lib.hid hL2
      clear HP HLN HO8 hP2 hO2 hL2 hpa
      by_cases hl0 : 0 < l2.length
      · have hfst := HP2.out.first hl0
        have hmn := own_min HO2.out hl0
        rw [hfst] at hmn
        unfold itv at hmn
        have HMN := Lib.hid hmn
        clear hmn hfst
        go_wp2_with fail
        refine HMN.out.mono ?_
        rintro r w5 ⟨rfl, k5⟩
        obtain ⟨a2, c2, rfl, -⟩ := (HO2.out.items 2 rfl).slice
        obtain ⟨g2, rfl, d0, d1, d2⟩ := (HO2.out.items 2 rfl).cells 0 (by rw [← HP2.out.len]; exact hl0)
        obtain ⟨n2, hn2⟩ : ∃ n2, n2 = L2.length := ⟨_, rfl⟩
        have hnl : l2.length = n2 := by rw [hn2]; exact HP2.out.len
        rw [← hn2] at HO2
        rw [Nat.zero_mul] at d0 d1 d2
        rw [Nat.zero_add] at d1 d2
        have d0' := cell_below (cell_below d0 k5) (below_alloc1 w5 (.cells #[.int .u64 (gI L2 0).at_, .int .u64 (gI L2 0).seq, .int .i64 (gI L2 0).id] 43))
        have d1' := cell_below (cell_below d1 k5) (below_alloc1 w5 (.cells #[.int .u64 (gI L2 0).at_, .int .u64 (gI L2 0).seq, .int .i64 (gI L2 0).id] 43))
        have d2' := cell_below (cell_below d2 k5) (below_alloc1 w5 (.cells #[.int .u64 (gI L2 0).at_, .int .u64 (gI L2 0).seq, .int .i64 (gI L2 0).id] 43))
        have hpos : 0 < n2 := by omega
        clear d0 d1 d2 hn2
        generalize (gI L2 0).at_ = fa at *
        generalize (gI L2 0).seq = fs at *
        generalize (gI L2 0).id = fi at *
        have HNL := Lib.hid hnl
        have hO9 := (HO2.out.step k5).alloc [.int .u64 fa, .int .u64 fs, .int .i64 fi] 43 (b := w5.heap.size) rfl
        obtain ⟨fb, hfb⟩ : ∃ fb, fb = w5.heap.size := ⟨_, rfl⟩
        rw [← hfb] at hO9
        have HFB := Lib.hid hfb
        clear hnl k5 HMN hfb
        go_upto_region 24 with fail
        have e5 : w5.alloc (.cells #[.int .u64 fa, .int .u64 fs, .int .i64 fi] 43) = w5.alloc (.cells ([.int .u64 fa, .int .u64 fs, .int .i64 fi] : List Value).toArray 43) := rfl
        rw [← HFB.out]
        generalize w5.alloc (.cells #[.int .u64 fa, .int .u64 fs, .int .i64 fi] 43) = W9 at *
        rw [← e5] at hO9
        clear e5
        have HO9 := Lib.hid hO9
        have hS : ∀ wx, Below W9.heap.size W9 wx → (fun wx => wx.cell? ⟨px, 0, none⟩ = some (.slice (some ⟨g2, 0, none⟩) n2 c2) ∧ wx.cell? ⟨fb, 0, none⟩ = some (.int .u64 fa) ∧ wx.cell? ⟨fb, 1, none⟩ = some (.int .u64 fs) ∧ wx.cell? ⟨fb, 2, none⟩ = some (.int .i64 fi) ∧ wx.cell? ⟨g2, 0, none⟩ = some (.int .u64 fa) ∧ wx.cell? ⟨g2, 1, none⟩ = some (.int .u64 fs) ∧ wx.cell? ⟨g2, 2, none⟩ = some (.int .i64 fi)) wx := fun wx hb => ⟨(((hO9.step hb).cel 2 rfl) 0 _ rfl).1, (((hO9.step hb).cel 0 rfl) 0 _ rfl).1, (((hO9.step hb).cel 0 rfl) 1 _ rfl).1, (((hO9.step hb).cel 0 rfl) 2 _ rfl).1, cell_below d0' hb, cell_below d1' hb, cell_below d2' hb⟩
        have HS := Lib.hid hS
        have hli := own_list ((hO9.step (below_drew1 W9)).pick 1 rfl) (L := L2) (by have := HL2.out; have := HP2.out.len; omega) HP2.out.srt HP2.out.perm
        have HLI := Lib.hid hli
        clear hS hli hO9 d0' d1' d2'
        refine wp_region_lexH (fun wx => wx.cell? ⟨px, 0, none⟩ = some (.slice (some ⟨g2, 0, none⟩) n2 c2) ∧ wx.cell? ⟨fb, 0, none⟩ = some (.int .u64 fa) ∧ wx.cell? ⟨fb, 1, none⟩ = some (.int .u64 fs) ∧ wx.cell? ⟨fb, 2, none⟩ = some (.int .i64 fi) ∧ wx.cell? ⟨g2, 0, none⟩ = some (.int .u64 fa) ∧ wx.cell? ⟨g2, 1, none⟩ = some (.int .u64 fs) ∧ wx.cell? ⟨g2, 2, none⟩ = some (.int .i64 fi)) 31 (Array.replicate 31 false) (by kernel_rfl) (by kernel_rfl) ?_
        refine wpAnyH_seg 1 2 _ #[false, true, true, false, false, false, false, false, false, false, false, false, false, false, false, false, false, false, false, false, false, false, false, false, false, false, false, false, false, false, false] 29 (by kernel_rfl) noPanic_put (HS.out _ (below_drew1 _)) (by kernel_rfl) ?_
        simp only [List.take_succ_cons, List.take_zero, List.drop_succ_cons, List.drop_zero]
        repeat (first
            | (refine wpSegH_no (by rfl) ?_; simp only [Act.put, List.setIfInBounds_toArray, List.set_cons_zero, List.set_cons_succ])
            | (refine wpSegH_yes (by rfl) ?_; apply Exists.intro; apply And.intro; (· (intro wx hS; (try dsimp only at hS); go_simp; first | done | with_reducible rfl)); simp only [Act.put, List.setIfInBounds_toArray, List.set_cons_zero, List.set_cons_succ]))
        refine wpSegH_nil ?_
        refine wpAnyH_one 0 _ #[true, true, true, false, false, false, false, false, false, false, false, false, false, false, false, false, false, false, false, false, false, false, false, false, false, false, false, false, false, false, false] 28 (by kernel_rfl) (fun K hK => ?_)
        have HK := Lib.hid hK
        clear hK
        simp only [List.drop_zero]
        refine headH_mk (by rfl) ?_
        go_simp
        refine HLI.out.mono ?_
        rintro r w6 ⟨v6, rfl, h6, b6⟩
        have b6' := below_on (below_drew1 W9) b6
        have H6 := Lib.hid h6
        have B6 := Lib.hid b6'
        refine HK.out _ _ (HS.out _ b6') ?_
        clear HK K h6 b6 b6' HLI
        refine wpAnyH_one 3 _ #[true, true, true, true, false, false, false, false, false, false, false, false, false, false, false, false, false, false, false, false, false, false, false, false, false, false, false, false, false, false, false] 27 (by kernel_rfl) (fun K hK => ?_)
        have HK := Lib.hid hK
        clear hK
        simp only [List.drop_succ_cons, List.drop_zero]
        refine headH_mk (by rfl) ?_
        go_simp
        refine (own_same H6.out 0 4 rfl rfl (by have := HL2.out; omega)).mono ?_
        rintro r w7 ⟨rfl, m7, rfl⟩
        have b7 := below_on B6.out (below_drewN1 w6 m7)
        have H7 := Lib.hid (H6.out.step (below_drewN1 w6 m7))
        have B7 := Lib.hid b7
        refine HK.out _ _ (HS.out _ b7) ?_
        clear HK K b7
        refine wpAnyH_seg 4 2 _ #[true, true, true, true, true, true, false, false, false, false, false, false, false, false, false, false, false, false, false, false, false, false, false, false, false, false, false, false, false, false, false] 25 (by kernel_rfl) noPanic_put (HS.out _ B7.out) (by kernel_rfl) ?_
        simp only [List.take_succ_cons, List.take_zero, List.drop_succ_cons, List.drop_zero]
        repeat (first
            | (refine wpSegH_no (by rfl) ?_; simp only [Act.put, List.setIfInBounds_toArray, List.set_cons_zero, List.set_cons_succ])
            | (refine wpSegH_yes (by rfl) ?_; apply Exists.intro; apply And.intro; (· (intro wx hS; (try dsimp only at hS); go_simp; first | done | with_reducible rfl)); simp only [Act.put, List.setIfInBounds_toArray, List.set_cons_zero, List.set_cons_succ]))
        refine wpSegH_nil ?_
        refine wpAnyH_seg 7 3 _ #[true, true, true, true, true, true, false, true, true, true, false, false, false, false, false, false, false, false, false, false, false, false, false, false, false, false, false, false, false, false, false] 22 (by kernel_rfl) noPanic_put (HS.out _ B7.out) (by kernel_rfl) ?_
        simp only [List.take_succ_cons, List.take_zero, List.drop_succ_cons, List.drop_zero]
        repeat (first
            | (refine wpSegH_no (by rfl) ?_; simp only [Act.put, List.setIfInBounds_toArray, List.set_cons_zero, List.set_cons_succ])
            | (refine wpSegH_yes (by rfl) ?_; apply Exists.intro; apply And.intro; (· (intro wx hS; (try dsimp only at hS); go_simp; first | done | with_reducible rfl)); simp only [Act.put, List.setIfInBounds_toArray, List.set_cons_zero, List.set_cons_succ]))
        refine wpSegH_nil ?_
        refine wpAnyH_one 6 _ #[true, true, true, true, true, true, true, true, true, true, false, false, false, false, false, false, false, false, false, false, false, false, false, false, false, false, false, false, false, false, false] 21 (by kernel_rfl) (fun K hK => ?_)
        have HK := Lib.hid hK
        clear hK
        simp only [List.drop_succ_cons, List.drop_zero]
        refine headH_mk (by rfl) ?_
        go_simp
        have hln := own_len (H7.out.pick 1 rfl)
        rw [HNL.out] at hln
        refine hln.mono ?_
        rintro r w8 ⟨rfl, rfl⟩
        refine HK.out _ _ (HS.out _ B7.out) ?_
        clear HK K hln
        refine wpAnyH_seg 10 21 _ (Array.replicate 31 true) 0 (by kernel_rfl) noPanic_put (HS.out _ B7.out) (by kernel_rfl) ?_
        simp only [List.take_succ_cons, List.take_zero, List.drop_succ_cons, List.drop_zero]
        repeat (first
            | (refine wpSegH_no (by rfl) ?_; simp only [Act.put, List.setIfInBounds_toArray, List.set_cons_zero, List.set_cons_succ])
            | (refine wpSegH_yes (by rfl) ?_; apply Exists.intro; apply And.intro; (· (intro wx hS; (try dsimp only at hS); go_simp; first | done | with_reducible rfl)); simp only [Act.put, List.setIfInBounds_toArray, List.set_cons_zero, List.set_cons_succ]))
        refine wpSegH_nil ?_
        refine wpAnyH_done (by kernel_rfl) (NoPanic.normal ?_) _
        have hend : St w1 (w6.drewN m7) p px (i + 1) := ⟨l2, L2, _, nx2, hnx2, HP2.out, HL2.out, ((H7.out.pick 4 rfl).pick 4 rfl |>.pick 3 rfl : Own w1 _ ([HeapA p _ _, CelA px _, ItA _ _ _] ++ [_, _])).dropR⟩
        have HE := Lib.hid hend
        clear hend
        go_wp2_with fail
        exact ⟨⟨i + 1, by omega, by omega, by go_num, HE⟩, by simp [intOf]; omega⟩
      · skip
        obtain rfl : l2 = [] := List.length_eq_zero_iff.1 (by omega)
        have hL0 : L2.length = 0 := by rw [← HP2.out.len]; rfl
        have hmn := own_min0 HO2.out
        unfold itv at hmn
        have HMN := Lib.hid hmn
        clear hmn
        go_wp2_with fail
        refine HMN.out.mono ?_
        rintro r w5 ⟨rfl, k5⟩
        obtain ⟨a2, c2, rfl, -⟩ := (HO2.out.items 2 rfl).slice
        obtain ⟨n2, hn2⟩ : ∃ n2, n2 = L2.length := ⟨_, rfl⟩
        have hnl : ([] : List It).length = n2 := by rw [hn2]; exact HP2.out.len
        rw [← hn2] at HO2 hL0
        have hpos : decide (0 < n2) = false := by simp; omega
        obtain ⟨fa, hfa⟩ : ∃ fa : Int, fa = 0 := ⟨_, rfl⟩
        obtain ⟨fs, hfs⟩ : ∃ fs : Int, fs = 0 := ⟨_, rfl⟩
        obtain ⟨fi, hfi⟩ : ∃ fi : Int, fi = 0 := ⟨_, rfl⟩
        clear hn2 hl0
        have HNL := Lib.hid hnl
        have hO9 := (HO2.out.step k5).alloc [.int .u64 fa, .int .u64 fs, .int .i64 fi] 43 (b := w5.heap.size) rfl
        obtain ⟨fb, hfb⟩ : ∃ fb, fb = w5.heap.size := ⟨_, rfl⟩
        rw [← hfb] at hO9
        have HFB := Lib.hid hfb
        clear hnl k5 HMN hfb
        go_upto_region 24 with fail
        have e5 : w5.alloc (.cells #[.int .u64 0, .int .u64 0, .int .i64 0] 43) = w5.alloc (.cells ([.int .u64 fa, .int .u64 fs, .int .i64 fi] : List Value).toArray 43) := by rw [hfa, hfs, hfi]
        rw [← HFB.out]
        generalize w5.alloc (.cells #[.int .u64 0, .int .u64 0, .int .i64 0] 43) = W9 at *
        rw [← e5] at hO9
        clear e5 hL0 hfa hfs hfi
        have HO9 := Lib.hid hO9
        have hS : ∀ wx, Below W9.heap.size W9 wx → (fun wx => wx.cell? ⟨px, 0, none⟩ = some (.slice a2 n2 c2) ∧ True) wx := fun wx hb => ⟨(((hO9.step hb).cel 2 rfl) 0 _ rfl).1, trivial⟩
        have HS := Lib.hid hS
        have hli := own_list ((hO9.step (below_drew1 W9)).pick 1 rfl) (L := L2) (by simp) HP2.out.srt HP2.out.perm
        have HLI := Lib.hid hli
        clear hS hli hO9
        refine wp_region_lexH (fun wx => wx.cell? ⟨px, 0, none⟩ = some (.slice a2 n2 c2) ∧ True) 31 (Array.replicate 31 false) (by kernel_rfl) (by kernel_rfl) ?_
        refine wpAnyH_seg 1 2 _ #[false, true, true, false, false, false, false, false, false, false, false, false, false, false, false, false, false, false, false, false, false, false, false, false, false, false, false, false, false, false, false] 29 (by kernel_rfl) noPanic_put (HS.out _ (below_drew1 _)) (by kernel_rfl) ?_
        simp only [List.take_succ_cons, List.take_zero, List.drop_succ_cons, List.drop_zero]
        repeat (first
            | (refine wpSegH_no (by rfl) ?_; simp only [Act.put, List.setIfInBounds_toArray, List.set_cons_zero, List.set_cons_succ])
            | (refine wpSegH_yes (by rfl) ?_; apply Exists.intro; apply And.intro; (· (intro wx hS; (try dsimp only at hS); go_simp; first | done | with_reducible rfl)); simp only [Act.put, List.setIfInBounds_toArray, List.set_cons_zero, List.set_cons_succ]))
        refine wpSegH_nil ?_
        refine wpAnyH_one 0 _ #[true, true, true, false, false, false, false, false, false, false, false, false, false, false, false, false, false, false, false, false, false, false, false, false, false, false, false, false, false, false, false] 28 (by kernel_rfl) (fun K hK => ?_)
        have HK := Lib.hid hK
        clear hK
        simp only [List.drop_zero]
        refine headH_mk (by rfl) ?_
        go_simp
        refine HLI.out.mono ?_
        rintro r w6 ⟨v6, rfl, h6, b6⟩
        have b6' := below_on (below_drew1 W9) b6
        have H6 := Lib.hid h6
        have B6 := Lib.hid b6'
        refine HK.out _ _ (HS.out _ b6') ?_
        clear HK K h6 b6 b6' HLI
        refine wpAnyH_one 3 _ #[true, true, true, true, false, false, false, false, false, false, false, false, false, false, false, false, false, false, false, false, false, false, false, false, false, false, false, false, false, false, false] 27 (by kernel_rfl) (fun K hK => ?_)
        have HK := Lib.hid hK
        clear hK
        simp only [List.drop_succ_cons, List.drop_zero]
        refine headH_mk (by rfl) ?_
        go_simp
        refine (own_same H6.out 0 4 rfl rfl (by have := HL2.out; omega)).mono ?_
        rintro r w7 ⟨rfl, m7, rfl⟩
        have b7 := below_on B6.out (below_drewN1 w6 m7)
        have H7 := Lib.hid (H6.out.step (below_drewN1 w6 m7))
        have B7 := Lib.hid b7
        refine HK.out _ _ (HS.out _ b7) ?_
        clear HK K b7
        refine wpAnyH_seg 4 2 _ #[true, true, true, true, true, true, false, false, false, false, false, false, false, false, false, false, false, false, false, false, false, false, false, false, false, false, false, false, false, false, false] 25 (by kernel_rfl) noPanic_put (HS.out _ B7.out) (by kernel_rfl) ?_
        simp only [List.take_succ_cons, List.take_zero, List.drop_succ_cons, List.drop_zero]
        repeat (first
            | (refine wpSegH_no (by rfl) ?_; simp only [Act.put, List.setIfInBounds_toArray, List.set_cons_zero, List.set_cons_succ])
            | (refine wpSegH_yes (by rfl) ?_; apply Exists.intro; apply And.intro; (· (intro wx hS; (try dsimp only at hS); go_simp; first | done | with_reducible rfl)); simp only [Act.put, List.setIfInBounds_toArray, List.set_cons_zero, List.set_cons_succ]))
        refine wpSegH_nil ?_
        refine wpAnyH_seg 7 3 _ #[true, true, true, true, true, true, false, true, true, true, false, false, false, false, false, false, false, false, false, false, false, false, false, false, false, false, false, false, false, false, false] 22 (by kernel_rfl) noPanic_put (HS.out _ B7.out) (by kernel_rfl) ?_
        simp only [List.take_succ_cons, List.take_zero, List.drop_succ_cons, List.drop_zero]
        repeat (first
            | (refine wpSegH_no (by rfl) ?_; simp only [Act.put, List.setIfInBounds_toArray, List.set_cons_zero, List.set_cons_succ])
            | (refine wpSegH_yes (by rfl) ?_; apply Exists.intro; apply And.intro; (· (intro wx hS; (try dsimp only at hS); go_simp; first | done | with_reducible rfl)); simp only [Act.put, List.setIfInBounds_toArray, List.set_cons_zero, List.set_cons_succ]))
        refine wpSegH_nil ?_
        refine wpAnyH_one 6 _ #[true, true, true, true, true, true, true, true, true, true, false, false, false, false, false, false, false, false, false, false, false, false, false, false, false, false, false, false, false, false, false] 21 (by kernel_rfl) (fun K hK => ?_)
        have HK := Lib.hid hK
        clear hK
        simp only [List.drop_succ_cons, List.drop_zero]
        refine headH_mk (by rfl) ?_
        go_simp
        have hln := own_len (H7.out.pick 1 rfl)
        rw [HNL.out] at hln
        refine hln.mono ?_
        rintro r w8 ⟨rfl, rfl⟩
        refine HK.out _ _ (HS.out _ B7.out) ?_
        clear HK K hln
        refine wpAnyH_seg 10 21 _ (Array.replicate 31 true) 0 (by kernel_rfl) noPanic_put (HS.out _ B7.out) (by kernel_rfl) ?_
        simp only [List.take_succ_cons, List.take_zero, List.drop_succ_cons, List.drop_zero]
        repeat (first
            | (refine wpSegH_no (by rfl) ?_; simp only [Act.put, List.setIfInBounds_toArray, List.set_cons_zero, List.set_cons_succ])
            | (refine wpSegH_yes (by rfl) ?_; apply Exists.intro; apply And.intro; (· (intro wx hS; (try dsimp only at hS); go_simp; first | done | with_reducible rfl)); simp only [Act.put, List.setIfInBounds_toArray, List.set_cons_zero, List.set_cons_succ]))
        refine wpSegH_nil ?_
        refine wpAnyH_done (by kernel_rfl) (NoPanic.normal ?_) _
        have hend : St w1 (w6.drewN m7) p px (i + 1) := ⟨[], L2, _, nx2, hnx2, HP2.out, HL2.out, ((H7.out.pick 4 rfl).pick 4 rfl |>.pick 3 rfl : Own w1 _ ([HeapA p _ _, CelA px _, ItA _ _ _] ++ [_, _])).dropR⟩
        have HE := Lib.hid hend
        clear hend
        go_wp2_with fail
        exact ⟨⟨i + 1, by omega, by omega, by go_num, HE⟩, by simp [intOf]; omega⟩
    · have hcase : (i < len0 ∧ ¬ i < 60) ∨ ¬ i < len0 := by omega
      obtain ⟨l2, L2, v2, nx2, hnx2, hP2, hL2, hO2⟩ := hr.out
      have HB := Lib.hid (below_on B1.out hO2.bel)
      clear hP2 hL2 hO2
      rcases hcase with ⟨q1, q2⟩ | q1
      case' inl => have q1 : (i : Int) < (len0 : Int) := by omega
      case' inl => have q2 : ¬ (i : Int) < 60 := by omega
      case' inr => have q1 : ¬ (i : Int) < (len0 : Int) := by omega
      all_goals
        clear hlt
        go_wp2_with fail
        go_ret
        exact ⟨rfl, HB.out⟩
end Go.Proofs.Ytljdckipnbdknaa.heapPlays
