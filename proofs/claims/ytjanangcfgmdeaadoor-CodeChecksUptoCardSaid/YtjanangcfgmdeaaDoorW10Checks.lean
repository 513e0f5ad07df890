/-
  The walk of the law CodeChecks.
-/
import Derived.Test.YtjanangcfgmdeaaDoorW10In
open Go Go.RowKit
set_option linter.unusedVariables false
namespace Go.Proofs.YtjanangcfgmdeaaDoor.codeChecks
/-- An instruction with one field that is another one. -/
def updI (j : Nat) (v : Int) (x : In4) : In4 := match j with
  | 0 => (v, x.2.1, x.2.2.1, x.2.2.2)
  | 1 => (x.1, v, x.2.2.1, x.2.2.2)
  | 2 => (x.1, x.2.1, v, x.2.2.2)
  | _ => (x.1, x.2.1, x.2.2.1, v)
theorem inc_upd (j : Nat) (hj : j < 4) (v : Int) : ∀ (l : List In4) (k : Nat) (h : k < l.length), (inc l).set (k * 4 + j) (.int .i64 v) = inc (l.set k (updI j v l[k]))
  | [], k, h => by simp at h
  | x :: l, 0, h => by rcases (by omega : j = 0 ∨ j = 1 ∨ j = 2 ∨ j = 3) with rfl | rfl | rfl | rfl <;> rfl
  | x :: l, k + 1, h => by
    have ih := inc_upd j hj v l k (by simpa using h)
    have e : (k + 1) * 4 + j = (k * 4 + j) + 4 := by omega
    rw [e]
    show Value.int .i64 x.1 :: Value.int .i64 x.2.1 :: Value.int .i64 x.2.2.1 :: Value.int .i64 x.2.2.2 :: (inc l).set (k * 4 + j) (.int .i64 v) = _
    rw [ih]
    rfl
theorem fits_upd (j : Nat) (v : Int) (hv : i64b v) (l : List In4) (k : Nat) (h : k < l.length) (hl : ∀ x ∈ l, i64b x.2.2.1) : ∀ x ∈ l.set k (updI j v l[k]), i64b x.2.2.1 := fun x hx => by
  rcases List.mem_or_eq_of_mem_set hx with h1 | h1
  · exact hl x h1
  · have h2 := hl l[k] (List.getElem_mem h)
    rw [h1]
    unfold updI
    split <;> first | exact hv | exact h2
theorem frs_same {rs : List Fr} {x : Nat} {ra : Option Addr} {rc : Nat} {rl l' : List In4} (h : rs[x]? = some ⟨ra, rc, rl⟩) (hl : l'.length = rl.length) : frs (rs.set x ⟨ra, rc, l'⟩) = frs rs := by
  rw [← frs_set]
  apply List.ext_getElem?
  intro j
  by_cases e : x = j
  · subst e
    have hx : x < (frs rs).length := by rw [frs_len]; exact (List.getElem?_eq_some_iff.1 h).1
    rw [List.getElem?_set_self hx, frs_at h]
    unfold frv
    simp only [hl]
  · rw [List.getElem?_set_ne e]
/-- One of the two programs that are held against the document's Check. -/
def YP (W8 : World) (pb : Nat) (j : Nat) : Prop := ∃ ya yn yc za zn zc yl ua un uc, ∃ d : PD, (∀ wx, Below W8.heap.size W8 wx → (wx.cell? ⟨pb, j * 4, none⟩ = some (.slice ya yn yc) ∧ wx.cell? ⟨pb, j * 4 + 1, none⟩ = some (.slice za zn zc) ∧ wx.cell? ⟨pb, j * 4 + 2, none⟩ = some (.int .i64 yl) ∧ wx.cell? ⟨pb, j * 4 + 3, none⟩ = some (.slice ua un uc))) ∧
  (d.fs.length = yn ∧ d.cs.length = zn ∧ d.ks.length = un ∧ d.lk = yl) ∧ PAt W8 ya za ua d ∧ Fits d ∧ d.fs.length ≤ 2000000 ∧ (∀ f ∈ d.fs, f.length ≤ 2000000) ∧ d.cs.length ≤ 2000000 ∧ d.ks.length ≤ 2000000
set_option maxRecDepth 100000 in
set_option maxHeartbeats 8000000 in
theorem walk (fa : Option Addr) (nf fc : Nat) (ca : Option Addr) (nc cc : Nat) (lk : Int) (ka : Option Addr) (nk kc : Nat) (d0 : PD) (fa1 : Option Addr) (nf1 fc1 : Nat) (ca1 : Option Addr) (nc1 cc1 : Nat) (lk1 : Int) (ka1 : Option Addr) (nk1 kc1 : Nat) (d1 : PD) (f at_ which tv : Int) (w : World)
    (hd : IsPg w fa nf fc ca nc cc lk ka nk kc d0) (hd1 : IsPg w fa1 nf1 fc1 ca1 nc1 cc1 lk1 ka1 nk1 kc1 d1) (hto : i64b tv) (hg : ShAt w) (hs : d0.fs.length ≤ 2000000 ∧ (∀ f ∈ d0.fs, f.length ≤ 2000000) ∧ d0.cs.length ≤ 2000000 ∧ d0.ks.length ≤ 2000000) :
    Calls Tryd.prog 3 #[.agg #[.slice fa nf fc, .slice ca nc cc, .int .i64 lk, .slice ka nk kc], .agg #[.slice fa1 nf1 fc1, .slice ca1 nc1 cc1, .int .i64 lk1, .slice ka1 nk1 kc1], .int .i64 f, .int .i64 at_, .int .i64 which, .int .i64 tv] w fun e w' => e = .returned (.bool true) ∧ Below w.heap.size w w' := by
  have HD := Lib.hid hd
  have HD1 := Lib.hid hd1
  have HG := Lib.hid hg
  have HTO := Lib.hid hto
  have HS := Lib.hid hs
  clear hd hd1 hg hto hs
  obtain ⟨s0, hs0⟩ : ∃ s0, s0 = w.heap.size := ⟨_, rfl⟩
  have hO : Own w ((w.alloc (.cells #[.slice fa nf fc, .slice ca nc cc, .int .i64 lk, .slice ka nk kc] 26)).alloc (.cells #[.slice fa1 nf1 fc1, .slice ca1 nc1 cc1, .int .i64 lk1, .slice ka1 nk1 kc1] 26)) [CelA (s0 + 1) [.slice fa1 nf1 fc1, .slice ca1 nc1 cc1, .int .i64 lk1, .slice ka1 nk1 kc1], CelA s0 [.slice fa nf fc, .slice ca nc cc, .int .i64 lk, .slice ka nk kc]] :=
    ((Own.nil (Below.refl _ _)).alloc [.slice fa nf fc, .slice ca nc cc, .int .i64 lk, .slice ka nk kc] _ hs0).alloc [.slice fa1 nf1 fc1, .slice ca1 nc1 cc1, .int .i64 lk1, .slice ka1 nk1 kc1] _ (by simp [hs0])
  have HO := Lib.hid hO
  clear hO
  go_enter Tryd.func3, Tryd.ntmps3
  go_upto_region 1 with fail
  rw [← hs0]
  clear hs0
  generalize ((w.alloc (.cells #[.slice fa nf fc, .slice ca nc cc, .int .i64 lk, .slice ka nk kc] 26)).alloc (.cells #[.slice fa1 nf1 fc1, .slice ca1 nc1 cc1, .int .i64 lk1, .slice ka1 nk1 kc1] 26)) = W at *
  go_wp2_with fail
  refine (awake10_any W (HG.out.below HO.out.bel)).mono ?_
  rintro r w1 ⟨rfl, b1⟩
  have O1 := Lib.hid (HO.out.step b1)
  clear b1 HO
  have h0 := O1.out.cel 0 rfl
  obtain ⟨f0, -⟩ := h0 0 _ rfl
  obtain ⟨f1, -⟩ := h0 1 _ rfl
  obtain ⟨f2, -⟩ := h0 2 _ rfl
  obtain ⟨f3, -⟩ := h0 3 _ rfl
  clear h0
  have HSM := Lib.hid (HD1.out.below O1.out.bel).some
  go_wp2_with fail
  refine HSM.out.mono ?_
  rintro r w2 ⟨ga, gc, rs, da, dc, cs, ea, ec, ks, lq, rfl, hn, hp, hf, ho⟩
  obtain ⟨gn, hgn⟩ : ∃ n, rs.length = n := ⟨_, rfl⟩
  obtain ⟨cn, hcn⟩ : ∃ n, cs.length = n := ⟨_, rfl⟩
  obtain ⟨kn, hkn⟩ : ∃ n, ks.length = n := ⟨_, rfl⟩
  have hch : chkI ⟨rs.map (·.l), cs, lq, ks⟩ = (0, 0, 0) := chkI_ok (by rw [List.length_map]; exact hn) hp (fun g hg => by
    obtain ⟨r, hr, rfl⟩ := List.mem_map.1 hg
    rw [List.length_map]; exact hf r hr)
  have HCH := Lib.hid hch
  rw [hgn, hcn, hkn] at ho ⊢
  rw [hgn] at hn
  have hcn4 : cn ≤ 4 := by have := hp.1; omega
  have hkn8 : kn ≤ 8 := by have := hp.2.1; omega
  obtain ⟨qb, hqb⟩ : ∃ qb, qb = w2.heap.size := ⟨_, rfl⟩
  have O2 := Lib.hid (ho.alloc [.slice ga gn gc, .slice da cn dc, .int .i64 lq, .slice ea kn ec] 26 hqb)
  have HF := Lib.hid (show ∀ r ∈ rs, (1 ≤ r.l.length ∧ r.l.length ≤ 20) ∧ ∀ x ∈ r.l, i64b x.2.2.1 from fun r hr => ⟨⟨(hf r hr).1, (hf r hr).2.1⟩, fun x hx => ((hf r hr).2.2 x hx).2⟩)
  have HN := Lib.hid (And.intro hgn (And.intro hcn hkn))
  clear ho hp hf hgn hcn hkn f0 f1 f2 f3 HSM hch
  go_upto_region 4 with fail
  rw [← hqb]
  generalize w2.alloc (.cells #[.slice ga gn gc, .slice da cn dc, .int .i64 lq, .slice ea kn ec] 26) = W2 at *
  clear hqb
  obtain ⟨d, hde⟩ : ∃ d : PD, d = ⟨rs.map (·.l), cs, lq, ks⟩ := ⟨_, rfl⟩
  have e1 : d.fs.length = gn := by rw [hde]; simp [HN.out.1]
  have e2 : d.cs.length = cn := by rw [hde]; exact HN.out.2.1
  have e3 : d.ks.length = kn := by rw [hde]; exact HN.out.2.2
  have e4 : d.lk = lq := by rw [hde]
  have hpat : PAt W2 ga da ea d := by
    rw [hde]
    have o := O2.out
    refine ⟨?_, IntsAt.of_cells (o.rowG 2 rfl).cells, CasAt.of_cells (o.rowG 3 rfl).cells⟩
    refine Own.funAtG (w0 := w1) (As := []) (R := []) ?_ (o.rowG 1 rfl)
    rw [List.append_nil]
    exact o.drop.drop.drop.drop
  have hlf : ∀ f ∈ d.fs, f.length ≤ 2000000 := fun g hg => by
    rw [hde] at hg
    obtain ⟨r, hr, rfl⟩ := List.mem_map.1 hg
    have := (HF.out r hr).1.2; omega
  have how := own_any ga gc da dc ea ec d W2 hpat (by omega) hlf (by omega) (by omega)
  have hck := fun fa' fc' ca' cc' ka' kc' w' (hg : ShAt w') hp => check_any fa' fc' ca' cc' ka' kc' d w' hg hp
  rw [← hde] at HCH
  simp only [HCH.out] at hck
  unfold pv at how hck
  rw [e1, e2, e3, e4] at how
  simp only [e1, e2, e3, e4] at hck
  have HOW := Lib.hid how
  have HCK := Lib.hid hck
  have hqc := O2.out.cel 0 rfl
  obtain ⟨f0, -⟩ := hqc 0 _ rfl
  obtain ⟨f1, -⟩ := hqc 1 _ rfl
  obtain ⟨f2, -⟩ := hqc 2 _ rfl
  obtain ⟨f3, -⟩ := hqc 3 _ rfl
  clear e1 e2 e3 e4 hpat hlf how hck hqc
  go_wp2_with fail
  refine HOW.out.mono ?_
  rintro r w3 ⟨xa, xb, xc, xd, xe, xf, rfl, hp3, b3⟩
  have HC := Lib.hid (HCK.out xa xb xc xd xe xf w3 (HG.out.below (below_on O1.out.bel (below_on O2.out.bel b3))) hp3)
  have O3 := Lib.hid (O2.out.step b3)
  clear hp3 b3 f0 f1 f2 f3
  go_wp2_with fail
  refine HC.out.mono ?_
  rintro r w4 ⟨rfl, b4⟩
  have O4 := Lib.hid (O3.out.step (below_on b4 (below_alloc1 w4 (.cells #[.int .i64 0, .int .i64 0, .int .i64 0] 31))))
  clear b4 O2 O3 HC HOW HCK hde
  go_upto_region 7 with fail
  generalize w4.alloc (.cells #[.int .i64 0, .int .i64 0, .int .i64 0] 31) = W5 at *
  obtain ⟨x, hx, hmx⟩ : ∃ x : Nat, x < gn ∧ ∀ w', Calls Tryd.prog 9 #[.int .i64 f, .int .i64 (gn : Int)] w' fun e w'' => e = .returned (.int .i64 (x : Int)) ∧ w'' = w' := by
    obtain ⟨m1, m2⟩ := modI_range f gn (by omega)
    refine ⟨(modI f gn).toNat, by omega, fun w' => ?_⟩
    rw [Int.toNat_of_nonneg m1]
    exact mod_any f gn w' (by omega)
  obtain ⟨r, hr⟩ : ∃ r, rs[x]? = some r := ⟨_, List.getElem?_eq_getElem (by rw [HN.out.1]; exact hx)⟩
  obtain ⟨ra, rc, rl⟩ := r
  have hrl := HF.out _ (List.mem_of_getElem? hr)
  obtain ⟨⟨hr1, hr2⟩, hr3⟩ := hrl
  simp only at hr1 hr2 hr3
  obtain ⟨gb, go_, rfl, gx⟩ := (O4.out.rowG 1 rfl).cells x _ (frs_at hr)
  simp only at gx
  obtain ⟨k, hk, hmk⟩ : ∃ k : Nat, k < rl.length ∧ ∀ w', Calls Tryd.prog 9 #[.int .i64 at_, .int .i64 (rl.length : Int)] w' fun e w'' => e = .returned (.int .i64 (k : Int)) ∧ w'' = w' := by
    obtain ⟨m1, m2⟩ := modI_range at_ rl.length (by omega)
    refine ⟨(modI at_ rl.length).toNat, by omega, fun w' => ?_⟩
    rw [Int.toNat_of_nonneg m1]
    exact mod_any at_ rl.length w' (by omega)
  obtain ⟨y, hy, hmy⟩ : ∃ y : Nat, y < 4 ∧ ∀ w', Calls Tryd.prog 9 #[.int .i64 which, .int .i64 4] w' fun e w'' => e = .returned (.int .i64 (y : Int)) ∧ w'' = w' := by
    obtain ⟨m1, m2⟩ := modI_range which 4 (by omega)
    refine ⟨(modI which 4).toNat, by omega, fun w' => ?_⟩
    rw [Int.toNat_of_nonneg m1]
    exact mod_any which 4 w' (by omega)
  have HMX := Lib.hid hmx
  have HMK := Lib.hid hmk
  have HMY := Lib.hid hmy
  have HR := Lib.hid hr
  have HR3 := Lib.hid hr3
  have hx' : (x : Int) < (gn : Int) := by omega
  have SCB : ∀ wx, Below W5.heap.size W5 wx → wx.cell? ⟨qb, 0, none⟩ = some (.slice (some ⟨gb, go_, none⟩) gn gc) := fun wx h => cell_below (O4.out.cel 0 rfl 0 _ rfl).1 h
  have SC := Lib.hid SCB
  clear hmx hmk hmy hr hr3 SCB
  refine wp_region_lexH (fun wx => wx.cell? ⟨qb, 0, none⟩ = some (.slice (some ⟨gb, go_, none⟩) gn gc)) 9 (Array.replicate 9 false) (by kernel_rfl) (by kernel_rfl) ?_
  refine wpAnyH_seg 0 6 _ #[true, true, true, true, true, true, false, false, false] 3 (by kernel_rfl) noPanic_put (SC.out _ (below_drew1 W5)) (by kernel_rfl) ?_
  simp only [List.take_succ_cons, List.take_zero, List.drop_zero]
  repeat (first
    | (refine wpSegH_no (by rfl) ?_; simp only [Act.put, List.setIfInBounds_toArray, List.set_cons_zero, List.set_cons_succ])
    | (refine wpSegH_yes (by rfl) ?_; apply Exists.intro; apply And.intro; (· (intro wx hS; (try dsimp only at hS); go_simp; first | done | with_reducible rfl)); simp only [Act.put, List.setIfInBounds_toArray, List.set_cons_zero, List.set_cons_succ]))
  refine wpSegH_nil ?_
  refine wpAnyH_one 6 _ #[true, true, true, true, true, true, true, false, false] 2 (by kernel_rfl) (fun K hK => ?_)
  have HKK := Lib.hid hK
  clear hK
  simp only [List.drop_succ_cons, List.drop_zero]
  refine headH_mk (by rfl) ?_
  go_simp
  refine (HMX.out _).mono ?_
  rintro r w7 ⟨rfl, rfl⟩
  refine HKK.out _ _ (SC.out _ (below_drew1 W5)) ?_
  clear HKK K
  refine wpAnyH_seg 7 2 _ #[true, true, true, true, true, true, true, true, true] 0 (by kernel_rfl) noPanic_put (SC.out _ (below_drew1 W5)) (by kernel_rfl) ?_
  simp only [List.take_succ_cons, List.take_zero, List.drop_succ_cons, List.drop_zero]
  repeat (first
    | (refine wpSegH_no (by rfl) ?_; simp only [Act.put, List.setIfInBounds_toArray, List.set_cons_zero, List.set_cons_succ])
    | (refine wpSegH_yes (by rfl) ?_; apply Exists.intro; apply And.intro; (· (intro wx hS; (try dsimp only at hS); go_simp; first | done | with_reducible rfl)); simp only [Act.put, List.setIfInBounds_toArray, List.set_cons_zero, List.set_cons_succ]))
  refine wpSegH_nil ?_
  refine wpAnyH_done (by kernel_rfl) (NoPanic.normal ?_) _
  have O5 := Lib.hid (O4.out.step (below_drew1 W5))
  have gx := cell_below gx (below_drew1 W5)
  generalize W5.drew = W6 at *
  clear O4 SC HMX hx'
  have hk' : (k : Int) < (rl.length : Int) := by omega
  go_wp2_with fail
  refine (HMK.out _).mono ?_
  rintro r W6 ⟨rfl, rfl⟩
  go_wp2_with fail
  refine (HMY.out _).mono ?_
  rintro r W6 ⟨rfl, rfl⟩
  go_upto_block 0 with fail
  go_cut [13] (fun s wx => s = .pointer (some ⟨qb, 0, none⟩) ∧ ∃ l' : List In4, l'.length = rl.length ∧ (∀ x ∈ l', i64b x.2.2.1) ∧ Own w1 wx (CelA qb [.slice (some ⟨gb, go_, none⟩) gn gc, .slice da cn dc, .int .i64 lq, .slice ea kn ec] :: RowGA 1 (some ⟨gb, go_, none⟩) gc gn (frs rs) :: RowGA 1 da dc cn (intc cs) :: RowGA 3 ea ec kn (cac ks) :: fns (rs.set x ⟨ra, rc, l'⟩)))
  case first =>
    have O6 := O5.out.perm (List.perm_append_comm (l₁ := [CelA qb [.slice (some ⟨gb, go_, none⟩) gn gc, .slice da cn dc, .int .i64 lq, .slice ea kn ec], RowGA 1 (some ⟨gb, go_, none⟩) gc gn (frs rs), RowGA 1 da dc cn (intc cs), RowGA 3 ea ec kn (cac ks)]) (l₂ := fns rs))
    obtain ⟨R', h7, hback⟩ := O6.fnPick HR.out
    unfold fra at h7
    simp only at h7
    have hrg := h7.rowG 0 rfl
    obtain ⟨rb, ro, rfl, -⟩ := hrg.cells (k * 4) _ (inc_at rl k hk).1
    have hroom : k * 4 + 4 ≤ rc * 4 := by have := hrg.2.1; omega
    have hset := fun (j : Nat) (hj : j < 4) => h7.rowSet (k * 4 + j) (.int .i64 tv) (by rw [inc_len]; omega)
    have HSET := Lib.hid (show ∀ j, j < 4 → Own w1 (W6.setCell ⟨rb, ro + (k * 4 + j), none⟩ (.int .i64 tv)) (CelA qb [.slice (some ⟨gb, go_, none⟩) gn gc, .slice da cn dc, .int .i64 lq, .slice ea kn ec] :: RowGA 1 (some ⟨gb, go_, none⟩) gc gn (frs rs) :: RowGA 1 da dc cn (intc cs) :: RowGA 3 ea ec kn (cac ks) :: fns (rs.set x ⟨some ⟨rb, ro, none⟩, rc, rl.set k (updI j tv rl[k])⟩)) from fun j hj => by
      have h8 := hset j hj
      rw [inc_upd j hj tv rl k hk] at h8
      have h9 := hback _ ⟨some ⟨rb, ro, none⟩, rc, rl.set k (updI j tv rl[k])⟩ (by unfold fra; simp only [List.length_set]; exact h8)
      exact h9.perm (List.perm_append_comm (l₁ := fns (rs.set x ⟨some ⟨rb, ro, none⟩, rc, rl.set k (updI j tv rl[k])⟩)) (l₂ := [CelA qb [.slice (some ⟨gb, go_, none⟩) gn gc, .slice da cn dc, .int .i64 lq, .slice ea kn ec], RowGA 1 (some ⟨gb, go_, none⟩) gc gn (frs rs), RowGA 1 da dc cn (intc cs), RowGA 3 ea ec kn (cac ks)])))
    rcases (by omega : y = 0 ∨ y = 1 ∨ y = 2 ∨ y = 3) with rfl | rfl | rfl | rfl
    · obtain ⟨z, s1, t1⟩ := hrg.spot (k * 4 + 0) (by omega)
      have s1 : W6.cell? ⟨rb, ro + k * 4, none⟩ = some z := s1
      have t1 : W6.frozen? ⟨rb, ro + k * 4, none⟩ = false := t1
      clear hset hback hrg h7 O6
      go_wp2_with fail
      go_meet
      exact ⟨rfl, rl.set k (updI 0 tv rl[k]), by simp, fits_upd 0 tv HTO.out rl k hk HR3.out, HSET.out 0 (by omega)⟩
    · obtain ⟨z, s1, t1⟩ := hrg.spot (k * 4 + 1) (by omega)
      have s1 : W6.cell? ⟨rb, ro + k * 4 + 1, none⟩ = some z := s1
      have t1 : W6.frozen? ⟨rb, ro + k * 4 + 1, none⟩ = false := t1
      clear hset hback hrg h7 O6
      go_wp2_with fail
      go_meet
      exact ⟨rfl, rl.set k (updI 1 tv rl[k]), by simp, fits_upd 1 tv HTO.out rl k hk HR3.out, HSET.out 1 (by omega)⟩
    · obtain ⟨z, s1, t1⟩ := hrg.spot (k * 4 + 2) (by omega)
      have s1 : W6.cell? ⟨rb, ro + k * 4 + 2, none⟩ = some z := s1
      have t1 : W6.frozen? ⟨rb, ro + k * 4 + 2, none⟩ = false := t1
      clear hset hback hrg h7 O6
      go_wp2_with fail
      go_meet
      exact ⟨rfl, rl.set k (updI 2 tv rl[k]), by simp, fits_upd 2 tv HTO.out rl k hk HR3.out, HSET.out 2 (by omega)⟩
    · obtain ⟨z, s1, t1⟩ := hrg.spot (k * 4 + 3) (by omega)
      have s1 : W6.cell? ⟨rb, ro + k * 4 + 3, none⟩ = some z := s1
      have t1 : W6.frozen? ⟨rb, ro + k * 4 + 3, none⟩ = false := t1
      clear hset hback hrg h7 O6
      go_wp2_with fail
      go_meet
      exact ⟨rfl, rl.set k (updI 3 tv rl[k]), by simp, fits_upd 3 tv HTO.out rl k hk HR3.out, HSET.out 3 (by omega)⟩
  case rest =>
    obtain ⟨rfl, l', hl1, hl2, ho⟩ := hcut
    clear gx O5
    obtain ⟨rs', hrs'⟩ : ∃ rs', rs' = rs.set x ⟨ra, rc, l'⟩ := ⟨_, rfl⟩
    have hsame : frs rs' = frs rs := by rw [hrs']; exact frs_same HR.out hl1
    have hlen' : rs'.length = gn := by rw [hrs', List.length_set]; exact HN.out.1
    have hall : ∀ r ∈ rs', r.l.length ≤ 2000000 ∧ ∀ x ∈ r.l, i64b x.2.2.1 := fun r hr => by
      rw [hrs'] at hr
      rcases List.mem_or_eq_of_mem_set hr with h | h
      · have := HF.out r h; exact ⟨by omega, this.2⟩
      · rw [h]; exact ⟨by simp only; omega, hl2⟩
    rw [← hrs'] at ho
    clear hrs' hl1 hl2
    have hq := ho.cel 0 rfl
    obtain ⟨f0, -⟩ := hq 0 _ rfl
    obtain ⟨f1, -⟩ := hq 1 _ rfl
    obtain ⟨f2, -⟩ := hq 2 _ rfl
    obtain ⟨f3, -⟩ := hq 3 _ rfl
    have hp := (O1.out.cel 1 rfl).below ho.bel
    obtain ⟨e0, -⟩ := hp 0 _ rfl
    obtain ⟨e1, -⟩ := hp 1 _ rfl
    obtain ⟨e2, -⟩ := hp 2 _ rfl
    obtain ⟨e3, -⟩ := hp 3 _ rfl
    obtain ⟨pb, hpb⟩ : ∃ pb, pb = wc.heap.size := ⟨_, rfl⟩
    have hB := Blk.mk wc [.slice fa nf fc, .slice ca nc cc, .int .i64 lk, .slice ka nk kc, .slice (some ⟨gb, go_, none⟩) gn gc, .slice da cn dc, .int .i64 lq, .slice ea kn ec] 26 pb hpb
    have hb8 := below_alloc1 wc (.cells #[.slice fa nf fc, .slice ca nc cc, .int .i64 lk, .slice ka nk kc, .slice (some ⟨gb, go_, none⟩) gn gc, .slice da cn dc, .int .i64 lq, .slice ea kn ec] 26)
    have HBW := Lib.hid (below_on O1.out.bel (below_on ho.bel hb8))
    have hy0 : YP (wc.alloc (.cells #[.slice fa nf fc, .slice ca nc cc, .int .i64 lk, .slice ka nk kc, .slice (some ⟨gb, go_, none⟩) gn gc, .slice da cn dc, .int .i64 lq, .slice ea kn ec] 26)) pb 0 := by
      obtain ⟨h1, h2, h3, h4, h5, h6, h7, h8, h9, h10, h11⟩ := HD.out.below HBW.out
      exact ⟨fa, nf, fc, ca, nc, cc, lk, ka, nk, kc, d0, fun wx hb => ⟨cell_below (hB 0 _ rfl).1 hb, cell_below (hB 1 _ rfl).1 hb, cell_below (hB 2 _ rfl).1 hb, cell_below (hB 3 _ rfl).1 hb⟩, ⟨h1, h2, h3, h4⟩, ⟨h8.funAt, h9, h10⟩, h11, HS.out⟩
    have hy1 : YP (wc.alloc (.cells #[.slice fa nf fc, .slice ca nc cc, .int .i64 lk, .slice ka nk kc, .slice (some ⟨gb, go_, none⟩) gn gc, .slice da cn dc, .int .i64 lq, .slice ea kn ec] 26)) pb 1 := by
      have o := ho.step hb8
      refine ⟨some ⟨gb, go_, none⟩, gn, gc, da, cn, dc, lq, ea, kn, ec, ⟨rs'.map (·.l), cs, lq, ks⟩, fun wx hb => ⟨cell_below (hB 4 _ rfl).1 hb, cell_below (hB 5 _ rfl).1 hb, cell_below (hB 6 _ rfl).1 hb, cell_below (hB 7 _ rfl).1 hb⟩, ⟨by simp [hlen'], HN.out.2.1, HN.out.2.2, rfl⟩, ⟨?_, IntsAt.of_cells (o.rowG 2 rfl).cells, CasAt.of_cells (o.rowG 3 rfl).cells⟩, ?_, ?_, ?_, ?_, ?_⟩
      · have hrw := o.rowG 1 rfl
        rw [← hsame] at hrw
        refine Own.funAtG (w0 := w1) (As := []) (R := []) ?_ hrw
        rw [List.append_nil]
        exact o.drop.drop.drop.drop
      · intro g hg z hz
        obtain ⟨r, hr, rfl⟩ := List.mem_map.1 hg
        exact (hall r hr).2 z hz
      · simp only [List.length_map, hlen']; omega
      · intro g hg
        obtain ⟨r, hr, rfl⟩ := List.mem_map.1 hg
        exact (hall r hr).1
      · simp only; rw [HN.out.2.1]; omega
      · simp only; rw [HN.out.2.2]; omega
    have HY := Lib.hid (And.intro hy0 hy1)
    clear hy0 hy1 hB hb8 hp hq ho hall hsame hlen' O1 HD HD1 HS HF HR HR3 HMK HMY HTO hk' HN HCH
    go_wp2_with fail
    rw [← hpb]
    clear hpb f0 f1 f2 f3 e0 e1 e2 e3
    generalize wc.alloc (.cells #[.slice fa nf fc, .slice ca nc cc, .int .i64 lk, .slice ka nk kc, .slice (some ⟨gb, go_, none⟩) gn gc, .slice da cn dc, .int .i64 lq, .slice ea kn ec] 26) = W8 at *
    have HB0 := Lib.hid (Below.refl W8.heap.size W8)
    have HG8 := Lib.hid (HG.out.below HBW.out)
    go_loopw [98] (fun s wx => ∃ j : Nat, j ≤ 2 ∧ s = .int .i64 j ∧ Hid (Below W8.heap.size W8 wx)) (fun s _ => 2 - (intOf s).toNat)
    case atStart => exact ⟨0, by omega, rfl, HB0⟩
    case round =>
      obtain ⟨j, hj, rfl, hr⟩ := hrel
      clear HB0
      by_cases hj2 : j < 2
      · have hj2' : (j : Int) < 2 := by omega
        have hyj : YP W8 pb j := by
          rcases (by omega : j = 0 ∨ j = 1) with rfl | rfl
          · exact HY.out.1
          · exact HY.out.2
        obtain ⟨ya, yn, yc, za, zn, zc, yl, ua, un, uc, d, hcells, ⟨d1, d2, d3, d4⟩, hpat, hfit, k1, k2, k3, k4⟩ := hyj
        obtain ⟨e0, e1, e2, e3⟩ := hcells wr hr.out
        obtain ⟨tb, htb⟩ : ∃ tb, tb = wr.heap.size := ⟨_, rfl⟩
        have hT := Blk.mk wr [.slice ya yn yc, .slice za zn zc, .int .i64 yl, .slice ua un uc] 26 tb htb
        have hb9 := below_on hr.out (below_alloc1 wr (.cells #[.slice ya yn yc, .slice za zn zc, .int .i64 yl, .slice ua un uc] 26))
        have HT := Lib.hid hT
        have HB9 := Lib.hid hb9
        clear hT hb9 hr hcells
        go_upto_region 21 with fail
        rw [← htb]
        generalize wr.alloc (.cells #[.slice ya yn yc, .slice za zn zc, .int .i64 yl, .slice ua un uc] 26) = W9 at *
        clear htb e0 e1 e2 e3
        have hpat9 := hpat.below HB9.out
        obtain ⟨A, B, E, hch⟩ : ∃ A B E, chkI d = (A, B, E) := ⟨_, _, _, rfl⟩
        have hrc := refcheck_any ya yc za zc ua uc d W9 hpat9 hfit
        have how := fun w' (hb : Below W9.heap.size W9 w') => own_any ya yc za zc ua uc d w' (hpat9.below hb) k1 k2 k3 k4
        have hck := fun fa' fc' ca' cc' ka' kc' w' (hg : ShAt w') hp => check_any fa' fc' ca' cc' ka' kc' d w' hg hp
        rw [hch] at hrc
        simp only [hch] at hck
        unfold pv at hrc how hck
        rw [d1, d2, d3, d4] at hrc
        simp only [d1, d2, d3, d4] at how hck
        have HRC := Lib.hid hrc
        have HOW := Lib.hid how
        have HCK := Lib.hid hck
        have HG9 := Lib.hid (HG8.out.below HB9.out)
        obtain ⟨f0, -⟩ := HT.out 0 _ rfl
        obtain ⟨f1, -⟩ := HT.out 1 _ rfl
        obtain ⟨f2, -⟩ := HT.out 2 _ rfl
        obtain ⟨f3, -⟩ := HT.out 3 _ rfl
        clear d1 d2 d3 d4 hpat hpat9 hfit k1 k2 k3 k4 hch hrc how hck
        go_wp2_with fail
        refine HRC.out.mono ?_
        rintro r w6 ⟨rfl, b6⟩
        have HB6 := Lib.hid b6
        have hqc := HT.out.below b6
        clear f0 f1 f2 f3 b6
        obtain ⟨f0, -⟩ := hqc 0 _ rfl
        obtain ⟨f1, -⟩ := hqc 1 _ rfl
        obtain ⟨f2, -⟩ := hqc 2 _ rfl
        obtain ⟨f3, -⟩ := hqc 3 _ rfl
        clear hqc
        go_wp2_with fail
        refine (HOW.out _ HB6.out).mono ?_
        rintro r w7 ⟨xa, xb, xc, xd, xe, xf, rfl, hp7, b7⟩
        have HB7 := Lib.hid (below_on HB6.out b7)
        have HC := Lib.hid (HCK.out xa xb xc xd xe xf w7 (HG9.out.below HB7.out) hp7)
        clear hp7 b7
        go_wp2_with fail
        refine HC.out.mono ?_
        rintro r w8 ⟨rfl, b8⟩
        have HB8 := Lib.hid (below_on HB9.out (below_on HB7.out b8))
        clear b8 f0 f1 f2 f3
        by_cases hE : E = 0
        · subst hE
          go_wp2_with fail
          exact ⟨⟨j + 1, by omega, by go_num, Lib.hid (below_on HB8.out (below_alloc1 _ _))⟩, by simp [intOf]; omega⟩
        · have hE2 : (E == 0) = false := by simpa using hE
          rw [hE2]
          go_wp2_with fail
          exact ⟨⟨j + 1, by omega, by go_num, Lib.hid (below_on HB8.out (below_alloc1 _ _))⟩, by simp [intOf]; omega⟩
      · obtain rfl : j = 2 := by omega
        go_wp2_with fail
        go_ret
        exact ⟨rfl, below_on HBW.out hr.out⟩
end Go.Proofs.YtjanangcfgmdeaaDoor.codeChecks
