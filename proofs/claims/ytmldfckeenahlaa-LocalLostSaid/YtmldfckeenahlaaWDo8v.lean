/-
  The law's does: Steal of another.
-/
import Derived.Test.YtmldfckeenahlaaWDo8j
open Go Go.RowKit
set_option linter.unusedVariables false
namespace Go.Proofs.Ytmldfckeenahlaa
set_option maxRecDepth 100000 in
set_option maxHeartbeats 8000000 in
theorem does_6b (w0 w : World) (wb b : Nat) (ds : List Qd) (gl : List Int) (nx : Nat) (out : List Int) (kd wh n : Int) (h : St8 w0 w wb b ds gl nx out) (hK : (bits BinOp.and IntKind.i64 kd 255).tmod 10 = 6) (hother : bits BinOp.and IntKind.i64 wh 3 ≠ bits BinOp.and IntKind.i64 n 3) (hn : nx ≤ 100) :
    Calls Try.prog 7 #[.pointer (some ⟨wb, 0, none⟩), .agg #[.int .i64 kd, .int .i64 wh, .int .i64 n]] w fun r w' => Does8 w0 wb b nx r w' := by
  obtain ⟨la, lc, xa, xc, rs, ya, yc, oa, oc, h1, h2, h3, h4, h5⟩ := h
  obtain ⟨i, hi, hi4⟩ : ∃ i : Nat, bits BinOp.and IntKind.i64 wh 3 = (i : Int) ∧ i < 4 := ⟨(wh % 4).toNat, by rw [and_3i]; omega, by omega⟩
  obtain ⟨k, hk, hk4⟩ : ∃ k : Nat, bits BinOp.and IntKind.i64 n 3 = (k : Int) ∧ k < 4 := ⟨(n % 4).toNat, by rw [and_3i]; omega, by omega⟩
  have hne : i ≠ k := by omega
  clear hother
  obtain ⟨d, hd⟩ : ∃ d, ds[i]? = some d := ⟨_, List.getElem?_eq_getElem (by omega)⟩
  have hil : i < ds.length := by omega
  have hpool := h3 d (List.mem_of_getElem? hd)
  unfold D8 at h1
  obtain ⟨lb, lo, rfl, -⟩ := (h1.rowG 1 rfl).cells i _ (lptr_at hd)
  obtain ⟨xb, xo, rfl, -⟩ := (h1.rowG 3 rfl).cells.xq hd
  have hinv := h5.nonneg
  have hlen := h5.len
  have hll : d.q.l.length ≤ d.N ∧ 1 ≤ d.N ∧ d.N ≤ 1024 := by
    obtain ⟨F, ⟨_, hL⟩, _⟩ := (h1.locOut hd).head
    have := hL.ll
    exact ⟨this.1, this.2.1, this.2.2.1⟩
  obtain ⟨e, he⟩ : ∃ e, ds[k]? = some e := ⟨_, List.getElem?_eq_getElem (by omega)⟩
  have hkl : k < ds.length := by omega
  have hlle : e.q.l.length ≤ e.N ∧ 1 ≤ e.N ∧ e.N ≤ 1024 := by
    obtain ⟨F, ⟨_, hL⟩, _⟩ := (h1.locOut he).head
    have := hL.ll
    exact ⟨this.1, this.2.1, this.2.2.1⟩
  have HE := Lib.hid (And.intro he (And.intro hkl (h3 e (List.mem_of_getElem? he))))
  clear he
  have hgl : gl.length ≤ 100 := by omega
  have hnn : ∀ v, d.q.nx = some v → 0 ≤ v := fun v hv => (hinv v (List.mem_append.2 (.inl ((alln_out hd).mem_iff.2 (List.mem_append.2 (.inl (by unfold qn; rw [hv]; simp))))))).1
  have HNN := Lib.hid (And.intro hnn hinv)
  have HP := Lib.hid (And.intro hpool (And.intro h3 h4))
  have H5 := Lib.hid h5
  have HD := Lib.hid (And.intro hd (And.intro hil h2))
  obtain ⟨ab, hab⟩ : ∃ ab, ab = w.heap.size := ⟨_, rfl⟩
  have hbA := below_alloc1 w (.cells #[.int .i64 kd, .int .i64 wh, .int .i64 n] 29)
  have HO := Lib.hid (h1.alloc [.int .i64 kd, .int .i64 wh, .int .i64 n] 29 hab).rot
  have hact := Blk.mk w [.int .i64 kd, .int .i64 wh, .int .i64 n] 29 ab hab
  have HACT := Lib.hid hact
  clear h1 h2 h3 h4 h5 hd hil hkl hpool hinv hlen hnn hbA hact
  go_enter Try.func7, Try.ntmps7
  go_upto_region 1 with fail
  rw [← hab]
  generalize w.alloc (.cells #[.int .i64 kd, .int .i64 wh, .int .i64 n] 29) = W at *
  clear hab
  obtain ⟨q0, -⟩ := HACT.out 0 _ rfl
  obtain ⟨q1, -⟩ := HACT.out 1 _ rfl
  obtain ⟨q2, -⟩ := HACT.out 2 _ rfl
  go_upto_region 26 with fail
  clear q0 q1 q2 hK hi hk
  have hi4' : (i : Int) < 4 := by omega
  have hk4' : (k : Int) < 4 := by omega
  have hne' : ¬ ((i : Int) = (k : Int)) := by omega
  obtain ⟨x, hxe⟩ : ∃ x, x = (mSteal d.N d.q e.q).2.2 := ⟨_, rfl⟩
  have hpm := mSteal_perm d.N d.q e.q
  rw [← hxe] at hpm
  have hxn : ∀ v, x = some v → 0 ≤ v := fun v hv => by
    have h1 : v ∈ d.q.nx.toList ++ d.q.l ++ (e.q.nx.toList ++ e.q.l) := hpm.mem_iff.1 (List.mem_append.2 (.inr (by rw [hv]; simp)))
    refine (HNN.out.2 v (List.mem_append.2 (.inl ?_))).1
    rcases List.mem_append.1 h1 with h2 | h2
    · exact (alln_out HD.out.1).mem_iff.2 (List.mem_append.2 (.inl h2))
    · exact (alln_out HE.out.1).mem_iff.2 (List.mem_append.2 (.inl h2))
  have holn : out.length ≤ 1000 := by have := H5.out.len; omega
  have HXN := Lib.hid (And.intro hxn (And.intro holn hpm))
  have HXE := Lib.hid hxe
  have HNE := Lib.hid hne
  have SCX : ∀ (wx : World) (L : List Asr), Own w0 wx (CelA wb [.slice (some ⟨lb, lo, none⟩) 4 lc, .pointer (some ⟨b, 0, none⟩), .slice (some ⟨xb, xo, none⟩) 4 xc, .slice ya gl.length yc, .int .i64 (nx : Int), .slice oa out.length oc] :: RowGA 1 (some ⟨lb, lo, none⟩) lc 4 (lptr ds) :: L) → (wx.cell? ⟨wb, 0, none⟩ = some (.slice (some ⟨lb, lo, none⟩) 4 lc) ∧ wx.cell? ⟨lb, lo + i, none⟩ = some (.pointer (some ⟨d.p, 0, none⟩)) ∧ wx.cell? ⟨lb, lo + k, none⟩ = some (.pointer (some ⟨e.p, 0, none⟩))) := fun wx L h =>
    ⟨(h.cel 0 rfl 0 _ rfl).1, by
      obtain ⟨b2, o2, e, hc⟩ := (h.rowG 1 rfl).cells i _ (lptr_at HD.out.1)
      cases e; exact hc, by
      obtain ⟨b2, o2, e, hc⟩ := (h.rowG 1 rfl).cells k _ (lptr_at HE.out.1)
      cases e; exact hc⟩
  have SCY : ∀ (wx : World) (A B : Asr) (L : List Asr), Own w0 wx (CelA wb [.slice (some ⟨lb, lo, none⟩) 4 lc, .pointer (some ⟨b, 0, none⟩), .slice (some ⟨xb, xo, none⟩) 4 xc, .slice ya gl.length yc, .int .i64 (nx : Int), .slice oa out.length oc] :: A :: B :: RowGA 3 (some ⟨xb, xo, none⟩) xc 4 (xcs ds) :: L) → (wx.cell? ⟨wb, 2, none⟩ = some (.slice (some ⟨xb, xo, none⟩) 4 xc) ∧ wx.cell? ⟨xb, xo + i * 3, none⟩ = some (.int .i64 d.q.num) ∧ wx.cell? ⟨xb, xo + i * 3 + 1, none⟩ = some (.slice d.xa d.q.l.length d.xc) ∧ wx.cell? ⟨xb, xo + i * 3 + 2, none⟩ = some (.int .i64 (d.N : Int)) ∧ wx.cell? ⟨xb, xo + k * 3, none⟩ = some (.int .i64 e.q.num) ∧ wx.cell? ⟨xb, xo + k * 3 + 1, none⟩ = some (.slice e.xa e.q.l.length e.xc) ∧ wx.cell? ⟨xb, xo + k * 3 + 2, none⟩ = some (.int .i64 (e.N : Int))) := fun wx A B L h => by
    obtain ⟨b2, o2, e1, hc0, hc1, hc2⟩ := (h.rowG 3 rfl).cells.xq HD.out.1
    cases e1
    obtain ⟨b2, o2, e1, hd0, hd1, hd2⟩ := (h.rowG 3 rfl).cells.xq HE.out.1
    cases e1
    exact ⟨(h.cel 0 rfl 2 _ rfl).1, hc0, hc1, hc2, hd0, hd1, hd2⟩
  have HX := Lib.hid SCX
  have HY := Lib.hid SCY
  clear SCX SCY hxe hpm hxn holn hne
  have o1 : Own w0 W.drew (CelA wb [.slice (some ⟨lb, lo, none⟩) 4 lc, .pointer (some ⟨b, 0, none⟩), .slice (some ⟨xb, xo, none⟩) 4 xc, .slice ya gl.length yc, .int .i64 (nx : Int), .slice oa out.length oc] :: RowGA 1 (some ⟨lb, lo, none⟩) lc 4 (lptr ds) :: gloA b gl :: RowGA 3 (some ⟨xb, xo, none⟩) xc 4 (xcs ds) :: PoolA rs :: RowA oa oc out :: (locs ds ++ [CelA ab [.int .i64 kd, .int .i64 wh, .int .i64 n]])) := HO.out.step (below_drew1 W)
  have O1 := Lib.hid o1
  clear HO HACT o1
  obtain ⟨rr, l1, l2⟩ := loc_two (A := CelA wb [.slice (some ⟨lb, lo, none⟩) 4 lc, .pointer (some ⟨b, 0, none⟩), .slice (some ⟨xb, xo, none⟩) 4 xc, .slice ya gl.length yc, .int .i64 (nx : Int), .slice oa out.length oc]) (B := RowGA 1 (some ⟨lb, lo, none⟩) lc 4 (lptr ds)) (C := gloA b gl) (D := RowGA 3 (some ⟨xb, xo, none⟩) xc 4 (xcs ds)) (E := PoolA rs) (F := RowA oa oc out) (T := CelA ab [.int .i64 kd, .int .i64 wh, .int .i64 n]) HNE.out HD.out.1 HE.out.1
  have hpr := own_steal8 (l1 _ _ O1.out)
  unfold gotv at hpr
  rw [← HXE.out] at hpr
  have HL2 := Lib.hid l2
  clear l1 l2
  refine wp_region_lexH (fun wx => wx.cell? ⟨wb, 0, none⟩ = some (.slice (some ⟨lb, lo, none⟩) 4 lc) ∧ wx.cell? ⟨lb, lo + i, none⟩ = some (.pointer (some ⟨d.p, 0, none⟩)) ∧ wx.cell? ⟨lb, lo + k, none⟩ = some (.pointer (some ⟨e.p, 0, none⟩))) 20 (Array.replicate 20 false) (by kernel_rfl) (by kernel_rfl) ?_
  refine wpAnyH_seg 0 14 _ #[true, true, true, true, true, true, true, true, true, true, true, true, true, true, false, false, false, false, false, false] 6 (by kernel_rfl) noPanic_put (HX.out _ _ O1.out) (by kernel_rfl) ?_
  simp only [List.take_succ_cons, List.take_zero, List.drop_zero]
  repeat (first
    | (refine wpSegH_no (by rfl) ?_; simp only [Act.put, List.setIfInBounds_toArray, List.set_cons_zero, List.set_cons_succ])
    | (refine wpSegH_yes (by rfl) ?_; apply Exists.intro; apply And.intro; (· (intro wx hS; (try dsimp only at hS); go_simp; first | done | with_reducible rfl)); simp only [Act.put, List.setIfInBounds_toArray, List.set_cons_zero, List.set_cons_succ]))
  refine wpSegH_nil ?_
  refine wpAnyH_one 14 _ #[true, true, true, true, true, true, true, true, true, true, true, true, true, true, true, false, false, false, false, false] 5 (by kernel_rfl) (fun K hK => ?_)
  have HKK := Lib.hid hK
  clear hK
  simp only [List.drop_succ_cons, List.drop_zero]
  refine headH_mk (by rfl) ?_
  go_simp
  refine hpr.mono ?_
  rintro r w2 ⟨rfl, o2⟩
  have O3 := Lib.hid (HL2.out _ _ _ _ _ _ _ _ _ _ _ o2)
  refine HKK.out _ _ (HX.out _ _ O3.out) ?_
  clear HKK K
  clear hpr o2 O1 HL2
  refine wpAnyH_seg 15 5 _ #[true, true, true, true, true, true, true, true, true, true, true, true, true, true, true, true, true, true, true, true] 0 (by kernel_rfl) noPanic_put (HX.out _ _ O3.out) (by kernel_rfl) ?_
  simp only [List.take_succ_cons, List.take_zero, List.drop_succ_cons, List.drop_zero]
  repeat (first
    | (refine wpSegH_no (by rfl) ?_; simp only [Act.put, List.setIfInBounds_toArray, List.set_cons_zero, List.set_cons_succ])
    | (refine wpSegH_yes (by rfl) ?_; apply Exists.intro; apply And.intro; (· (intro wx hS; (try dsimp only at hS); go_simp; first | done | with_reducible rfl)); simp only [Act.put, List.setIfInBounds_toArray, List.set_cons_zero, List.set_cons_succ]))
  refine wpSegH_nil ?_
  refine wpAnyH_done (by kernel_rfl) (NoPanic.normal ?_) _
  clear HX
  go_upto_region 29 with fail
  have O4 := Lib.hid (O3.out.step (below_drew1 w2))
  have hrw := O4.out.poolGet 4 rfl HP.out.1
  have hre := O4.out.poolGet 4 rfl HE.out.2.2
  have hrc := x8steal_any w2.drew d.xa e.xa d.q.l.length d.xc e.q.l.length e.xc d.N e.N d.q e.q rfl rfl hrw hre (by omega) (by omega) (by omega)
  rw [← HXE.out] at hrc
  unfold X8s xv at hrc
  have HRC := Lib.hid hrc
  clear O3 hrw hre hrc
  refine wp_region_lexY (fun wx => wx.cell? ⟨wb, 2, none⟩ = some (.slice (some ⟨xb, xo, none⟩) 4 xc) ∧ wx.cell? ⟨xb, xo + i * 3, none⟩ = some (.int .i64 d.q.num) ∧ wx.cell? ⟨xb, xo + i * 3 + 1, none⟩ = some (.slice d.xa d.q.l.length d.xc) ∧ wx.cell? ⟨xb, xo + i * 3 + 2, none⟩ = some (.int .i64 (d.N : Int)) ∧ wx.cell? ⟨xb, xo + k * 3, none⟩ = some (.int .i64 e.q.num) ∧ wx.cell? ⟨xb, xo + k * 3 + 1, none⟩ = some (.slice e.xa e.q.l.length e.xc) ∧ wx.cell? ⟨xb, xo + k * 3 + 2, none⟩ = some (.int .i64 (e.N : Int))) 30 34 (Array.replicate 34 false) (by kernel_rfl) (by kernel_rfl) ?_
  refine wpAnyY_seg 0 5 _ #[true, true, true, true, true, false, false, false, false, false, false, false, false, false, false, false, false, false, false, false, false, false, false, false, false, false, false, false, false, false, false, false, false, false] 29 (by kernel_rfl) noPanic_put (HY.out _ _ _ _ O4.out) (by kernel_rfl) ?_
  simp only [List.take_succ_cons, List.take_zero, List.drop_zero]
  repeat (first
    | (refine wpSegH_no (by rfl) ?_; simp only [Act.put, List.setIfInBounds_toArray, List.set_cons_zero, List.set_cons_succ])
    | (refine wpSegH_yes (by rfl) ?_; apply Exists.intro; apply And.intro; (· (intro wx hS; (try dsimp only at hS); go_simp; first | done | with_reducible rfl)); simp only [Act.put, List.setIfInBounds_toArray, List.set_cons_zero, List.set_cons_succ]))
  refine wpSegH_nil ?_
  refine wpAnyY_segT 5 3 _ #[true, true, true, true, true, true, true, true, false, false, false, false, false, false, false, false, false, false, false, false, false, false, false, false, false, false, false, false, false, false, false, false, false, false] 26 (by kernel_rfl) noPanic_put (by kernel_rfl) ?_
  simp only [List.take_succ_cons, List.take_zero, List.drop_succ_cons, List.drop_zero]
  repeat (first
    | (refine wpSegH_no (by rfl) ?_; simp only [Act.put, List.setIfInBounds_toArray, List.set_cons_zero, List.set_cons_succ])
    | (refine wpSegH_yes (by rfl) ?_; apply Exists.intro; apply And.intro; (· (intro wx hS; (try dsimp only at hS); go_simp; first | done | with_reducible rfl)); simp only [Act.put, List.setIfInBounds_toArray, List.set_cons_zero, List.set_cons_succ]))
  refine wpSegH_nil ?_
  refine wpAnyY_seg 8 1 _ #[true, true, true, true, true, true, true, true, true, false, false, false, false, false, false, false, false, false, false, false, false, false, false, false, false, false, false, false, false, false, false, false, false, false] 25 (by kernel_rfl) noPanic_put (HY.out _ _ _ _ O4.out) (by kernel_rfl) ?_
  simp only [List.take_succ_cons, List.take_zero, List.drop_succ_cons, List.drop_zero]
  repeat (first
    | (refine wpSegH_no (by rfl) ?_; simp only [Act.put, List.setIfInBounds_toArray, List.set_cons_zero, List.set_cons_succ])
    | (refine wpSegH_yes (by rfl) ?_; apply Exists.intro; apply And.intro; (· (intro wx hS; (try dsimp only at hS); go_simp; first | done | with_reducible rfl)); simp only [Act.put, List.setIfInBounds_toArray, List.set_cons_zero, List.set_cons_succ]))
  refine wpSegH_nil ?_
  refine wpAnyY_segT 9 1 _ #[true, true, true, true, true, true, true, true, true, true, false, false, false, false, false, false, false, false, false, false, false, false, false, false, false, false, false, false, false, false, false, false, false, false] 24 (by kernel_rfl) noPanic_put (by kernel_rfl) ?_
  simp only [List.take_succ_cons, List.take_zero, List.drop_succ_cons, List.drop_zero]
  repeat (first
    | (refine wpSegH_no (by rfl) ?_; simp only [Act.put, List.setIfInBounds_toArray, List.set_cons_zero, List.set_cons_succ])
    | (refine wpSegH_yes (by rfl) ?_; apply Exists.intro; apply And.intro; (· (intro wx hS; (try dsimp only at hS); go_simp; first | done | with_reducible rfl)); simp only [Act.put, List.setIfInBounds_toArray, List.set_cons_zero, List.set_cons_succ]))
  refine wpSegH_nil ?_
  refine wpAnyY_seg 10 14 _ #[true, true, true, true, true, true, true, true, true, true, true, true, true, true, true, true, true, true, true, true, true, true, true, true, false, false, false, false, false, false, false, false, false, false] 10 (by kernel_rfl) noPanic_put (HY.out _ _ _ _ O4.out) (by kernel_rfl) ?_
  simp only [List.take_succ_cons, List.take_zero, List.drop_succ_cons, List.drop_zero]
  repeat (first
    | (refine wpSegH_no (by rfl) ?_; simp only [Act.put, List.setIfInBounds_toArray, List.set_cons_zero, List.set_cons_succ])
    | (refine wpSegH_yes (by rfl) ?_; apply Exists.intro; apply And.intro; (· (intro wx hS; (try dsimp only at hS); go_simp; first | done | with_reducible rfl)); simp only [Act.put, List.setIfInBounds_toArray, List.set_cons_zero, List.set_cons_succ]))
  refine wpSegH_nil ?_
  refine wpAnyY_one 24 _ #[true, true, true, true, true, true, true, true, true, true, true, true, true, true, true, true, true, true, true, true, true, true, true, true, true, false, false, false, false, false, false, false, false, false] 9 (by kernel_rfl) (fun K hK => ?_)
  have HKK := Lib.hid hK
  clear hK
  simp only [List.drop_succ_cons, List.drop_zero]
  refine headH_mk (by rfl) ?_
  go_simp
  refine HRC.out.mono ?_
  rintro r w5 ⟨a', c', a2, c2, rfl, r1, r2, r3, r4⟩
  have O5 := Lib.hid (O4.out.step r4)
  refine HKK.out _ _ (HY.out _ _ _ _ O5.out) ?_
  clear HKK K
  refine wpAnyY_seg 25 2 _ #[true, true, true, true, true, true, true, true, true, true, true, true, true, true, true, true, true, true, true, true, true, true, true, true, true, true, true, false, false, false, false, false, false, false] 7 (by kernel_rfl) noPanic_put (HY.out _ _ _ _ O5.out) (by kernel_rfl) ?_
  simp only [List.take_succ_cons, List.take_zero, List.drop_succ_cons, List.drop_zero]
  repeat (first
    | (refine wpSegH_no (by rfl) ?_; simp only [Act.put, List.setIfInBounds_toArray, List.set_cons_zero, List.set_cons_succ])
    | (refine wpSegH_yes (by rfl) ?_; apply Exists.intro; apply And.intro; (· (intro wx hS; (try dsimp only at hS); go_simp; first | done | with_reducible rfl)); simp only [Act.put, List.setIfInBounds_toArray, List.set_cons_zero, List.set_cons_succ]))
  refine wpSegH_nil ?_
  refine wpAnyY_segT 27 2 _ #[true, true, true, true, true, true, true, true, true, true, true, true, true, true, true, true, true, true, true, true, true, true, true, true, true, true, true, true, true, false, false, false, false, false] 5 (by kernel_rfl) noPanic_put (by kernel_rfl) ?_
  simp only [List.take_succ_cons, List.take_zero, List.drop_succ_cons, List.drop_zero]
  repeat (first
    | (refine wpSegH_no (by rfl) ?_; simp only [Act.put, List.setIfInBounds_toArray, List.set_cons_zero, List.set_cons_succ])
    | (refine wpSegH_yes (by rfl) ?_; apply Exists.intro; apply And.intro; (· (intro wx hS; (try dsimp only at hS); go_simp; first | done | with_reducible rfl)); simp only [Act.put, List.setIfInBounds_toArray, List.set_cons_zero, List.set_cons_succ]))
  refine wpSegH_nil ?_
  refine wpAnyY_seg 29 1 _ #[true, true, true, true, true, true, true, true, true, true, true, true, true, true, true, true, true, true, true, true, true, true, true, true, true, true, true, true, true, true, false, false, false, false] 4 (by kernel_rfl) noPanic_put (HY.out _ _ _ _ O5.out) (by kernel_rfl) ?_
  simp only [List.take_succ_cons, List.take_zero, List.drop_succ_cons, List.drop_zero]
  repeat (first
    | (refine wpSegH_no (by rfl) ?_; simp only [Act.put, List.setIfInBounds_toArray, List.set_cons_zero, List.set_cons_succ])
    | (refine wpSegH_yes (by rfl) ?_; apply Exists.intro; apply And.intro; (· (intro wx hS; (try dsimp only at hS); go_simp; first | done | with_reducible rfl)); simp only [Act.put, List.setIfInBounds_toArray, List.set_cons_zero, List.set_cons_succ]))
  refine wpSegH_nil ?_
  have o6 := (O4.out.pick 4 rfl).poolAddL r4 [(a', c', (mSteal d.N d.q e.q).1.l), (a2, c2, (mSteal d.N d.q e.q).2.1.l)] (fun r hr => by
    simp only [List.mem_cons, List.not_mem_nil, or_false] at hr
    have hh : ∀ x ∈ blk a' ++ blk a2, (∃ q ∈ rs, x ∈ blk q.1) ∨ w2.drew.heap.size ≤ x := fun x hx => by
      rcases r3 x hx with h | h
      · rcases List.mem_append.1 h with h | h
        · exact .inl ⟨_, HP.out.1, h⟩
        · exact .inl ⟨_, HE.out.2.2, h⟩
      · exact .inr h
    rcases hr with rfl | rfl
    · exact ⟨r1, fun x hx => hh x (List.mem_append.2 (.inl hx))⟩
    · exact ⟨r2, fun x hx => hh x (List.mem_append.2 (.inr hx))⟩)
  have o7 := (((o6.pick 4 rfl).pick 4 rfl).pick 4 rfl).pick 4 rfl
  have hrx := o7.rowG 3 rfl
  have hcap := hrx.2.1
  obtain ⟨z0, s0, t0⟩ := hrx.spot (i * 3) (by omega)
  obtain ⟨z1, s1, t1⟩ := hrx.spot (i * 3 + 1) (by omega)
  obtain ⟨z2, s2, t2⟩ := hrx.spot (i * 3 + 2) (by omega)
  simp only [← Nat.add_assoc] at s1 s2 t1 t2
  have o8 : Own w0 (((w5.setCell ⟨xb, xo + i * 3, none⟩ (.int .i64 (LQ.num (mSteal d.N d.q e.q).1))).setCell ⟨xb, xo + i * 3 + 1, none⟩ (.slice a' (List.length (LQ.l (mSteal d.N d.q e.q).1)) c')).setCell ⟨xb, xo + i * 3 + 2, none⟩ (.int .i64 (d.N : Int))) (RowGA 3 (some ⟨xb, xo, none⟩) xc 4 (xcs (ds.set i ⟨d.p, d.g, d.N, (mSteal d.N d.q e.q).1, a', c'⟩)) :: CelA wb [.slice (some ⟨lb, lo, none⟩) 4 lc, .pointer (some ⟨b, 0, none⟩), .slice (some ⟨xb, xo, none⟩) 4 xc, .slice ya gl.length yc, .int .i64 (nx : Int), .slice oa out.length oc] :: RowGA 1 (some ⟨lb, lo, none⟩) lc 4 (lptr ds) :: gloA b gl :: PoolA ([(a', c', (mSteal d.N d.q e.q).1.l), (a2, c2, (mSteal d.N d.q e.q).2.1.l)] ++ rs) :: RowA oa oc out :: (locs ((ds.set i ⟨d.p, d.g, d.N, (mSteal d.N d.q e.q).1, d.xa, d.xc⟩).set k ⟨e.p, e.g, e.N, (mSteal d.N d.q e.q).2.1, e.xa, e.xc⟩) ++ [CelA ab [.int .i64 kd, .int .i64 wh, .int .i64 n]])) :=
    (o7.pick 3 rfl).xqSet i ⟨d.p, d.g, d.N, (mSteal d.N d.q e.q).1, a', c'⟩ HD.out.2.1
  have hry := o8.rowG 0 rfl
  obtain ⟨z3, s3, t3⟩ := hry.spot (k * 3) (by omega)
  obtain ⟨z4, s4, t4⟩ := hry.spot (k * 3 + 1) (by omega)
  obtain ⟨z5, s5, t5⟩ := hry.spot (k * 3 + 2) (by omega)
  simp only [← Nat.add_assoc] at s4 s5 t4 t5
  have O8 := Lib.hid o8
  clear o6 o7 o8 hrx hry hcap O4 O5 r1 r2 r3 r4 HY HRC
  refine wpAnyY_late 30 _ #[true, true, true, true, true, true, true, true, true, true, true, true, true, true, true, true, true, true, true, true, true, true, true, true, true, true, true, true, true, true, true, false, false, false] 3 (by kernel_rfl) (fun K hK => ?_)
  have HKK := Lib.hid hK
  clear hK
  simp only [List.drop_succ_cons, List.drop_zero]
  refine headH_mk (by rfl) ?_
  go_simp
  refine HKK.out _ _ ?_
  clear HKK K
  generalize ((w5.setCell ⟨xb, xo + i * 3, none⟩ (.int .i64 (LQ.num (mSteal d.N d.q e.q).1))).setCell ⟨xb, xo + i * 3 + 1, none⟩ (.slice a' (List.length (LQ.l (mSteal d.N d.q e.q).1)) c')).setCell ⟨xb, xo + i * 3 + 2, none⟩ (.int .i64 (d.N : Int)) = W6 at *
  clear s0 s1 s2 t0 t1 t2
  have o9 : Own w0 (((W6.setCell ⟨xb, xo + k * 3, none⟩ (.int .i64 (LQ.num (mSteal d.N d.q e.q).2.1))).setCell ⟨xb, xo + k * 3 + 1, none⟩ (.slice a2 (List.length (LQ.l (mSteal d.N d.q e.q).2.1)) c2)).setCell ⟨xb, xo + k * 3 + 2, none⟩ (.int .i64 (e.N : Int))) (CelA wb [.slice (some ⟨lb, lo, none⟩) 4 lc, .pointer (some ⟨b, 0, none⟩), .slice (some ⟨xb, xo, none⟩) 4 xc, .slice ya gl.length yc, .int .i64 (nx : Int), .slice oa out.length oc] :: RowGA 1 (some ⟨lb, lo, none⟩) lc 4 (lptr ds) :: gloA b gl :: RowGA 3 (some ⟨xb, xo, none⟩) xc 4 (xcs ((ds.set i ⟨d.p, d.g, d.N, (mSteal d.N d.q e.q).1, a', c'⟩).set k ⟨e.p, e.g, e.N, (mSteal d.N d.q e.q).2.1, a2, c2⟩)) :: PoolA ([(a', c', (mSteal d.N d.q e.q).1.l), (a2, c2, (mSteal d.N d.q e.q).2.1.l)] ++ rs) :: RowA oa oc out :: (locs ((ds.set i ⟨d.p, d.g, d.N, (mSteal d.N d.q e.q).1, d.xa, d.xc⟩).set k ⟨e.p, e.g, e.N, (mSteal d.N d.q e.q).2.1, e.xa, e.xc⟩) ++ [CelA ab [.int .i64 kd, .int .i64 wh, .int .i64 n]])) := by
    have h := ((((O8.out.xqSet k ⟨e.p, e.g, e.N, (mSteal d.N d.q e.q).2.1, a2, c2⟩ (by rw [List.length_set]; exact HE.out.2.1)).pick 3 rfl).pick 3 rfl).pick 3 rfl)
    exact h
  have O9 := Lib.hid o9.dropEnd
  clear o9 O8
  refine wpAnyY_late 31 _ #[true, true, true, true, true, true, true, true, true, true, true, true, true, true, true, true, true, true, true, true, true, true, true, true, true, true, true, true, true, true, true, true, false, false] 2 (by kernel_rfl) (fun K hK => ?_)
  have HKK := Lib.hid hK
  clear hK
  simp only [List.drop_succ_cons, List.drop_zero]
  refine headH_mk (by rfl) ?_
  go_simp
  refine HKK.out _ _ ?_
  clear HKK K
  refine wpAnyY_late 32 _ #[true, true, true, true, true, true, true, true, true, true, true, true, true, true, true, true, true, true, true, true, true, true, true, true, true, true, true, true, true, true, true, true, true, false] 1 (by kernel_rfl) (fun K hK => ?_)
  have HKK := Lib.hid hK
  clear hK
  simp only [List.drop_succ_cons, List.drop_zero]
  refine headH_mk (by rfl) ?_
  go_simp
  refine HKK.out _ _ ?_
  clear HKK K
  generalize ((W6.setCell ⟨xb, xo + k * 3, none⟩ (.int .i64 (LQ.num (mSteal d.N d.q e.q).2.1))).setCell ⟨xb, xo + k * 3 + 1, none⟩ (.slice a2 (List.length (LQ.l (mSteal d.N d.q e.q).2.1)) c2)).setCell ⟨xb, xo + k * 3 + 2, none⟩ (.int .i64 (e.N : Int)) = W7 at *
  clear s3 s4 s5 t3 t4 t5
  refine wpAnyY_late 33 _ #[true, true, true, true, true, true, true, true, true, true, true, true, true, true, true, true, true, true, true, true, true, true, true, true, true, true, true, true, true, true, true, true, true, true] 0 (by kernel_rfl) (fun K hK => ?_)
  have HKK := Lib.hid hK
  clear hK
  simp only [List.drop_succ_cons, List.drop_zero]
  refine headH_mk (by rfl) ?_
  go_simp
  refine HKK.out _ _ ?_
  clear HKK K
  refine wpAnyY_done (by kernel_rfl) (NoPanic.normal ?_) _
  go_upto_region 30 with fail
  have HGT := Lib.hid (got_any ((O9.out.pick 5 rfl).pick 1 rfl) x HXN.out.1 HXN.out.2.1)
  clear O9
  go_wp2_with fail
  refine HGT.out.mono ?_
  rintro r w9 ⟨rfl, oa', oc', o9⟩
  have OX := Lib.hid (((((o9.pick 5 rfl).pick 5 rfl).pick 5 rfl).pick 5 rfl).pick 4 rfl)
  clear o9 HGT
  go_wp2_with fail
  go_ret
  refine ⟨(ds.set i ⟨d.p, d.g, d.N, (mSteal d.N d.q e.q).1, a', c'⟩).set k ⟨e.p, e.g, e.N, (mSteal d.N d.q e.q).2.1, a2, c2⟩, gl, nx, out ++ x.toList, rfl, ⟨some ⟨lb, lo, none⟩, lc, some ⟨xb, xo, none⟩, xc, [(a', c', (mSteal d.N d.q e.q).1.l), (a2, c2, (mSteal d.N d.q e.q).2.1.l)] ++ rs, ya, yc, oa', oc', ?_, by rw [List.length_set, List.length_set]; exact HD.out.2.2, fun g hg => ?_, List.mem_append.2 (.inr HP.out.2.2), ?_⟩, by omega, by omega⟩
  · unfold D8
    rw [lptr_set (ds := ds.set i ⟨d.p, d.g, d.N, (mSteal d.N d.q e.q).1, a', c'⟩) (d := e) (d' := ⟨e.p, e.g, e.N, (mSteal d.N d.q e.q).2.1, a2, c2⟩) (by rw [List.getElem?_set_ne HNE.out]; exact HE.out.1) rfl, lptr_set (d' := ⟨d.p, d.g, d.N, (mSteal d.N d.q e.q).1, a', c'⟩) HD.out.1 rfl]
    have hl : locs ((ds.set i ⟨d.p, d.g, d.N, (mSteal d.N d.q e.q).1, d.xa, d.xc⟩).set k ⟨e.p, e.g, e.N, (mSteal d.N d.q e.q).2.1, e.xa, e.xc⟩) = locs ((ds.set i ⟨d.p, d.g, d.N, (mSteal d.N d.q e.q).1, a', c'⟩).set k ⟨e.p, e.g, e.N, (mSteal d.N d.q e.q).2.1, a2, c2⟩) := by rw [← locs_set, ← locs_set, ← locs_set, ← locs_set]; rfl
    rw [← hl]
    exact OX.out
  · rcases List.mem_or_eq_of_mem_set hg with h | h
    · rcases List.mem_or_eq_of_mem_set h with h | h
      · exact List.mem_append.2 (.inr (HP.out.2.1 g h))
      · rw [h]; exact List.mem_append.2 (.inl (List.mem_cons_self ..))
    · rw [h]; exact List.mem_append.2 (.inl (List.mem_cons.2 (.inr (List.mem_cons_self ..))))
  · refine H5.out.two HNE.out HD.out.1 HE.out.1 ?_
    have h := HXN.out.2.2
    rw [List.perm_iff_count] at h ⊢
    intro a
    have h2 := h a
    simp only [qn, List.count_append] at h2 ⊢
    omega
end Go.Proofs.Ytmldfckeenahlaa
