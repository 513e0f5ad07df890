/-
  The law's same: all queues are the document's.
-/
import Derived.Test.YtmldfckeenahlaaWDo8h
open Go Go.RowKit
set_option linter.unusedVariables false
namespace Go.Proofs.Ytmldfckeenahlaa
theorem loc_at8 {w0 w : World} {A B C D E F : Asr} {ds : List Qd} (h : Own w0 w (A :: B :: C :: D :: E :: F :: locs ds)) {i : Nat} {d : Qd} (hi : ds[i]? = some d) : LocAt w d.p d.g d.N d.q := by
  obtain ⟨F, ⟨_, hL⟩, _⟩ := (h.locOut hi).head
  exact hL
theorem num_nx (q : LQ) (h : ∀ v, q.nx = some v → 0 ≤ v) : (q.num = -1 ∧ q.nx.isSome = false) ∨ (0 ≤ q.num ∧ q.nx.isSome = true) := by
  unfold LQ.num
  cases hq : q.nx with
  | none => exact .inl ⟨rfl, rfl⟩
  | some v => exact .inr ⟨h v hq, rfl⟩
set_option maxRecDepth 100000 in
set_option maxHeartbeats 8000000 in
theorem same8_any (w0 w : World) (wb b : Nat) (ds : List Qd) (gl : List Int) (nx : Nat) (out : List Int) (h : St8 w0 w wb b ds gl nx out) (hn : nx ≤ 100) :
    Calls Try.prog 8 #[.pointer (some ⟨wb, 0, none⟩)] w fun r w' => r = .returned (.bool true) ∧ Below w.heap.size w w' := by
  obtain ⟨la, lc, xa, xc, rs, ya, yc, oa, oc, h1, h2, h3, h4, h5⟩ := h
  obtain ⟨d0, hd0⟩ : ∃ d, ds[0]? = some d := ⟨_, List.getElem?_eq_getElem (by omega)⟩
  unfold D8 at h1
  obtain ⟨lb, lo, rfl, -⟩ := (h1.rowG 1 rfl).cells 0 _ (lptr_at hd0)
  obtain ⟨xb, xo, rfl, -⟩ := (h1.rowG 3 rfl).cells.xq hd0
  have hinv := h5.nonneg
  have hlen := h5.len
  have hgl : gl.length ≤ 100 := by omega
  have HNN := Lib.hid hinv
  have H1 := Lib.hid h1
  have HP := Lib.hid (And.intro h2 (And.intro h3 h4))
  obtain ⟨f0, -⟩ := h1.cel 0 rfl 0 _ rfl
  clear h1 h2 h3 h4 h5 hd0 hinv hlen
  go_enter Try.func8, Try.ntmps8
  go_wp2_with fail
  go_loopw [11] (fun iv wr => ∃ i : Nat, i ≤ 4 ∧ iv = .int .i64 i ∧ Hid (Below w.heap.size w wr)) (fun iv _ => 4 - (intOf iv).toNat)
  case atStart => exact ⟨0, by omega, rfl, Lib.hid (Below.refl _ _)⟩
  case round =>
    obtain ⟨i, hi, rfl, hB⟩ := hrel
    have hO := H1.out.step hB.out
    have O1 := Lib.hid hO
    by_cases hlt : i < 4
    · have hlt' : (i : Int) < 4 := by omega
      obtain ⟨d, hd⟩ : ∃ d, ds[i]? = some d := ⟨_, List.getElem?_eq_getElem (by have := HP.out.1; omega)⟩
      have hll : d.q.l.length ≤ d.N ∧ 1 ≤ d.N ∧ d.N ≤ 1024 := by
        have hL := loc_at8 hO hd
        have := hL.ll
        exact ⟨this.1, this.2.1, this.2.2.1⟩
      have hnum := num_nx d.q (fun v hv => (HNN.out v (List.mem_append.2 (.inl ((alln_out hd).mem_iff.2 (List.mem_append.2 (.inl (by unfold qn; rw [hv]; simp))))))).1)
      have hsc : ∀ wx, Own w0 wx (CelA wb [.slice (some ⟨lb, lo, none⟩) 4 lc, .pointer (some ⟨b, 0, none⟩), .slice (some ⟨xb, xo, none⟩) 4 xc, .slice ya gl.length yc, .int .i64 (nx : Int), .slice oa out.length oc] :: RowGA 1 (some ⟨lb, lo, none⟩) lc 4 (lptr ds) :: gloA b gl :: RowGA 3 (some ⟨xb, xo, none⟩) xc 4 (xcs ds) :: PoolA rs :: RowA oa oc out :: locs ds) →
          (wx.cell? ⟨wb, 2, none⟩ = some (.slice (some ⟨xb, xo, none⟩) 4 xc) ∧ wx.cell? ⟨xb, xo + i * 3, none⟩ = some (.int .i64 d.q.num) ∧ wx.cell? ⟨xb, xo + i * 3 + 1, none⟩ = some (.slice d.xa d.q.l.length d.xc)) := fun wx h => by
        obtain ⟨b2, o2, e, hc0, hc1, hc2⟩ := (h.rowG 3 rfl).cells.xq hd
        cases e
        exact ⟨(h.cel 0 rfl 2 _ rfl).1, hc0, hc1⟩
      have SC := Lib.hid hsc
      obtain ⟨b2, o2, e, f1⟩ := (hO.rowG 1 rfl).cells i _ (lptr_at hd)
      cases e
      obtain ⟨f2, f3, f4⟩ := hsc _ hO
      have HD := Lib.hid hd
      clear hd hsc hO
      rcases hnum with ⟨hnu, hso⟩ | ⟨hnu, hso⟩
      all_goals
        go_upto_region 7 with fail
        clear hnu f0 f1 f2 f3 f4
        have HS := Lib.hid hso
        have O2 := Lib.hid (O1.out.step (below_drew1 wr))
        have hN := lnext_any wr.drew d.p d.g d.N d.q (loc_at8 O2.out HD.out)
        have hLi := llist_any wr.drew d.p d.g d.N d.q (loc_at8 O2.out HD.out)
        have HN := Lib.hid hN
        have HLi := Lib.hid hLi
        clear hso hN hLi O1
        refine wp_region_lexH (fun wx => wx.cell? ⟨wb, 2, none⟩ = some (.slice (some ⟨xb, xo, none⟩) 4 xc) ∧ wx.cell? ⟨xb, xo + i * 3, none⟩ = some (.int .i64 d.q.num) ∧ wx.cell? ⟨xb, xo + i * 3 + 1, none⟩ = some (.slice d.xa d.q.l.length d.xc)) 31 (Array.replicate 31 false) (by kernel_rfl) (by kernel_rfl) ?_
        refine wpAnyH_seg 0 1 _ #[true, false, false, false, false, false, false, false, false, false, false, false, false, false, false, false, false, false, false, false, false, false, false, false, false, false, false, false, false, false, false] 30 (by kernel_rfl) noPanic_put (SC.out _ O2.out) (by kernel_rfl) ?_
        simp only [List.take_succ_cons, List.take_zero, List.drop_zero]
        repeat (first
          | (refine wpSegH_no (by rfl) ?_; simp only [Act.put, List.setIfInBounds_toArray, List.set_cons_zero, List.set_cons_succ])
          | (refine wpSegH_yes (by rfl) ?_; apply Exists.intro; apply And.intro; (· (intro wx hS; (try dsimp only at hS); go_simp; first | done | with_reducible rfl)); simp only [Act.put, List.setIfInBounds_toArray, List.set_cons_zero, List.set_cons_succ]))
        refine wpSegH_nil ?_
        refine wpAnyH_seg 2 8 _ #[true, false, true, true, true, true, true, true, true, true, false, false, false, false, false, false, false, false, false, false, false, false, false, false, false, false, false, false, false, false, false] 22 (by kernel_rfl) noPanic_put (SC.out _ O2.out) (by kernel_rfl) ?_
        simp only [List.take_succ_cons, List.take_zero, List.drop_succ_cons, List.drop_zero]
        repeat (first
          | (refine wpSegH_no (by rfl) ?_; simp only [Act.put, List.setIfInBounds_toArray, List.set_cons_zero, List.set_cons_succ])
          | (refine wpSegH_yes (by rfl) ?_; apply Exists.intro; apply And.intro; (· (intro wx hS; (try dsimp only at hS); go_simp; first | done | with_reducible rfl)); simp only [Act.put, List.setIfInBounds_toArray, List.set_cons_zero, List.set_cons_succ]))
        refine wpSegH_nil ?_
        refine wpAnyH_one 1 _ #[true, true, true, true, true, true, true, true, true, true, false, false, false, false, false, false, false, false, false, false, false, false, false, false, false, false, false, false, false, false, false] 21 (by kernel_rfl) (fun K hK => ?_)
        have HKK := Lib.hid hK
        clear hK
        simp only [List.drop_succ_cons, List.drop_zero]
        refine headH_mk (by rfl) ?_
        go_simp
        refine HN.out.mono ?_
        rintro r wn ⟨rfl, rfl⟩
        refine HKK.out _ _ (SC.out _ O2.out) ?_
        clear HKK K
        clear HN
        refine wpAnyH_seg 10 2 _ #[true, true, true, true, true, true, true, true, true, true, true, true, false, false, false, false, false, false, false, false, false, false, false, false, false, false, false, false, false, false, false] 19 (by kernel_rfl) noPanic_put (SC.out _ O2.out) (by kernel_rfl) ?_
        simp only [List.take_succ_cons, List.take_zero, List.drop_succ_cons, List.drop_zero]
        repeat (first
          | (refine wpSegH_no (by rfl) ?_; simp only [Act.put, List.setIfInBounds_toArray, List.set_cons_zero, List.set_cons_succ])
          | (refine wpSegH_yes (by rfl) ?_; apply Exists.intro; apply And.intro; (· (intro wx hS; (try dsimp only at hS); go_simp; first | done | with_reducible rfl)); simp only [Act.put, List.setIfInBounds_toArray, List.set_cons_zero, List.set_cons_succ]))
        refine wpSegH_nil ?_
        refine wpAnyH_seg 12 1 _ #[true, true, true, true, true, true, true, true, true, true, true, true, true, false, false, false, false, false, false, false, false, false, false, false, false, false, false, false, false, false, false] 18 (by kernel_rfl) noPanic_put (SC.out _ O2.out) (by kernel_rfl) ?_
        simp only [List.take_succ_cons, List.take_zero, List.drop_succ_cons, List.drop_zero]
        repeat (first
          | (refine wpSegH_no (by rfl) ?_; simp only [Act.put, List.setIfInBounds_toArray, List.set_cons_zero, List.set_cons_succ])
          | (refine wpSegH_yes (by rfl) ?_; apply Exists.intro; apply And.intro; (· (intro wx hS; (try dsimp only at hS); go_simp; first | done | with_reducible rfl)); simp only [Act.put, List.setIfInBounds_toArray, List.set_cons_zero, List.set_cons_succ]))
        refine wpSegH_nil ?_
        refine wpAnyH_seg 14 8 _ #[true, true, true, true, true, true, true, true, true, true, true, true, true, false, true, true, true, true, true, true, true, true, false, false, false, false, false, false, false, false, false] 10 (by kernel_rfl) noPanic_put (SC.out _ O2.out) (by kernel_rfl) ?_
        simp only [List.take_succ_cons, List.take_zero, List.drop_succ_cons, List.drop_zero]
        repeat (first
          | (refine wpSegH_no (by rfl) ?_; simp only [Act.put, List.setIfInBounds_toArray, List.set_cons_zero, List.set_cons_succ])
          | (refine wpSegH_yes (by rfl) ?_; apply Exists.intro; apply And.intro; (· (intro wx hS; (try dsimp only at hS); go_simp; first | done | with_reducible rfl)); simp only [Act.put, List.setIfInBounds_toArray, List.set_cons_zero, List.set_cons_succ]))
        refine wpSegH_nil ?_
        refine wpAnyH_one 13 _ #[true, true, true, true, true, true, true, true, true, true, true, true, true, true, true, true, true, true, true, true, true, true, false, false, false, false, false, false, false, false, false] 9 (by kernel_rfl) (fun K hK => ?_)
        have HKK := Lib.hid hK
        clear hK
        simp only [List.drop_succ_cons, List.drop_zero]
        refine headH_mk (by rfl) ?_
        go_simp
        refine HLi.out.mono ?_
        rintro r w2 ⟨bb, rfl, hbb, hrow, hB2⟩
        have o3 := O2.out.step hB2
        have hsm := same_any w2 (some ⟨bb, 0, none⟩) d.xa d.q.l.length d.xc d.q.l hrow.ints (RowAt.ints (o3.poolGet 4 rfl (HP.out.2.1 d (List.mem_of_getElem? HD.out)))) (by unfold maxLen; omega)
        have HSM := Lib.hid hsm
        refine HKK.out _ _ (SC.out _ o3) ?_
        clear HKK K
        have O3 := Lib.hid o3
        have B3 := Lib.hid (below_on (below_on hB.out (below_drew1 wr)) hB2)
        clear o3 hsm hbb hrow hB2 HLi O2
        refine wpAnyH_one 22 _ #[true, true, true, true, true, true, true, true, true, true, true, true, true, true, true, true, true, true, true, true, true, true, true, false, false, false, false, false, false, false, false] 8 (by kernel_rfl) (fun K hK => ?_)
        have HKK := Lib.hid hK
        clear hK
        simp only [List.drop_succ_cons, List.drop_zero]
        refine headH_mk (by rfl) ?_
        go_simp
        refine HSM.out.mono ?_
        rintro r w3 ⟨rfl, m3, rfl⟩
        have bm : Below w2.heap.size w2 (w2.drewN m3) := ⟨rfl, rfl, rfl, Nat.le_refl _, fun _ _ => rfl⟩
        have O4 := Lib.hid (O3.out.step bm)
        have B4 := Lib.hid (below_on B3.out bm)
        have hLe := llen_any (w2.drewN m3) d.p d.g d.N d.q (loc_at8 O4.out HD.out)
        rw [HS.out] at hLe
        simp only [Bool.false_eq_true, if_false, if_true, Int.add_zero] at hLe
        have HLe := Lib.hid hLe
        refine HKK.out _ _ (SC.out _ O4.out) ?_
        clear HKK K
        clear bm hLe HSM O3 B3
        refine wpAnyH_seg 23 3 _ #[true, true, true, true, true, true, true, true, true, true, true, true, true, true, true, true, true, true, true, true, true, true, true, true, true, true, false, false, false, false, false] 5 (by kernel_rfl) noPanic_put (SC.out _ O4.out) (by kernel_rfl) ?_
        simp only [List.take_succ_cons, List.take_zero, List.drop_succ_cons, List.drop_zero]
        repeat (first
          | (refine wpSegH_no (by rfl) ?_; simp only [Act.put, List.setIfInBounds_toArray, List.set_cons_zero, List.set_cons_succ])
          | (refine wpSegH_yes (by rfl) ?_; apply Exists.intro; apply And.intro; (· (intro wx hS; (try dsimp only at hS); go_simp; first | done | with_reducible rfl)); simp only [Act.put, List.setIfInBounds_toArray, List.set_cons_zero, List.set_cons_succ]))
        refine wpSegH_nil ?_
        refine wpAnyH_seg 26 1 _ #[true, true, true, true, true, true, true, true, true, true, true, true, true, true, true, true, true, true, true, true, true, true, true, true, true, true, true, false, false, false, false] 4 (by kernel_rfl) noPanic_put (SC.out _ O4.out) (by kernel_rfl) ?_
        simp only [List.take_succ_cons, List.take_zero, List.drop_succ_cons, List.drop_zero]
        repeat (first
          | (refine wpSegH_no (by rfl) ?_; simp only [Act.put, List.setIfInBounds_toArray, List.set_cons_zero, List.set_cons_succ])
          | (refine wpSegH_yes (by rfl) ?_; apply Exists.intro; apply And.intro; (· (intro wx hS; (try dsimp only at hS); go_simp; first | done | with_reducible rfl)); simp only [Act.put, List.setIfInBounds_toArray, List.set_cons_zero, List.set_cons_succ]))
        refine wpSegH_nil ?_
        refine wpAnyH_seg 28 1 _ #[true, true, true, true, true, true, true, true, true, true, true, true, true, true, true, true, true, true, true, true, true, true, true, true, true, true, true, false, true, false, false] 3 (by kernel_rfl) noPanic_put (SC.out _ O4.out) (by kernel_rfl) ?_
        simp only [List.take_succ_cons, List.take_zero, List.drop_succ_cons, List.drop_zero]
        repeat (first
          | (refine wpSegH_no (by rfl) ?_; simp only [Act.put, List.setIfInBounds_toArray, List.set_cons_zero, List.set_cons_succ])
          | (refine wpSegH_yes (by rfl) ?_; apply Exists.intro; apply And.intro; (· (intro wx hS; (try dsimp only at hS); go_simp; first | done | with_reducible rfl)); simp only [Act.put, List.setIfInBounds_toArray, List.set_cons_zero, List.set_cons_succ]))
        refine wpSegH_nil ?_
        refine wpAnyH_one 27 _ #[true, true, true, true, true, true, true, true, true, true, true, true, true, true, true, true, true, true, true, true, true, true, true, true, true, true, true, true, true, false, false] 2 (by kernel_rfl) (fun K hK => ?_)
        have HKK := Lib.hid hK
        clear hK
        simp only [List.drop_succ_cons, List.drop_zero]
        refine headH_mk (by rfl) ?_
        go_simp
        refine HLe.out.mono ?_
        rintro r wn ⟨rfl, rfl⟩
        refine HKK.out _ _ (SC.out _ O4.out) ?_
        clear HKK K
        refine wpAnyH_seg 29 2 _ #[true, true, true, true, true, true, true, true, true, true, true, true, true, true, true, true, true, true, true, true, true, true, true, true, true, true, true, true, true, true, true] 0 (by kernel_rfl) noPanic_put (SC.out _ O4.out) (by kernel_rfl) ?_
        simp only [List.take_succ_cons, List.take_zero, List.drop_succ_cons, List.drop_zero]
        repeat (first
          | (refine wpSegH_no (by rfl) ?_; simp only [Act.put, List.setIfInBounds_toArray, List.set_cons_zero, List.set_cons_succ])
          | (refine wpSegH_yes (by rfl) ?_; apply Exists.intro; apply And.intro; (· (intro wx hS; (try dsimp only at hS); go_simp; first | done | with_reducible rfl)); simp only [Act.put, List.setIfInBounds_toArray, List.set_cons_zero, List.set_cons_succ]))
        refine wpSegH_nil ?_
        refine wpAnyH_done (by kernel_rfl) (NoPanic.normal ?_) _
        go_wp2_with fail
        exact ⟨⟨i + 1, by omega, by go_num, B4⟩, by simp [intOf]; omega⟩
    · obtain rfl : i = 4 := by omega
      go_upto_region 10 with fail
      have hsc : ∀ wx, Own w0 wx (CelA wb [.slice (some ⟨lb, lo, none⟩) 4 lc, .pointer (some ⟨b, 0, none⟩), .slice (some ⟨xb, xo, none⟩) 4 xc, .slice ya gl.length yc, .int .i64 (nx : Int), .slice oa out.length oc] :: RowGA 1 (some ⟨lb, lo, none⟩) lc 4 (lptr ds) :: gloA b gl :: RowGA 3 (some ⟨xb, xo, none⟩) xc 4 (xcs ds) :: PoolA rs :: RowA oa oc out :: locs ds) →
          (wx.cell? ⟨wb, 1, none⟩ = some (.pointer (some ⟨b, 0, none⟩)) ∧ wx.cell? ⟨wb, 3, none⟩ = some (.slice ya gl.length yc)) := fun wx h => ⟨(h.cel 0 rfl 1 _ rfl).1, (h.cel 0 rfl 3 _ rfl).1⟩
      have SC := Lib.hid hsc
      have hO2 := O1.out.step (below_drew1 wr)
      obtain ⟨F, hG, -⟩ := hO2.fact 2 rfl
      have hGl := glist_any wr.drew b gl F hG (by omega)
      have HGl := Lib.hid hGl
      have O2 := Lib.hid hO2
      clear f0 hsc hO hO2 hG hGl O1
      refine wp_region_lexH (fun wx => wx.cell? ⟨wb, 1, none⟩ = some (.pointer (some ⟨b, 0, none⟩)) ∧ wx.cell? ⟨wb, 3, none⟩ = some (.slice ya gl.length yc)) 25 (Array.replicate 25 false) (by kernel_rfl) (by kernel_rfl) ?_
      refine wpAnyH_seg 0 4 _ #[true, true, true, true, false, false, false, false, false, false, false, false, false, false, false, false, false, false, false, false, false, false, false, false, false] 21 (by kernel_rfl) noPanic_put (SC.out _ O2.out) (by kernel_rfl) ?_
      simp only [List.take_succ_cons, List.take_zero, List.drop_zero]
      repeat (first
        | (refine wpSegH_no (by rfl) ?_; simp only [Act.put, List.setIfInBounds_toArray, List.set_cons_zero, List.set_cons_succ])
        | (refine wpSegH_yes (by rfl) ?_; apply Exists.intro; apply And.intro; (· (intro wx hS; (try dsimp only at hS); go_simp; first | done | with_reducible rfl)); simp only [Act.put, List.setIfInBounds_toArray, List.set_cons_zero, List.set_cons_succ]))
      refine wpSegH_nil ?_
      refine wpAnyH_seg 5 4 _ #[true, true, true, true, false, true, true, true, true, false, false, false, false, false, false, false, false, false, false, false, false, false, false, false, false] 17 (by kernel_rfl) noPanic_put (SC.out _ O2.out) (by kernel_rfl) ?_
      simp only [List.take_succ_cons, List.take_zero, List.drop_succ_cons, List.drop_zero]
      repeat (first
        | (refine wpSegH_no (by rfl) ?_; simp only [Act.put, List.setIfInBounds_toArray, List.set_cons_zero, List.set_cons_succ])
        | (refine wpSegH_yes (by rfl) ?_; apply Exists.intro; apply And.intro; (· (intro wx hS; (try dsimp only at hS); go_simp; first | done | with_reducible rfl)); simp only [Act.put, List.setIfInBounds_toArray, List.set_cons_zero, List.set_cons_succ]))
      refine wpSegH_nil ?_
      refine wpAnyH_one 4 _ #[true, true, true, true, true, true, true, true, true, false, false, false, false, false, false, false, false, false, false, false, false, false, false, false, false] 16 (by kernel_rfl) (fun K hK => ?_)
      have HKK := Lib.hid hK
      clear hK
      simp only [List.drop_succ_cons, List.drop_zero]
      refine headH_mk (by rfl) ?_
      go_simp
      refine HGl.out.mono ?_
      rintro r w2 ⟨a', c', rfl, hrow, -, hB2⟩
      have o3 := O2.out.step hB2
      have hsm := same_any w2 a' ya c' yc gl hrow.ints (RowAt.ints (o3.poolGet 4 rfl HP.out.2.2)) (by unfold maxLen; omega)
      have HSM := Lib.hid hsm
      refine HKK.out _ _ (SC.out _ o3) ?_
      clear HKK K
      have O3 := Lib.hid o3
      have B3 := Lib.hid (below_on (below_on hB.out (below_drew1 wr)) hB2)
      clear o3 hsm hrow hB2 HGl O2
      refine wpAnyH_one 9 _ #[true, true, true, true, true, true, true, true, true, true, false, false, false, false, false, false, false, false, false, false, false, false, false, false, false] 15 (by kernel_rfl) (fun K hK => ?_)
      have HKK := Lib.hid hK
      clear hK
      simp only [List.drop_succ_cons, List.drop_zero]
      refine headH_mk (by rfl) ?_
      go_simp
      refine HSM.out.mono ?_
      rintro r w3 ⟨rfl, m3, rfl⟩
      have bm : Below w2.heap.size w2 (w2.drewN m3) := ⟨rfl, rfl, rfl, Nat.le_refl _, fun _ _ => rfl⟩
      have hO4 := O3.out.step bm
      have B4 := Lib.hid (below_on B3.out bm)
      obtain ⟨F4, hG, -⟩ := hO4.fact 2 rfl
      have hLe := glen_any (w2.drewN m3) b gl F4 hG
      have HLe := Lib.hid hLe
      have O4 := Lib.hid hO4
      refine HKK.out _ _ (SC.out _ O4.out) ?_
      clear HKK K
      clear bm hLe hG hO4 HSM O3 B3
      refine wpAnyH_seg 10 2 _ #[true, true, true, true, true, true, true, true, true, true, true, true, false, false, false, false, false, false, false, false, false, false, false, false, false] 13 (by kernel_rfl) noPanic_put (SC.out _ O4.out) (by kernel_rfl) ?_
      simp only [List.take_succ_cons, List.take_zero, List.drop_succ_cons, List.drop_zero]
      repeat (first
        | (refine wpSegH_no (by rfl) ?_; simp only [Act.put, List.setIfInBounds_toArray, List.set_cons_zero, List.set_cons_succ])
        | (refine wpSegH_yes (by rfl) ?_; apply Exists.intro; apply And.intro; (· (intro wx hS; (try dsimp only at hS); go_simp; first | done | with_reducible rfl)); simp only [Act.put, List.setIfInBounds_toArray, List.set_cons_zero, List.set_cons_succ]))
      refine wpSegH_nil ?_
      refine wpAnyH_seg 12 4 _ #[true, true, true, true, true, true, true, true, true, true, true, true, true, true, true, true, false, false, false, false, false, false, false, false, false] 9 (by kernel_rfl) noPanic_put (SC.out _ O4.out) (by kernel_rfl) ?_
      simp only [List.take_succ_cons, List.take_zero, List.drop_succ_cons, List.drop_zero]
      repeat (first
        | (refine wpSegH_no (by rfl) ?_; simp only [Act.put, List.setIfInBounds_toArray, List.set_cons_zero, List.set_cons_succ])
        | (refine wpSegH_yes (by rfl) ?_; apply Exists.intro; apply And.intro; (· (intro wx hS; (try dsimp only at hS); go_simp; first | done | with_reducible rfl)); simp only [Act.put, List.setIfInBounds_toArray, List.set_cons_zero, List.set_cons_succ]))
      refine wpSegH_nil ?_
      refine wpAnyH_seg 17 5 _ #[true, true, true, true, true, true, true, true, true, true, true, true, true, true, true, true, false, true, true, true, true, true, false, false, false] 4 (by kernel_rfl) noPanic_put (SC.out _ O4.out) (by kernel_rfl) ?_
      simp only [List.take_succ_cons, List.take_zero, List.drop_succ_cons, List.drop_zero]
      repeat (first
        | (refine wpSegH_no (by rfl) ?_; simp only [Act.put, List.setIfInBounds_toArray, List.set_cons_zero, List.set_cons_succ])
        | (refine wpSegH_yes (by rfl) ?_; apply Exists.intro; apply And.intro; (· (intro wx hS; (try dsimp only at hS); go_simp; first | done | with_reducible rfl)); simp only [Act.put, List.setIfInBounds_toArray, List.set_cons_zero, List.set_cons_succ]))
      refine wpSegH_nil ?_
      refine wpAnyH_one 16 _ #[true, true, true, true, true, true, true, true, true, true, true, true, true, true, true, true, true, true, true, true, true, true, false, false, false] 3 (by kernel_rfl) (fun K hK => ?_)
      have HKK := Lib.hid hK
      clear hK
      simp only [List.drop_succ_cons, List.drop_zero]
      refine headH_mk (by rfl) ?_
      go_simp
      refine HLe.out.mono ?_
      rintro r wn ⟨rfl, rfl⟩
      refine HKK.out _ _ (SC.out _ O4.out) ?_
      clear HKK K
      refine wpAnyH_seg 22 3 _ #[true, true, true, true, true, true, true, true, true, true, true, true, true, true, true, true, true, true, true, true, true, true, true, true, true] 0 (by kernel_rfl) noPanic_put (SC.out _ O4.out) (by kernel_rfl) ?_
      simp only [List.take_succ_cons, List.take_zero, List.drop_succ_cons, List.drop_zero]
      repeat (first
        | (refine wpSegH_no (by rfl) ?_; simp only [Act.put, List.setIfInBounds_toArray, List.set_cons_zero, List.set_cons_succ])
        | (refine wpSegH_yes (by rfl) ?_; apply Exists.intro; apply And.intro; (· (intro wx hS; (try dsimp only at hS); go_simp; first | done | with_reducible rfl)); simp only [Act.put, List.setIfInBounds_toArray, List.set_cons_zero, List.set_cons_succ]))
      refine wpSegH_nil ?_
      refine wpAnyH_done (by kernel_rfl) (NoPanic.normal ?_) _
      go_wp2_with fail
      go_ret
      exact ⟨rfl, B4.out⟩
end Go.Proofs.Ytmldfckeenahlaa
