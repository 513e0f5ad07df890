/-
  The law's does: Ready.
-/
import Derived.Test.YtmldfckeenahlaaWDo8b
open Go Go.RowKit
set_option linter.unusedVariables false
namespace Go.Proofs.Ytmldfckeenahlaa
theorem and_3i (x : Int) : bits BinOp.and IntKind.i64 x 3 = x % 4 := by
  show IntKind.i64.wrap (((BitVec.ofInt 64 x) &&& (BitVec.ofInt 64 3)).toNat : Int) = x % 4
  have e : (BitVec.ofInt 64 3).toNat = 3 := by decide
  rw [BitVec.toNat_and, e, show (3 : Nat) = 2 ^ 2 - 1 from rfl, Nat.and_two_pow_sub_one_eq_mod, IntKind.wrap_i64, BitVec.toNat_ofInt]; omega
/-- Behind a call: true, and the state again. -/
def Does8 (w0 : World) (wb b nx : Nat) (r : Ending) (w' : World) : Prop := ∃ ds' gl' nx' out', r = .returned (.bool true) ∧ St8 w0 w' wb b ds' gl' nx' out' ∧ nx ≤ nx' ∧ nx' ≤ nx + 1
set_option maxRecDepth 100000 in
set_option maxHeartbeats 8000000 in
theorem does_0 (w0 w : World) (wb b : Nat) (ds : List Qd) (gl : List Int) (nx : Nat) (out : List Int) (kd wh n : Int) (h : St8 w0 w wb b ds gl nx out) (hK : (bits BinOp.and IntKind.i64 kd 255).tmod 10 = 0) (hn : nx ≤ 100) :
    Calls Try.prog 7 #[.pointer (some ⟨wb, 0, none⟩), .agg #[.int .i64 kd, .int .i64 wh, .int .i64 n]] w fun r w' => Does8 w0 wb b nx r w' := by
  obtain ⟨la, lc, xa, xc, rs, ya, yc, oa, oc, h1, h2, h3, h4, h5⟩ := h
  obtain ⟨i, hi, hi4⟩ : ∃ i : Nat, bits BinOp.and IntKind.i64 wh 3 = (i : Int) ∧ i < 4 := ⟨(wh % 4).toNat, by rw [and_3i]; omega, by omega⟩
  obtain ⟨k, hk, hk4⟩ : ∃ k : Nat, bits BinOp.and IntKind.i64 n 3 = (k : Int) ∧ k < 4 := ⟨(n % 4).toNat, by rw [and_3i]; omega, by omega⟩
  obtain ⟨d, hd⟩ : ∃ d, ds[i]? = some d := ⟨_, List.getElem?_eq_getElem (by omega)⟩
  have hil : i < ds.length := by omega
  have hpool := h3 d (List.mem_of_getElem? hd)
  unfold D8 at h1
  obtain ⟨lb, lo, rfl, -⟩ := (h1.rowG 1 rfl).cells i _ (lptr_at hd)
  obtain ⟨xb, xo, rfl, -⟩ := (h1.rowG 3 rfl).cells.xq hd
  have hinv := h5.nonneg
  have hlen := h5.len
  have hll : d.q.l.length ≤ d.N ∧ 1 ≤ d.N ∧ d.N ≤ 1024 := by
    obtain ⟨F, ⟨_, hL⟩, _⟩ := (h1.locOut hd).head
    have := hL.ll
    exact ⟨this.1, this.2.1, this.2.2.1⟩
  have hgl : gl.length ≤ 100 := by omega
  have hnn : ∀ v, d.q.nx = some v → 0 ≤ v := fun v hv => (hinv v (List.mem_append.2 (.inl ((alln_out hd).mem_iff.2 (List.mem_append.2 (.inl (by unfold qn; rw [hv]; simp))))))).1
  have HNN := Lib.hid (And.intro hnn hinv)
  have HP := Lib.hid (And.intro hpool (And.intro h3 h4))
  have H5 := Lib.hid h5
  have HD := Lib.hid (And.intro hd (And.intro hil h2))
  obtain ⟨ab, hab⟩ : ∃ ab, ab = w.heap.size := ⟨_, rfl⟩
  have hbA := below_alloc1 w (.cells #[.int .i64 kd, .int .i64 wh, .int .i64 n] 29)
  have HO := Lib.hid (h1.step hbA)
  have hact := Blk.mk w [.int .i64 kd, .int .i64 wh, .int .i64 n] 29 ab hab
  have HACT := Lib.hid hact
  clear h1 h2 h3 h4 h5 hd hil hpool hinv hlen hnn hbA hact
  go_enter Try.func7, Try.ntmps7
  go_upto_region 1 with fail
  rw [← hab]
  generalize w.alloc (.cells #[.int .i64 kd, .int .i64 wh, .int .i64 n] 29) = W at *
  clear hab
  obtain ⟨q0, -⟩ := HACT.out 0 _ rfl
  obtain ⟨q1, -⟩ := HACT.out 1 _ rfl
  obtain ⟨q2, -⟩ := HACT.out 2 _ rfl
  go_upto_region 7 with fail
  clear q0 q1 q2 hK hi hk
  have hi4' : (i : Int) < 4 := by omega
  have SCX : ∀ (wx : World) (A : Asr) (L : List Asr), Own w0 wx (CelA wb [.slice (some ⟨lb, lo, none⟩) 4 lc, .pointer (some ⟨b, 0, none⟩), .slice (some ⟨xb, xo, none⟩) 4 xc, .slice ya gl.length yc, .int .i64 (nx : Int), .slice oa out.length oc] :: RowGA 1 (some ⟨lb, lo, none⟩) lc 4 (lptr ds) :: A :: L) → (wx.cell? ⟨wb, 0, none⟩ = some (.slice (some ⟨lb, lo, none⟩) 4 lc) ∧ wx.cell? ⟨wb, 1, none⟩ = some (.pointer (some ⟨b, 0, none⟩)) ∧ wx.cell? ⟨wb, 4, none⟩ = some (.int .i64 (nx : Int)) ∧ wx.cell? ⟨lb, lo + i, none⟩ = some (.pointer (some ⟨d.p, 0, none⟩))) := fun wx A L h =>
    ⟨(h.cel 0 rfl 0 _ rfl).1, (h.cel 0 rfl 1 _ rfl).1, (h.cel 0 rfl 4 _ rfl).1, by
      obtain ⟨b2, o2, e, hc⟩ := (h.rowG 1 rfl).cells i _ (lptr_at HD.out.1)
      cases e; exact hc⟩
  have SCY : ∀ (wx : World) (A B : Asr) (L : List Asr), Own w0 wx (CelA wb [.slice (some ⟨lb, lo, none⟩) 4 lc, .pointer (some ⟨b, 0, none⟩), .slice (some ⟨xb, xo, none⟩) 4 xc, .slice ya gl.length yc, .int .i64 (nx : Int), .slice oa out.length oc] :: A :: B :: RowGA 3 (some ⟨xb, xo, none⟩) xc 4 (xcs ds) :: L) → (wx.cell? ⟨wb, 2, none⟩ = some (.slice (some ⟨xb, xo, none⟩) 4 xc) ∧ wx.cell? ⟨wb, 3, none⟩ = some (.slice ya gl.length yc) ∧ wx.cell? ⟨wb, 4, none⟩ = some (.int .i64 (nx : Int)) ∧ wx.cell? ⟨xb, xo + i * 3, none⟩ = some (.int .i64 d.q.num) ∧ wx.cell? ⟨xb, xo + i * 3 + 1, none⟩ = some (.slice d.xa d.q.l.length d.xc) ∧ wx.cell? ⟨xb, xo + i * 3 + 2, none⟩ = some (.int .i64 (d.N : Int))) := fun wx A B L h => by
    obtain ⟨b2, o2, e, hc0, hc1, hc2⟩ := (h.rowG 3 rfl).cells.xq HD.out.1
    cases e
    exact ⟨(h.cel 0 rfl 2 _ rfl).1, (h.cel 0 rfl 3 _ rfl).1, (h.cel 0 rfl 4 _ rfl).1, hc0, hc1, hc2⟩
  have HX := Lib.hid SCX
  have HY := Lib.hid SCY
  clear SCX SCY
  have o1 := HO.out.step (below_drew1 W)
  have O1 := Lib.hid o1
  clear HO HACT o1
  refine wp_region_lexH (fun wx => wx.cell? ⟨wb, 0, none⟩ = some (.slice (some ⟨lb, lo, none⟩) 4 lc) ∧ wx.cell? ⟨wb, 1, none⟩ = some (.pointer (some ⟨b, 0, none⟩)) ∧ wx.cell? ⟨wb, 4, none⟩ = some (.int .i64 (nx : Int)) ∧ wx.cell? ⟨lb, lo + i, none⟩ = some (.pointer (some ⟨d.p, 0, none⟩))) 17 (Array.replicate 17 false) (by kernel_rfl) (by kernel_rfl) ?_
  refine wpAnyH_seg 0 15 _ #[true, true, true, true, true, true, true, true, true, true, true, true, true, true, true, false, false] 2 (by kernel_rfl) noPanic_put (HX.out _ _ _ O1.out) (by kernel_rfl) ?_
  simp only [List.take_succ_cons, List.take_zero, List.drop_zero]
  repeat (first
    | (refine wpSegH_no (by rfl) ?_; simp only [Act.put, List.setIfInBounds_toArray, List.set_cons_zero, List.set_cons_succ])
    | (refine wpSegH_yes (by rfl) ?_; apply Exists.intro; apply And.intro; (· (intro wx hS; (try dsimp only at hS); go_simp; first | done | with_reducible rfl)); simp only [Act.put, List.setIfInBounds_toArray, List.set_cons_zero, List.set_cons_succ]))
  refine wpSegH_nil ?_
  have oc1 := ((O1.out.locOut HD.out.1).pick 3 rfl).pick 1 rfl
  refine wpAnyH_one 15 _ #[true, true, true, true, true, true, true, true, true, true, true, true, true, true, true, true, false] 1 (by kernel_rfl) (fun K hK => ?_)
  have HKK := Lib.hid hK
  clear hK
  simp only [List.drop_succ_cons, List.drop_zero]
  refine headH_mk (by rfl) ?_
  go_simp
  refine (own_ready8 oc1 (nx : Int) (by omega)).mono ?_
  rintro r w2 ⟨rfl, o2⟩
  have o3 := ((((o2.pick 1 rfl).pick 3 rfl).pick 3 rfl).pick 3 rfl).locIn HD.out.2.1
  have o3 : Own w0 w2 (CelA wb [.slice (some ⟨lb, lo, none⟩) 4 lc, .pointer (some ⟨b, 0, none⟩), .slice (some ⟨xb, xo, none⟩) 4 xc, .slice ya gl.length yc, .int .i64 (nx : Int), .slice oa out.length oc] :: RowGA 1 (some ⟨lb, lo, none⟩) lc 4 (lptr ds) :: gloA b (mReady d.N d.q (nx : Int) gl).2.1 :: RowGA 3 (some ⟨xb, xo, none⟩) xc 4 (xcs ds) :: PoolA rs :: RowA oa oc out :: locs (ds.set i ⟨d.p, d.g, d.N, (mReady d.N d.q (nx : Int) gl).1, d.xa, d.xc⟩)) := o3
  refine HKK.out _ _ (HX.out _ _ _ o3) ?_
  clear HKK K
  have O3 := Lib.hid o3
  clear oc1 o2 o3 O1
  refine wpAnyH_seg 16 1 _ #[true, true, true, true, true, true, true, true, true, true, true, true, true, true, true, true, true] 0 (by kernel_rfl) noPanic_put (HX.out _ _ _ O3.out) (by kernel_rfl) ?_
  simp only [List.take_succ_cons, List.take_zero, List.drop_succ_cons, List.drop_zero]
  repeat (first
    | (refine wpSegH_no (by rfl) ?_; simp only [Act.put, List.setIfInBounds_toArray, List.set_cons_zero, List.set_cons_succ])
    | (refine wpSegH_yes (by rfl) ?_; apply Exists.intro; apply And.intro; (· (intro wx hS; (try dsimp only at hS); go_simp; first | done | with_reducible rfl)); simp only [Act.put, List.setIfInBounds_toArray, List.set_cons_zero, List.set_cons_succ]))
  refine wpSegH_nil ?_
  refine wpAnyH_done (by kernel_rfl) (NoPanic.normal ?_) _
  clear HX
  go_upto_region 8 with fail
  have O4 := Lib.hid (O3.out.step (below_drew1 w2))
  have hrw := O4.out.poolGet 4 rfl HP.out.1
  have hrg := O4.out.poolGet 4 rfl HP.out.2.2
  have hrc := x8ready_any w2.drew d.xa ya d.q.l.length d.xc gl.length yc d.N d.q gl (nx : Int) rfl rfl hrw hrg (by omega) (by omega) (by omega) HNN.out.1
  unfold X8 xv at hrc
  have H9 := Lib.hid hrc
  clear O3 hrw hrg hrc
  refine wp_region_lexY (fun wx => wx.cell? ⟨wb, 2, none⟩ = some (.slice (some ⟨xb, xo, none⟩) 4 xc) ∧ wx.cell? ⟨wb, 3, none⟩ = some (.slice ya gl.length yc) ∧ wx.cell? ⟨wb, 4, none⟩ = some (.int .i64 (nx : Int)) ∧ wx.cell? ⟨xb, xo + i * 3, none⟩ = some (.int .i64 d.q.num) ∧ wx.cell? ⟨xb, xo + i * 3 + 1, none⟩ = some (.slice d.xa d.q.l.length d.xc) ∧ wx.cell? ⟨xb, xo + i * 3 + 2, none⟩ = some (.int .i64 (d.N : Int))) 27 32 (Array.replicate 32 false) (by kernel_rfl) (by kernel_rfl) ?_
  refine wpAnyY_seg 0 5 _ #[true, true, true, true, true, false, false, false, false, false, false, false, false, false, false, false, false, false, false, false, false, false, false, false, false, false, false, false, false, false, false, false] 27 (by kernel_rfl) noPanic_put (HY.out _ _ _ _ O4.out) (by kernel_rfl) ?_
  simp only [List.take_succ_cons, List.take_zero, List.drop_zero]
  repeat (first
    | (refine wpSegH_no (by rfl) ?_; simp only [Act.put, List.setIfInBounds_toArray, List.set_cons_zero, List.set_cons_succ])
    | (refine wpSegH_yes (by rfl) ?_; apply Exists.intro; apply And.intro; (· (intro wx hS; (try dsimp only at hS); go_simp; first | done | with_reducible rfl)); simp only [Act.put, List.setIfInBounds_toArray, List.set_cons_zero, List.set_cons_succ]))
  refine wpSegH_nil ?_
  refine wpAnyY_segT 5 1 _ #[true, true, true, true, true, true, false, false, false, false, false, false, false, false, false, false, false, false, false, false, false, false, false, false, false, false, false, false, false, false, false, false] 26 (by kernel_rfl) noPanic_put (by kernel_rfl) ?_
  simp only [List.take_succ_cons, List.take_zero, List.drop_succ_cons, List.drop_zero]
  repeat (first
    | (refine wpSegH_no (by rfl) ?_; simp only [Act.put, List.setIfInBounds_toArray, List.set_cons_zero, List.set_cons_succ])
    | (refine wpSegH_yes (by rfl) ?_; apply Exists.intro; apply And.intro; (· (intro wx hS; (try dsimp only at hS); go_simp; first | done | with_reducible rfl)); simp only [Act.put, List.setIfInBounds_toArray, List.set_cons_zero, List.set_cons_succ]))
  refine wpSegH_nil ?_
  refine wpAnyY_seg 6 15 _ #[true, true, true, true, true, true, true, true, true, true, true, true, true, true, true, true, true, true, true, true, true, false, false, false, false, false, false, false, false, false, false, false] 11 (by kernel_rfl) noPanic_put (HY.out _ _ _ _ O4.out) (by kernel_rfl) ?_
  simp only [List.take_succ_cons, List.take_zero, List.drop_succ_cons, List.drop_zero]
  repeat (first
    | (refine wpSegH_no (by rfl) ?_; simp only [Act.put, List.setIfInBounds_toArray, List.set_cons_zero, List.set_cons_succ])
    | (refine wpSegH_yes (by rfl) ?_; apply Exists.intro; apply And.intro; (· (intro wx hS; (try dsimp only at hS); go_simp; first | done | with_reducible rfl)); simp only [Act.put, List.setIfInBounds_toArray, List.set_cons_zero, List.set_cons_succ]))
  refine wpSegH_nil ?_
  refine wpAnyY_one 21 _ #[true, true, true, true, true, true, true, true, true, true, true, true, true, true, true, true, true, true, true, true, true, true, false, false, false, false, false, false, false, false, false, false] 10 (by kernel_rfl) (fun K hK => ?_)
  have HKK := Lib.hid hK
  clear hK
  simp only [List.drop_succ_cons, List.drop_zero]
  refine headH_mk (by rfl) ?_
  go_simp
  refine H9.out.mono ?_
  rintro r w5 ⟨a', c', ga', gc', rfl, r1, r2, r3, r4⟩
  have O5 := Lib.hid (O4.out.step r4)
  refine HKK.out _ _ (HY.out _ _ _ _ O5.out) ?_
  clear HKK K
  refine wpAnyY_seg 22 2 _ #[true, true, true, true, true, true, true, true, true, true, true, true, true, true, true, true, true, true, true, true, true, true, true, true, false, false, false, false, false, false, false, false] 8 (by kernel_rfl) noPanic_put (HY.out _ _ _ _ O5.out) (by kernel_rfl) ?_
  simp only [List.take_succ_cons, List.take_zero, List.drop_succ_cons, List.drop_zero]
  repeat (first
    | (refine wpSegH_no (by rfl) ?_; simp only [Act.put, List.setIfInBounds_toArray, List.set_cons_zero, List.set_cons_succ])
    | (refine wpSegH_yes (by rfl) ?_; apply Exists.intro; apply And.intro; (· (intro wx hS; (try dsimp only at hS); go_simp; first | done | with_reducible rfl)); simp only [Act.put, List.setIfInBounds_toArray, List.set_cons_zero, List.set_cons_succ]))
  refine wpSegH_nil ?_
  refine wpAnyY_segT 24 2 _ #[true, true, true, true, true, true, true, true, true, true, true, true, true, true, true, true, true, true, true, true, true, true, true, true, true, true, false, false, false, false, false, false] 6 (by kernel_rfl) noPanic_put (by kernel_rfl) ?_
  simp only [List.take_succ_cons, List.take_zero, List.drop_succ_cons, List.drop_zero]
  repeat (first
    | (refine wpSegH_no (by rfl) ?_; simp only [Act.put, List.setIfInBounds_toArray, List.set_cons_zero, List.set_cons_succ])
    | (refine wpSegH_yes (by rfl) ?_; apply Exists.intro; apply And.intro; (· (intro wx hS; (try dsimp only at hS); go_simp; first | done | with_reducible rfl)); simp only [Act.put, List.setIfInBounds_toArray, List.set_cons_zero, List.set_cons_succ]))
  refine wpSegH_nil ?_
  refine wpAnyY_seg 26 1 _ #[true, true, true, true, true, true, true, true, true, true, true, true, true, true, true, true, true, true, true, true, true, true, true, true, true, true, true, false, false, false, false, false] 5 (by kernel_rfl) noPanic_put (HY.out _ _ _ _ O5.out) (by kernel_rfl) ?_
  simp only [List.take_succ_cons, List.take_zero, List.drop_succ_cons, List.drop_zero]
  repeat (first
    | (refine wpSegH_no (by rfl) ?_; simp only [Act.put, List.setIfInBounds_toArray, List.set_cons_zero, List.set_cons_succ])
    | (refine wpSegH_yes (by rfl) ?_; apply Exists.intro; apply And.intro; (· (intro wx hS; (try dsimp only at hS); go_simp; first | done | with_reducible rfl)); simp only [Act.put, List.setIfInBounds_toArray, List.set_cons_zero, List.set_cons_succ]))
  refine wpSegH_nil ?_
  have o6 := (O4.out.pick 4 rfl).poolAddL r4 [(a', c', (mTurn d.N d.q gl).1.l), (ga', gc', (mTurn d.N d.q gl).2.1)] (fun r hr => by
    simp only [List.mem_cons, List.not_mem_nil, or_false] at hr
    have hh : ∀ x ∈ blk a' ++ blk ga', (∃ q ∈ rs, x ∈ blk q.1) ∨ w2.drew.heap.size ≤ x := fun x hx => by
      rcases r3 x hx with h | h
      · rcases List.mem_append.1 h with h | h
        · exact .inl ⟨_, HP.out.1, h⟩
        · exact .inl ⟨_, HP.out.2.2, h⟩
      · exact .inr h
    rcases hr with rfl | rfl
    · exact ⟨r1, fun x hx => hh x (List.mem_append.2 (.inl hx))⟩
    · exact ⟨r2, fun x hx => hh x (List.mem_append.2 (.inr hx))⟩)
  have o7 := (((o6.pick 4 rfl).pick 4 rfl).pick 4 rfl).pick 4 rfl
  have hrx := o7.rowG 3 rfl
  have hcap := hrx.2.1
  obtain ⟨z0, s0, t0⟩ := hrx.spot (i * 3) (by omega)
  obtain ⟨z1, s1, t1⟩ := hrx.spot (i * 3 + 1) (by omega)
  obtain ⟨z2, s2, t2⟩ := hrx.spot (i * 3 + 2) (by omega)
  simp only [← Nat.add_assoc] at s1 s2 t1 t2
  have o8 : Own w0 (((w5.setCell ⟨xb, xo + i * 3, none⟩ (.int .i64 (nx : Int))).setCell ⟨xb, xo + i * 3 + 1, none⟩ (.slice a' (List.length ((mTurn d.N d.q gl).1.l)) c')).setCell ⟨xb, xo + i * 3 + 2, none⟩ (.int .i64 (d.N : Int))) (CelA wb [.slice (some ⟨lb, lo, none⟩) 4 lc, .pointer (some ⟨b, 0, none⟩), .slice (some ⟨xb, xo, none⟩) 4 xc, .slice ya gl.length yc, .int .i64 (nx : Int), .slice oa out.length oc] :: RowGA 1 (some ⟨lb, lo, none⟩) lc 4 (lptr ds) :: gloA b ((mTurn d.N d.q gl).2.1) :: RowGA 3 (some ⟨xb, xo, none⟩) xc 4 (xcs (ds.set i ⟨d.p, d.g, d.N, (mReady d.N d.q (nx : Int) gl).1, a', c'⟩)) :: PoolA ([(a', c', (mTurn d.N d.q gl).1.l), (ga', gc', (mTurn d.N d.q gl).2.1)] ++ rs) :: RowA oa oc out :: locs (ds.set i ⟨d.p, d.g, d.N, (mReady d.N d.q (nx : Int) gl).1, d.xa, d.xc⟩)) :=
    by
      have h := ((((o7.pick 3 rfl).xqSet i ⟨d.p, d.g, d.N, (mReady d.N d.q (nx : Int) gl).1, a', c'⟩ HD.out.2.1).pick 3 rfl).pick 3 rfl).pick 3 rfl
      have en : LQ.num ((mReady d.N d.q (nx : Int) gl).1) = (nx : Int) := rfl
      rw [show Qd.q ⟨d.p, d.g, d.N, (mReady d.N d.q (nx : Int) gl).1, a', c'⟩ = (mReady d.N d.q (nx : Int) gl).1 from rfl, en] at h
      exact h
  obtain ⟨y3, g3⟩ := o8.cel 0 rfl 3 _ rfl
  have O8 := Lib.hid o8
  clear o6 o7 o8 hrx hcap O4 O5 r1 r2 r3 r4 HY H9
  refine wpAnyY_late 27 _ #[true, true, true, true, true, true, true, true, true, true, true, true, true, true, true, true, true, true, true, true, true, true, true, true, true, true, true, true, false, false, false, false] 4 (by kernel_rfl) (fun K hK => ?_)
  have HKK := Lib.hid hK
  clear hK
  simp only [List.drop_succ_cons, List.drop_zero]
  refine headH_mk (by rfl) ?_
  go_simp
  refine HKK.out _ _ ?_
  clear HKK K
  generalize ((w5.setCell ⟨xb, xo + i * 3, none⟩ (.int .i64 (nx : Int))).setCell ⟨xb, xo + i * 3 + 1, none⟩ (.slice a' (List.length ((mTurn d.N d.q gl).1.l)) c')).setCell ⟨xb, xo + i * 3 + 2, none⟩ (.int .i64 (d.N : Int)) = W6 at *
  refine wpAnyY_late 28 _ #[true, true, true, true, true, true, true, true, true, true, true, true, true, true, true, true, true, true, true, true, true, true, true, true, true, true, true, true, true, false, false, false] 3 (by kernel_rfl) (fun K hK => ?_)
  have HKK := Lib.hid hK
  clear hK
  simp only [List.drop_succ_cons, List.drop_zero]
  refine headH_mk (by rfl) ?_
  go_simp
  refine HKK.out _ _ ?_
  clear HKK K
  refine wpAnyY_late 29 _ #[true, true, true, true, true, true, true, true, true, true, true, true, true, true, true, true, true, true, true, true, true, true, true, true, true, true, true, true, true, true, false, false] 2 (by kernel_rfl) (fun K hK => ?_)
  have HKK := Lib.hid hK
  clear hK
  simp only [List.drop_succ_cons, List.drop_zero]
  refine headH_mk (by rfl) ?_
  go_simp
  refine HKK.out _ _ ?_
  clear HKK K
  refine wpAnyY_late 30 _ #[true, true, true, true, true, true, true, true, true, true, true, true, true, true, true, true, true, true, true, true, true, true, true, true, true, true, true, true, true, true, true, false] 1 (by kernel_rfl) (fun K hK => ?_)
  have HKK := Lib.hid hK
  clear hK
  simp only [List.drop_succ_cons, List.drop_zero]
  refine headH_mk (by rfl) ?_
  go_simp
  refine HKK.out _ _ ?_
  clear HKK K
  refine wpAnyY_late 31 _ #[true, true, true, true, true, true, true, true, true, true, true, true, true, true, true, true, true, true, true, true, true, true, true, true, true, true, true, true, true, true, true, true] 0 (by kernel_rfl) (fun K hK => ?_)
  have HKK := Lib.hid hK
  clear hK
  simp only [List.drop_succ_cons, List.drop_zero]
  refine headH_mk (by rfl) ?_
  go_simp
  refine HKK.out _ _ ?_
  clear HKK K
  refine wpAnyY_done (by kernel_rfl) (NoPanic.normal ?_) _
  have O9 := Lib.hid (O8.out.set 3 (.slice ga' (List.length ((mTurn d.N d.q gl).2.1)) gc'))
  clear O8
  go_upto_region 9 with fail
  generalize W6.setCell ⟨wb, 3, none⟩ (.slice ga' (List.length ((mTurn d.N d.q gl).2.1)) gc') = W7 at *
  clear y3 g3 s0 s1 s2 t0 t1 t2
  obtain ⟨y4, g4⟩ := O9.out.cel 0 rfl 4 _ rfl
  have hx10 := O9.out.set 4 (.int .i64 ((nx : Int) + 1))
  have e10 : ((nx + 1 : Nat) : Int) = (nx : Int) + 1 := by omega
  rw [← e10] at hx10
  have OX := Lib.hid hx10
  clear hx10 O9
  go_wp2_with fail
  go_ret
  refine ⟨ds.set i ⟨d.p, d.g, d.N, (mReady d.N d.q (nx : Int) gl).1, a', c'⟩, (mTurn d.N d.q gl).2.1, nx + 1, out, by first | (simp; done) | (simp; rfl), ⟨some ⟨lb, lo, none⟩, lc, some ⟨xb, xo, none⟩, xc, [(a', c', (mTurn d.N d.q gl).1.l), (ga', gc', (mTurn d.N d.q gl).2.1)] ++ rs, ga', gc', oa, oc, ?_, by rw [List.length_set]; exact HD.out.2.2, fun e he => ?_, by simp, ?_⟩, by omega, by omega⟩
  · unfold D8
    rw [lptr_set (d' := ⟨d.p, d.g, d.N, (mReady d.N d.q (nx : Int) gl).1, a', c'⟩) HD.out.1 rfl]
    have hl : locs (ds.set i ⟨d.p, d.g, d.N, (mReady d.N d.q (nx : Int) gl).1, d.xa, d.xc⟩) = locs (ds.set i ⟨d.p, d.g, d.N, (mReady d.N d.q (nx : Int) gl).1, a', c'⟩) := by rw [← locs_set, ← locs_set]; rfl
    rw [← hl]
    exact OX.out
  · rcases List.mem_or_eq_of_mem_set he with h | h
    · exact List.mem_append.2 (.inr (HP.out.2.1 e h))
    · rw [h]; exact List.mem_append.2 (.inl (List.mem_cons.2 (.inl rfl)))
  · exact H5.out.one HD.out.1 (by
      have h := (mReady_perm d.N d.q (nx : Int) gl).append_right out
      simp only [qn, List.append_assoc, List.cons_append, Option.toList_none, List.nil_append] at h ⊢
      exact h)
set_option maxRecDepth 100000 in
set_option maxHeartbeats 8000000 in
theorem does_1 (w0 w : World) (wb b : Nat) (ds : List Qd) (gl : List Int) (nx : Nat) (out : List Int) (kd wh n : Int) (h : St8 w0 w wb b ds gl nx out) (hK : (bits BinOp.and IntKind.i64 kd 255).tmod 10 = 1) (hn : nx ≤ 100) :
    Calls Try.prog 7 #[.pointer (some ⟨wb, 0, none⟩), .agg #[.int .i64 kd, .int .i64 wh, .int .i64 n]] w fun r w' => Does8 w0 wb b nx r w' := by
  obtain ⟨la, lc, xa, xc, rs, ya, yc, oa, oc, h1, h2, h3, h4, h5⟩ := h
  obtain ⟨i, hi, hi4⟩ : ∃ i : Nat, bits BinOp.and IntKind.i64 wh 3 = (i : Int) ∧ i < 4 := ⟨(wh % 4).toNat, by rw [and_3i]; omega, by omega⟩
  obtain ⟨k, hk, hk4⟩ : ∃ k : Nat, bits BinOp.and IntKind.i64 n 3 = (k : Int) ∧ k < 4 := ⟨(n % 4).toNat, by rw [and_3i]; omega, by omega⟩
  obtain ⟨d, hd⟩ : ∃ d, ds[i]? = some d := ⟨_, List.getElem?_eq_getElem (by omega)⟩
  have hil : i < ds.length := by omega
  have hpool := h3 d (List.mem_of_getElem? hd)
  unfold D8 at h1
  obtain ⟨lb, lo, rfl, -⟩ := (h1.rowG 1 rfl).cells i _ (lptr_at hd)
  obtain ⟨xb, xo, rfl, -⟩ := (h1.rowG 3 rfl).cells.xq hd
  have hinv := h5.nonneg
  have hlen := h5.len
  have hll : d.q.l.length ≤ d.N ∧ 1 ≤ d.N ∧ d.N ≤ 1024 := by
    obtain ⟨F, ⟨_, hL⟩, _⟩ := (h1.locOut hd).head
    have := hL.ll
    exact ⟨this.1, this.2.1, this.2.2.1⟩
  have hgl : gl.length ≤ 100 := by omega
  have hnn : ∀ v, d.q.nx = some v → 0 ≤ v := fun v hv => (hinv v (List.mem_append.2 (.inl ((alln_out hd).mem_iff.2 (List.mem_append.2 (.inl (by unfold qn; rw [hv]; simp))))))).1
  have HNN := Lib.hid (And.intro hnn hinv)
  have HP := Lib.hid (And.intro hpool (And.intro h3 h4))
  have H5 := Lib.hid h5
  have HD := Lib.hid (And.intro hd (And.intro hil h2))
  obtain ⟨ab, hab⟩ : ∃ ab, ab = w.heap.size := ⟨_, rfl⟩
  have hbA := below_alloc1 w (.cells #[.int .i64 kd, .int .i64 wh, .int .i64 n] 29)
  have HO := Lib.hid (h1.step hbA)
  have hact := Blk.mk w [.int .i64 kd, .int .i64 wh, .int .i64 n] 29 ab hab
  have HACT := Lib.hid hact
  clear h1 h2 h3 h4 h5 hd hil hpool hinv hlen hnn hbA hact
  go_enter Try.func7, Try.ntmps7
  go_upto_region 1 with fail
  rw [← hab]
  generalize w.alloc (.cells #[.int .i64 kd, .int .i64 wh, .int .i64 n] 29) = W at *
  clear hab
  obtain ⟨q0, -⟩ := HACT.out 0 _ rfl
  obtain ⟨q1, -⟩ := HACT.out 1 _ rfl
  obtain ⟨q2, -⟩ := HACT.out 2 _ rfl
  go_upto_region 7 with fail
  clear q0 q1 q2 hK hi hk
  have hi4' : (i : Int) < 4 := by omega
  have SCX : ∀ (wx : World) (A : Asr) (L : List Asr), Own w0 wx (CelA wb [.slice (some ⟨lb, lo, none⟩) 4 lc, .pointer (some ⟨b, 0, none⟩), .slice (some ⟨xb, xo, none⟩) 4 xc, .slice ya gl.length yc, .int .i64 (nx : Int), .slice oa out.length oc] :: RowGA 1 (some ⟨lb, lo, none⟩) lc 4 (lptr ds) :: A :: L) → (wx.cell? ⟨wb, 0, none⟩ = some (.slice (some ⟨lb, lo, none⟩) 4 lc) ∧ wx.cell? ⟨wb, 1, none⟩ = some (.pointer (some ⟨b, 0, none⟩)) ∧ wx.cell? ⟨wb, 4, none⟩ = some (.int .i64 (nx : Int)) ∧ wx.cell? ⟨lb, lo + i, none⟩ = some (.pointer (some ⟨d.p, 0, none⟩))) := fun wx A L h =>
    ⟨(h.cel 0 rfl 0 _ rfl).1, (h.cel 0 rfl 1 _ rfl).1, (h.cel 0 rfl 4 _ rfl).1, by
      obtain ⟨b2, o2, e, hc⟩ := (h.rowG 1 rfl).cells i _ (lptr_at HD.out.1)
      cases e; exact hc⟩
  have SCY : ∀ (wx : World) (A B : Asr) (L : List Asr), Own w0 wx (CelA wb [.slice (some ⟨lb, lo, none⟩) 4 lc, .pointer (some ⟨b, 0, none⟩), .slice (some ⟨xb, xo, none⟩) 4 xc, .slice ya gl.length yc, .int .i64 (nx : Int), .slice oa out.length oc] :: A :: B :: RowGA 3 (some ⟨xb, xo, none⟩) xc 4 (xcs ds) :: L) → (wx.cell? ⟨wb, 2, none⟩ = some (.slice (some ⟨xb, xo, none⟩) 4 xc) ∧ wx.cell? ⟨wb, 3, none⟩ = some (.slice ya gl.length yc) ∧ wx.cell? ⟨wb, 4, none⟩ = some (.int .i64 (nx : Int)) ∧ wx.cell? ⟨xb, xo + i * 3, none⟩ = some (.int .i64 d.q.num) ∧ wx.cell? ⟨xb, xo + i * 3 + 1, none⟩ = some (.slice d.xa d.q.l.length d.xc) ∧ wx.cell? ⟨xb, xo + i * 3 + 2, none⟩ = some (.int .i64 (d.N : Int))) := fun wx A B L h => by
    obtain ⟨b2, o2, e, hc0, hc1, hc2⟩ := (h.rowG 3 rfl).cells.xq HD.out.1
    cases e
    exact ⟨(h.cel 0 rfl 2 _ rfl).1, (h.cel 0 rfl 3 _ rfl).1, (h.cel 0 rfl 4 _ rfl).1, hc0, hc1, hc2⟩
  have HX := Lib.hid SCX
  have HY := Lib.hid SCY
  clear SCX SCY
  have o1 := HO.out.step (below_drew1 W)
  have O1 := Lib.hid o1
  clear HO HACT o1
  refine wp_region_lexH (fun wx => wx.cell? ⟨wb, 0, none⟩ = some (.slice (some ⟨lb, lo, none⟩) 4 lc) ∧ wx.cell? ⟨wb, 1, none⟩ = some (.pointer (some ⟨b, 0, none⟩)) ∧ wx.cell? ⟨wb, 4, none⟩ = some (.int .i64 (nx : Int)) ∧ wx.cell? ⟨lb, lo + i, none⟩ = some (.pointer (some ⟨d.p, 0, none⟩))) 17 (Array.replicate 17 false) (by kernel_rfl) (by kernel_rfl) ?_
  refine wpAnyH_seg 0 15 _ #[true, true, true, true, true, true, true, true, true, true, true, true, true, true, true, false, false] 2 (by kernel_rfl) noPanic_put (HX.out _ _ _ O1.out) (by kernel_rfl) ?_
  simp only [List.take_succ_cons, List.take_zero, List.drop_zero]
  repeat (first
    | (refine wpSegH_no (by rfl) ?_; simp only [Act.put, List.setIfInBounds_toArray, List.set_cons_zero, List.set_cons_succ])
    | (refine wpSegH_yes (by rfl) ?_; apply Exists.intro; apply And.intro; (· (intro wx hS; (try dsimp only at hS); go_simp; first | done | with_reducible rfl)); simp only [Act.put, List.setIfInBounds_toArray, List.set_cons_zero, List.set_cons_succ]))
  refine wpSegH_nil ?_
  have oc1 := ((O1.out.locOut HD.out.1).pick 3 rfl).pick 1 rfl
  refine wpAnyH_one 15 _ #[true, true, true, true, true, true, true, true, true, true, true, true, true, true, true, true, false] 1 (by kernel_rfl) (fun K hK => ?_)
  have HKK := Lib.hid hK
  clear hK
  simp only [List.drop_succ_cons, List.drop_zero]
  refine headH_mk (by rfl) ?_
  go_simp
  refine (own_ready8 oc1 (nx : Int) (by omega)).mono ?_
  rintro r w2 ⟨rfl, o2⟩
  have o3 := ((((o2.pick 1 rfl).pick 3 rfl).pick 3 rfl).pick 3 rfl).locIn HD.out.2.1
  have o3 : Own w0 w2 (CelA wb [.slice (some ⟨lb, lo, none⟩) 4 lc, .pointer (some ⟨b, 0, none⟩), .slice (some ⟨xb, xo, none⟩) 4 xc, .slice ya gl.length yc, .int .i64 (nx : Int), .slice oa out.length oc] :: RowGA 1 (some ⟨lb, lo, none⟩) lc 4 (lptr ds) :: gloA b (mReady d.N d.q (nx : Int) gl).2.1 :: RowGA 3 (some ⟨xb, xo, none⟩) xc 4 (xcs ds) :: PoolA rs :: RowA oa oc out :: locs (ds.set i ⟨d.p, d.g, d.N, (mReady d.N d.q (nx : Int) gl).1, d.xa, d.xc⟩)) := o3
  refine HKK.out _ _ (HX.out _ _ _ o3) ?_
  clear HKK K
  have O3 := Lib.hid o3
  clear oc1 o2 o3 O1
  refine wpAnyH_seg 16 1 _ #[true, true, true, true, true, true, true, true, true, true, true, true, true, true, true, true, true] 0 (by kernel_rfl) noPanic_put (HX.out _ _ _ O3.out) (by kernel_rfl) ?_
  simp only [List.take_succ_cons, List.take_zero, List.drop_succ_cons, List.drop_zero]
  repeat (first
    | (refine wpSegH_no (by rfl) ?_; simp only [Act.put, List.setIfInBounds_toArray, List.set_cons_zero, List.set_cons_succ])
    | (refine wpSegH_yes (by rfl) ?_; apply Exists.intro; apply And.intro; (· (intro wx hS; (try dsimp only at hS); go_simp; first | done | with_reducible rfl)); simp only [Act.put, List.setIfInBounds_toArray, List.set_cons_zero, List.set_cons_succ]))
  refine wpSegH_nil ?_
  refine wpAnyH_done (by kernel_rfl) (NoPanic.normal ?_) _
  clear HX
  go_upto_region 8 with fail
  have O4 := Lib.hid (O3.out.step (below_drew1 w2))
  have hrw := O4.out.poolGet 4 rfl HP.out.1
  have hrg := O4.out.poolGet 4 rfl HP.out.2.2
  have hrc := x8ready_any w2.drew d.xa ya d.q.l.length d.xc gl.length yc d.N d.q gl (nx : Int) rfl rfl hrw hrg (by omega) (by omega) (by omega) HNN.out.1
  unfold X8 xv at hrc
  have H9 := Lib.hid hrc
  clear O3 hrw hrg hrc
  refine wp_region_lexY (fun wx => wx.cell? ⟨wb, 2, none⟩ = some (.slice (some ⟨xb, xo, none⟩) 4 xc) ∧ wx.cell? ⟨wb, 3, none⟩ = some (.slice ya gl.length yc) ∧ wx.cell? ⟨wb, 4, none⟩ = some (.int .i64 (nx : Int)) ∧ wx.cell? ⟨xb, xo + i * 3, none⟩ = some (.int .i64 d.q.num) ∧ wx.cell? ⟨xb, xo + i * 3 + 1, none⟩ = some (.slice d.xa d.q.l.length d.xc) ∧ wx.cell? ⟨xb, xo + i * 3 + 2, none⟩ = some (.int .i64 (d.N : Int))) 27 32 (Array.replicate 32 false) (by kernel_rfl) (by kernel_rfl) ?_
  refine wpAnyY_seg 0 5 _ #[true, true, true, true, true, false, false, false, false, false, false, false, false, false, false, false, false, false, false, false, false, false, false, false, false, false, false, false, false, false, false, false] 27 (by kernel_rfl) noPanic_put (HY.out _ _ _ _ O4.out) (by kernel_rfl) ?_
  simp only [List.take_succ_cons, List.take_zero, List.drop_zero]
  repeat (first
    | (refine wpSegH_no (by rfl) ?_; simp only [Act.put, List.setIfInBounds_toArray, List.set_cons_zero, List.set_cons_succ])
    | (refine wpSegH_yes (by rfl) ?_; apply Exists.intro; apply And.intro; (· (intro wx hS; (try dsimp only at hS); go_simp; first | done | with_reducible rfl)); simp only [Act.put, List.setIfInBounds_toArray, List.set_cons_zero, List.set_cons_succ]))
  refine wpSegH_nil ?_
  refine wpAnyY_segT 5 1 _ #[true, true, true, true, true, true, false, false, false, false, false, false, false, false, false, false, false, false, false, false, false, false, false, false, false, false, false, false, false, false, false, false] 26 (by kernel_rfl) noPanic_put (by kernel_rfl) ?_
  simp only [List.take_succ_cons, List.take_zero, List.drop_succ_cons, List.drop_zero]
  repeat (first
    | (refine wpSegH_no (by rfl) ?_; simp only [Act.put, List.setIfInBounds_toArray, List.set_cons_zero, List.set_cons_succ])
    | (refine wpSegH_yes (by rfl) ?_; apply Exists.intro; apply And.intro; (· (intro wx hS; (try dsimp only at hS); go_simp; first | done | with_reducible rfl)); simp only [Act.put, List.setIfInBounds_toArray, List.set_cons_zero, List.set_cons_succ]))
  refine wpSegH_nil ?_
  refine wpAnyY_seg 6 15 _ #[true, true, true, true, true, true, true, true, true, true, true, true, true, true, true, true, true, true, true, true, true, false, false, false, false, false, false, false, false, false, false, false] 11 (by kernel_rfl) noPanic_put (HY.out _ _ _ _ O4.out) (by kernel_rfl) ?_
  simp only [List.take_succ_cons, List.take_zero, List.drop_succ_cons, List.drop_zero]
  repeat (first
    | (refine wpSegH_no (by rfl) ?_; simp only [Act.put, List.setIfInBounds_toArray, List.set_cons_zero, List.set_cons_succ])
    | (refine wpSegH_yes (by rfl) ?_; apply Exists.intro; apply And.intro; (· (intro wx hS; (try dsimp only at hS); go_simp; first | done | with_reducible rfl)); simp only [Act.put, List.setIfInBounds_toArray, List.set_cons_zero, List.set_cons_succ]))
  refine wpSegH_nil ?_
  refine wpAnyY_one 21 _ #[true, true, true, true, true, true, true, true, true, true, true, true, true, true, true, true, true, true, true, true, true, true, false, false, false, false, false, false, false, false, false, false] 10 (by kernel_rfl) (fun K hK => ?_)
  have HKK := Lib.hid hK
  clear hK
  simp only [List.drop_succ_cons, List.drop_zero]
  refine headH_mk (by rfl) ?_
  go_simp
  refine H9.out.mono ?_
  rintro r w5 ⟨a', c', ga', gc', rfl, r1, r2, r3, r4⟩
  have O5 := Lib.hid (O4.out.step r4)
  refine HKK.out _ _ (HY.out _ _ _ _ O5.out) ?_
  clear HKK K
  refine wpAnyY_seg 22 2 _ #[true, true, true, true, true, true, true, true, true, true, true, true, true, true, true, true, true, true, true, true, true, true, true, true, false, false, false, false, false, false, false, false] 8 (by kernel_rfl) noPanic_put (HY.out _ _ _ _ O5.out) (by kernel_rfl) ?_
  simp only [List.take_succ_cons, List.take_zero, List.drop_succ_cons, List.drop_zero]
  repeat (first
    | (refine wpSegH_no (by rfl) ?_; simp only [Act.put, List.setIfInBounds_toArray, List.set_cons_zero, List.set_cons_succ])
    | (refine wpSegH_yes (by rfl) ?_; apply Exists.intro; apply And.intro; (· (intro wx hS; (try dsimp only at hS); go_simp; first | done | with_reducible rfl)); simp only [Act.put, List.setIfInBounds_toArray, List.set_cons_zero, List.set_cons_succ]))
  refine wpSegH_nil ?_
  refine wpAnyY_segT 24 2 _ #[true, true, true, true, true, true, true, true, true, true, true, true, true, true, true, true, true, true, true, true, true, true, true, true, true, true, false, false, false, false, false, false] 6 (by kernel_rfl) noPanic_put (by kernel_rfl) ?_
  simp only [List.take_succ_cons, List.take_zero, List.drop_succ_cons, List.drop_zero]
  repeat (first
    | (refine wpSegH_no (by rfl) ?_; simp only [Act.put, List.setIfInBounds_toArray, List.set_cons_zero, List.set_cons_succ])
    | (refine wpSegH_yes (by rfl) ?_; apply Exists.intro; apply And.intro; (· (intro wx hS; (try dsimp only at hS); go_simp; first | done | with_reducible rfl)); simp only [Act.put, List.setIfInBounds_toArray, List.set_cons_zero, List.set_cons_succ]))
  refine wpSegH_nil ?_
  refine wpAnyY_seg 26 1 _ #[true, true, true, true, true, true, true, true, true, true, true, true, true, true, true, true, true, true, true, true, true, true, true, true, true, true, true, false, false, false, false, false] 5 (by kernel_rfl) noPanic_put (HY.out _ _ _ _ O5.out) (by kernel_rfl) ?_
  simp only [List.take_succ_cons, List.take_zero, List.drop_succ_cons, List.drop_zero]
  repeat (first
    | (refine wpSegH_no (by rfl) ?_; simp only [Act.put, List.setIfInBounds_toArray, List.set_cons_zero, List.set_cons_succ])
    | (refine wpSegH_yes (by rfl) ?_; apply Exists.intro; apply And.intro; (· (intro wx hS; (try dsimp only at hS); go_simp; first | done | with_reducible rfl)); simp only [Act.put, List.setIfInBounds_toArray, List.set_cons_zero, List.set_cons_succ]))
  refine wpSegH_nil ?_
  have o6 := (O4.out.pick 4 rfl).poolAddL r4 [(a', c', (mTurn d.N d.q gl).1.l), (ga', gc', (mTurn d.N d.q gl).2.1)] (fun r hr => by
    simp only [List.mem_cons, List.not_mem_nil, or_false] at hr
    have hh : ∀ x ∈ blk a' ++ blk ga', (∃ q ∈ rs, x ∈ blk q.1) ∨ w2.drew.heap.size ≤ x := fun x hx => by
      rcases r3 x hx with h | h
      · rcases List.mem_append.1 h with h | h
        · exact .inl ⟨_, HP.out.1, h⟩
        · exact .inl ⟨_, HP.out.2.2, h⟩
      · exact .inr h
    rcases hr with rfl | rfl
    · exact ⟨r1, fun x hx => hh x (List.mem_append.2 (.inl hx))⟩
    · exact ⟨r2, fun x hx => hh x (List.mem_append.2 (.inr hx))⟩)
  have o7 := (((o6.pick 4 rfl).pick 4 rfl).pick 4 rfl).pick 4 rfl
  have hrx := o7.rowG 3 rfl
  have hcap := hrx.2.1
  obtain ⟨z0, s0, t0⟩ := hrx.spot (i * 3) (by omega)
  obtain ⟨z1, s1, t1⟩ := hrx.spot (i * 3 + 1) (by omega)
  obtain ⟨z2, s2, t2⟩ := hrx.spot (i * 3 + 2) (by omega)
  simp only [← Nat.add_assoc] at s1 s2 t1 t2
  have o8 : Own w0 (((w5.setCell ⟨xb, xo + i * 3, none⟩ (.int .i64 (nx : Int))).setCell ⟨xb, xo + i * 3 + 1, none⟩ (.slice a' (List.length ((mTurn d.N d.q gl).1.l)) c')).setCell ⟨xb, xo + i * 3 + 2, none⟩ (.int .i64 (d.N : Int))) (CelA wb [.slice (some ⟨lb, lo, none⟩) 4 lc, .pointer (some ⟨b, 0, none⟩), .slice (some ⟨xb, xo, none⟩) 4 xc, .slice ya gl.length yc, .int .i64 (nx : Int), .slice oa out.length oc] :: RowGA 1 (some ⟨lb, lo, none⟩) lc 4 (lptr ds) :: gloA b ((mTurn d.N d.q gl).2.1) :: RowGA 3 (some ⟨xb, xo, none⟩) xc 4 (xcs (ds.set i ⟨d.p, d.g, d.N, (mReady d.N d.q (nx : Int) gl).1, a', c'⟩)) :: PoolA ([(a', c', (mTurn d.N d.q gl).1.l), (ga', gc', (mTurn d.N d.q gl).2.1)] ++ rs) :: RowA oa oc out :: locs (ds.set i ⟨d.p, d.g, d.N, (mReady d.N d.q (nx : Int) gl).1, d.xa, d.xc⟩)) :=
    by
      have h := ((((o7.pick 3 rfl).xqSet i ⟨d.p, d.g, d.N, (mReady d.N d.q (nx : Int) gl).1, a', c'⟩ HD.out.2.1).pick 3 rfl).pick 3 rfl).pick 3 rfl
      have en : LQ.num ((mReady d.N d.q (nx : Int) gl).1) = (nx : Int) := rfl
      rw [show Qd.q ⟨d.p, d.g, d.N, (mReady d.N d.q (nx : Int) gl).1, a', c'⟩ = (mReady d.N d.q (nx : Int) gl).1 from rfl, en] at h
      exact h
  obtain ⟨y3, g3⟩ := o8.cel 0 rfl 3 _ rfl
  have O8 := Lib.hid o8
  clear o6 o7 o8 hrx hcap O4 O5 r1 r2 r3 r4 HY H9
  refine wpAnyY_late 27 _ #[true, true, true, true, true, true, true, true, true, true, true, true, true, true, true, true, true, true, true, true, true, true, true, true, true, true, true, true, false, false, false, false] 4 (by kernel_rfl) (fun K hK => ?_)
  have HKK := Lib.hid hK
  clear hK
  simp only [List.drop_succ_cons, List.drop_zero]
  refine headH_mk (by rfl) ?_
  go_simp
  refine HKK.out _ _ ?_
  clear HKK K
  generalize ((w5.setCell ⟨xb, xo + i * 3, none⟩ (.int .i64 (nx : Int))).setCell ⟨xb, xo + i * 3 + 1, none⟩ (.slice a' (List.length ((mTurn d.N d.q gl).1.l)) c')).setCell ⟨xb, xo + i * 3 + 2, none⟩ (.int .i64 (d.N : Int)) = W6 at *
  refine wpAnyY_late 28 _ #[true, true, true, true, true, true, true, true, true, true, true, true, true, true, true, true, true, true, true, true, true, true, true, true, true, true, true, true, true, false, false, false] 3 (by kernel_rfl) (fun K hK => ?_)
  have HKK := Lib.hid hK
  clear hK
  simp only [List.drop_succ_cons, List.drop_zero]
  refine headH_mk (by rfl) ?_
  go_simp
  refine HKK.out _ _ ?_
  clear HKK K
  refine wpAnyY_late 29 _ #[true, true, true, true, true, true, true, true, true, true, true, true, true, true, true, true, true, true, true, true, true, true, true, true, true, true, true, true, true, true, false, false] 2 (by kernel_rfl) (fun K hK => ?_)
  have HKK := Lib.hid hK
  clear hK
  simp only [List.drop_succ_cons, List.drop_zero]
  refine headH_mk (by rfl) ?_
  go_simp
  refine HKK.out _ _ ?_
  clear HKK K
  refine wpAnyY_late 30 _ #[true, true, true, true, true, true, true, true, true, true, true, true, true, true, true, true, true, true, true, true, true, true, true, true, true, true, true, true, true, true, true, false] 1 (by kernel_rfl) (fun K hK => ?_)
  have HKK := Lib.hid hK
  clear hK
  simp only [List.drop_succ_cons, List.drop_zero]
  refine headH_mk (by rfl) ?_
  go_simp
  refine HKK.out _ _ ?_
  clear HKK K
  refine wpAnyY_late 31 _ #[true, true, true, true, true, true, true, true, true, true, true, true, true, true, true, true, true, true, true, true, true, true, true, true, true, true, true, true, true, true, true, true] 0 (by kernel_rfl) (fun K hK => ?_)
  have HKK := Lib.hid hK
  clear hK
  simp only [List.drop_succ_cons, List.drop_zero]
  refine headH_mk (by rfl) ?_
  go_simp
  refine HKK.out _ _ ?_
  clear HKK K
  refine wpAnyY_done (by kernel_rfl) (NoPanic.normal ?_) _
  have O9 := Lib.hid (O8.out.set 3 (.slice ga' (List.length ((mTurn d.N d.q gl).2.1)) gc'))
  clear O8
  go_upto_region 9 with fail
  generalize W6.setCell ⟨wb, 3, none⟩ (.slice ga' (List.length ((mTurn d.N d.q gl).2.1)) gc') = W7 at *
  clear y3 g3 s0 s1 s2 t0 t1 t2
  obtain ⟨y4, g4⟩ := O9.out.cel 0 rfl 4 _ rfl
  have hx10 := O9.out.set 4 (.int .i64 ((nx : Int) + 1))
  have e10 : ((nx + 1 : Nat) : Int) = (nx : Int) + 1 := by omega
  rw [← e10] at hx10
  have OX := Lib.hid hx10
  clear hx10 O9
  go_wp2_with fail
  go_ret
  refine ⟨ds.set i ⟨d.p, d.g, d.N, (mReady d.N d.q (nx : Int) gl).1, a', c'⟩, (mTurn d.N d.q gl).2.1, nx + 1, out, by first | (simp; done) | (simp; rfl), ⟨some ⟨lb, lo, none⟩, lc, some ⟨xb, xo, none⟩, xc, [(a', c', (mTurn d.N d.q gl).1.l), (ga', gc', (mTurn d.N d.q gl).2.1)] ++ rs, ga', gc', oa, oc, ?_, by rw [List.length_set]; exact HD.out.2.2, fun e he => ?_, by simp, ?_⟩, by omega, by omega⟩
  · unfold D8
    rw [lptr_set (d' := ⟨d.p, d.g, d.N, (mReady d.N d.q (nx : Int) gl).1, a', c'⟩) HD.out.1 rfl]
    have hl : locs (ds.set i ⟨d.p, d.g, d.N, (mReady d.N d.q (nx : Int) gl).1, d.xa, d.xc⟩) = locs (ds.set i ⟨d.p, d.g, d.N, (mReady d.N d.q (nx : Int) gl).1, a', c'⟩) := by rw [← locs_set, ← locs_set]; rfl
    rw [← hl]
    exact OX.out
  · rcases List.mem_or_eq_of_mem_set he with h | h
    · exact List.mem_append.2 (.inr (HP.out.2.1 e h))
    · rw [h]; exact List.mem_append.2 (.inl (List.mem_cons.2 (.inl rfl)))
  · exact H5.out.one HD.out.1 (by
      have h := (mReady_perm d.N d.q (nx : Int) gl).append_right out
      simp only [qn, List.append_assoc, List.cons_append, Option.toList_none, List.nil_append] at h ⊢
      exact h)
end Go.Proofs.Ytmldfckeenahlaa
