/-
  The law's does: Steal of itself.
-/
import Derived.Test.YtmldfckeenahlaaWDo8j
open Go Go.RowKit
set_option linter.unusedVariables false
namespace Go.Proofs.Ytmldfckeenahlaa
set_option maxRecDepth 100000 in
set_option maxHeartbeats 8000000 in
theorem does_6a (w0 w : World) (wb b : Nat) (ds : List Qd) (gl : List Int) (nx : Nat) (out : List Int) (kd wh n : Int) (h : St8 w0 w wb b ds gl nx out) (hK : (bits BinOp.and IntKind.i64 kd 255).tmod 10 = 6) (hsame : bits BinOp.and IntKind.i64 wh 3 = bits BinOp.and IntKind.i64 n 3) (hn : nx ≤ 100) :
    Calls Try.prog 7 #[.pointer (some ⟨wb, 0, none⟩), .agg #[.int .i64 kd, .int .i64 wh, .int .i64 n]] w fun r w' => Does8 w0 wb b nx r w' := by
  obtain ⟨la, lc, xa, xc, rs, ya, yc, oa, oc, h1, h2, h3, h4, h5⟩ := h
  obtain ⟨i, hi, hi4⟩ : ∃ i : Nat, bits BinOp.and IntKind.i64 wh 3 = (i : Int) ∧ i < 4 := ⟨(wh % 4).toNat, by rw [and_3i]; omega, by omega⟩
  obtain ⟨k, hk, hk4⟩ : ∃ k : Nat, bits BinOp.and IntKind.i64 n 3 = (k : Int) ∧ k < 4 := ⟨(n % 4).toNat, by rw [and_3i]; omega, by omega⟩
  obtain rfl : i = k := by omega
  clear hsame
  obtain ⟨d, hd⟩ : ∃ d, ds[i]? = some d := ⟨_, List.getElem?_eq_getElem (by omega)⟩
  have hil : i < ds.length := by omega
  have hpool := h3 d (List.mem_of_getElem? hd)
  unfold D8 at h1
  obtain ⟨lb, lo, rfl, -⟩ := (h1.rowG 1 rfl).cells i _ (lptr_at hd)
  obtain ⟨xb, xo, rfl, -⟩ := (h1.rowG 3 rfl).cells.xq hd
  have hinv := h5.nonneg
  have hlen := h5.len
  have hll : d.q.l.length ≤ d.N ∧ 1 ≤ d.N ∧ d.N ≤ 1024 := by
    obtain ⟨F, ⟨_, hL⟩, _⟩ := (h1.locOut hd).head
    have := hL.ll
    exact ⟨this.1, this.2.1, this.2.2.1⟩
  have hgl : gl.length ≤ 100 := by omega
  have hnn : ∀ v, d.q.nx = some v → 0 ≤ v := fun v hv => (hinv v (List.mem_append.2 (.inl ((alln_out hd).mem_iff.2 (List.mem_append.2 (.inl (by unfold qn; rw [hv]; simp))))))).1
  have HNN := Lib.hid (And.intro hnn hinv)
  have HP := Lib.hid (And.intro hpool (And.intro h3 h4))
  have H5 := Lib.hid h5
  have HD := Lib.hid (And.intro hd (And.intro hil h2))
  obtain ⟨ab, hab⟩ : ∃ ab, ab = w.heap.size := ⟨_, rfl⟩
  have hbA := below_alloc1 w (.cells #[.int .i64 kd, .int .i64 wh, .int .i64 n] 29)
  have HO := Lib.hid (h1.step hbA)
  have hact := Blk.mk w [.int .i64 kd, .int .i64 wh, .int .i64 n] 29 ab hab
  have HACT := Lib.hid hact
  clear h1 h2 h3 h4 h5 hd hil hpool hinv hlen hnn hbA hact
  go_enter Try.func7, Try.ntmps7
  go_upto_region 1 with fail
  rw [← hab]
  generalize w.alloc (.cells #[.int .i64 kd, .int .i64 wh, .int .i64 n] 29) = W at *
  clear hab
  obtain ⟨q0, -⟩ := HACT.out 0 _ rfl
  obtain ⟨q1, -⟩ := HACT.out 1 _ rfl
  obtain ⟨q2, -⟩ := HACT.out 2 _ rfl
  go_upto_region 26 with fail
  clear q0 q1 q2 hK hi hk
  have SCX : ∀ (wx : World) (L : List Asr), Own w0 wx (CelA wb [.slice (some ⟨lb, lo, none⟩) 4 lc, .pointer (some ⟨b, 0, none⟩), .slice (some ⟨xb, xo, none⟩) 4 xc, .slice ya gl.length yc, .int .i64 (nx : Int), .slice oa out.length oc] :: RowGA 1 (some ⟨lb, lo, none⟩) lc 4 (lptr ds) :: L) → (wx.cell? ⟨wb, 0, none⟩ = some (.slice (some ⟨lb, lo, none⟩) 4 lc) ∧ wx.cell? ⟨lb, lo + i, none⟩ = some (.pointer (some ⟨d.p, 0, none⟩))) := fun wx L h =>
    ⟨(h.cel 0 rfl 0 _ rfl).1, by
      obtain ⟨b2, o2, e, hc⟩ := (h.rowG 1 rfl).cells i _ (lptr_at HD.out.1)
      cases e; exact hc⟩
  have HX := Lib.hid SCX
  clear SCX
  have hi4' : (i : Int) < 4 := by omega
  have O1 := Lib.hid (HO.out.step (below_drew1 W))
  have hpr := lsteal_self W.drew d.p
  unfold gotv at hpr
  simp only [Option.getD_none, Option.isSome_none] at hpr
  clear HACT
  refine wp_region_lexH (fun wx => wx.cell? ⟨wb, 0, none⟩ = some (.slice (some ⟨lb, lo, none⟩) 4 lc) ∧ wx.cell? ⟨lb, lo + i, none⟩ = some (.pointer (some ⟨d.p, 0, none⟩))) 20 (Array.replicate 20 false) (by kernel_rfl) (by kernel_rfl) ?_
  refine wpAnyH_seg 0 14 _ #[true, true, true, true, true, true, true, true, true, true, true, true, true, true, false, false, false, false, false, false] 6 (by kernel_rfl) noPanic_put (HX.out _ _ O1.out) (by kernel_rfl) ?_
  simp only [List.take_succ_cons, List.take_zero, List.drop_zero]
  repeat (first
    | (refine wpSegH_no (by rfl) ?_; simp only [Act.put, List.setIfInBounds_toArray, List.set_cons_zero, List.set_cons_succ])
    | (refine wpSegH_yes (by rfl) ?_; apply Exists.intro; apply And.intro; (· (intro wx hS; (try dsimp only at hS); go_simp; first | done | with_reducible rfl)); simp only [Act.put, List.setIfInBounds_toArray, List.set_cons_zero, List.set_cons_succ]))
  refine wpSegH_nil ?_
  refine wpAnyH_one 14 _ #[true, true, true, true, true, true, true, true, true, true, true, true, true, true, true, false, false, false, false, false] 5 (by kernel_rfl) (fun K hK => ?_)
  have HKK := Lib.hid hK
  clear hK
  simp only [List.drop_succ_cons, List.drop_zero]
  refine headH_mk (by rfl) ?_
  go_simp
  refine hpr.mono ?_
  rintro r w2 ⟨rfl, rfl⟩
  refine HKK.out _ _ (HX.out _ _ O1.out) ?_
  clear HKK K
  refine wpAnyH_seg 15 5 _ #[true, true, true, true, true, true, true, true, true, true, true, true, true, true, true, true, true, true, true, true] 0 (by kernel_rfl) noPanic_put (HX.out _ _ O1.out) (by kernel_rfl) ?_
  simp only [List.take_succ_cons, List.take_zero, List.drop_succ_cons, List.drop_zero]
  repeat (first
    | (refine wpSegH_no (by rfl) ?_; simp only [Act.put, List.setIfInBounds_toArray, List.set_cons_zero, List.set_cons_succ])
    | (refine wpSegH_yes (by rfl) ?_; apply Exists.intro; apply And.intro; (· (intro wx hS; (try dsimp only at hS); go_simp; first | done | with_reducible rfl)); simp only [Act.put, List.setIfInBounds_toArray, List.set_cons_zero, List.set_cons_succ]))
  refine wpSegH_nil ?_
  refine wpAnyH_done (by kernel_rfl) (NoPanic.normal ?_) _
  go_wp2_with fail
  go_ret
  exact ⟨ds, gl, nx, out, rfl, ⟨some ⟨lb, lo, none⟩, lc, some ⟨xb, xo, none⟩, xc, rs, ya, yc, oa, oc, O1.out, HD.out.2.2, HP.out.2.1, HP.out.2.2, H5.out⟩, by omega, by omega⟩
end Go.Proofs.Ytmldfckeenahlaa
