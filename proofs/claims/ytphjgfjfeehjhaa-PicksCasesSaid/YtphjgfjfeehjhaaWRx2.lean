/-
  The document's channel: Recv.
-/
import Derived.Test.YtphjgfjfeehjhaaWRx1
open Go Go.RowKit
set_option linter.unusedVariables false
namespace Go.Proofs.Ytphjgfjfeehjhaa
def XGot (N : Nat) (C : Ch) (olds : List Nat) (w : World) (r : Ending) (w' : World) : Prop := ∃ ba bc sa sc ra rc, r = .returned (.tuple #[xcv N (mRecv C).1 ba bc sa sc ra rc, .int .i64 (mRecv C).2.1.1, .bool (mRecv C).2.1.2.1, wv (mRecv C).2.1.2.2.1, .bool (mRecv C).2.1.2.2.2, .int .i64 (mRecv C).2.2]) ∧ XOut w w' olds ba bc sa sc ra rc (mRecv C).1
set_option maxRecDepth 100000 in
set_option maxHeartbeats 2000000 in
theorem xrecv_none (w : World) (N : Nat) (Rv : List Wt) (cl : Bool) (ba : Option Addr) (bc : Nat) (sa : Option Addr) (sc : Nat) (ra : Option Addr) (rc : Nat) (h : RefAt w ba bc sa sc ra rc ⟨[], [], Rv, cl⟩) :
    Calls Try.prog 22 #[xcv N ⟨[], [], Rv, cl⟩ ba bc sa sc ra rc] w fun r w' => XGot N ⟨[], [], Rv, cl⟩ (blk ba ++ (blk sa ++ blk ra)) w r w' := by
  unfold xcv
  simp only [List.length_nil]
  obtain ⟨s0, hs0⟩ : ∃ s0, s0 = w.heap.size := ⟨_, rfl⟩
  have hO : Own w ((((w.alloc (.cells #[.int .i64 (N : Int), .slice ba 0 bc, .slice sa 0 sc, .slice ra Rv.length rc, .bool cl] 53)).alloc (.cells #[.int .i64 0, .slice none 0 0, .slice none 0 0, .slice none 0 0, .bool false] 53)).alloc (.cells #[.int .i64 0, .int .i64 0, .int .i64 0] 66)).alloc (.cells #[.int .i64 0, .int .i64 0, .int .i64 0] 66)) [CelA (s0 + 1 + 1 + 1) [.int .i64 0, .int .i64 0, .int .i64 0], CelA (s0 + 1 + 1) [.int .i64 0, .int .i64 0, .int .i64 0], CelA (s0 + 1) [.int .i64 0, .slice none 0 0, .slice none 0 0, .slice none 0 0, .bool false], CelA s0 [.int .i64 (N : Int), .slice ba 0 bc, .slice sa 0 sc, .slice ra Rv.length rc, .bool cl]] :=
    ((((Own.nil (Below.refl _ _)).alloc [.int .i64 (N : Int), .slice ba 0 bc, .slice sa 0 sc, .slice ra Rv.length rc, .bool cl] _ hs0).alloc [.int .i64 0, .slice none 0 0, .slice none 0 0, .slice none 0 0, .bool false] _ (by simp [hs0])).alloc [.int .i64 0, .int .i64 0, .int .i64 0] _ (by simp [hs0])).alloc [.int .i64 0, .int .i64 0, .int .i64 0] _ (by simp [hs0])
  have HO := Lib.hid hO
  have HS := Lib.hid hs0
  have H := Lib.hid h
  clear hO
  obtain ⟨i0, hi0, hz0, hz1, hz2⟩ := info_parts info_i6
  have Hi := Lib.hid hi0; clear hi0
  have Hz0 := Lib.hid hz0; clear hz0
  have Hz1 := Lib.hid hz1; clear hz1
  have Hz2 := Lib.hid hz2; clear hz2
  have hfin : ∀ e w', e = (if cl then (0 : Int) else 5) → Below w.heap.size w w' → XGot N ⟨[], [], Rv, cl⟩ (blk ba ++ (blk sa ++ blk ra)) w (.returned (.tuple #[.agg #[.int .i64 (N : Int), .slice ba 0 bc, .slice sa 0 sc, .slice ra Rv.length rc, .bool cl], .int .i64 0, .bool false, .agg #[.int .i64 0, .int .i64 0, .int .i64 0], .bool false, .int .i64 e])) w' := fun e w' he hb => by
    subst he; exact ⟨ba, bc, sa, sc, ra, rc, rfl, XOut.same h hb⟩
  have HF := Lib.hid hfin
  clear h hfin
  go_enter Try.func22, Try.ntmps22
  go_upto_region 3 with fail
  rw [← hs0]
  generalize hW : (((w.alloc (.cells #[.int .i64 (N : Int), .slice ba 0 bc, .slice sa 0 sc, .slice ra Rv.length rc, .bool cl] 53)).alloc (.cells #[.int .i64 0, .slice none 0 0, .slice none 0 0, .slice none 0 0, .bool false] 53)).alloc (.cells #[.int .i64 0, .int .i64 0, .int .i64 0] 66)).alloc (.cells #[.int .i64 0, .int .i64 0, .int .i64 0] 66) = W at *
  have hsz : W.heap.size = s0 + 1 + 1 + 1 + 1 := by rw [← hW, hs0]; simp
  clear hW hs0
  have HSZ := Lib.hid hsz
  obtain ⟨g1, f1'⟩ := HO.out.cel 3 rfl 1 _ rfl
  have g1a := fun o => cell_below g1 (below_alloc1 W o)
  have HROW : Hid (∀ w', Below W.heap.size W w' → RowG 1 w' ba bc 0 (intc [])) := Lib.hid fun w' hb => by have := (H.out.1.below HO.out.bel).below hb;  exact this
  clear hsz
  go_wp2_with (at_builtin; refine wpList_append_rowG (n := 0) (m := 0) (cs := []) (ds := intc []) rfl _ _ 43 rfl 2 i0 _ Try.underlying43 Hi.out Hz0.out Hz1.out Hz2.out rfl (by omega) (by omega) rfl rfl (RowG.zero (by simp)) (HROW.out _ (below_alloc1 _ _)).cells (by rw [intc_len]; rfl) (intc_one _) (by omega) ?_)
  intro a1 c1 w1 k1 ch1 f1
  have hb1 : Below W.heap.size W w1 := Chg.below (below_alloc1 _ _) ch1 (fun x hx => by simp [blk] at hx; omega)
  have hf1 : ∀ x ∈ blk a1, W.heap.size ≤ x := fun x hx => by
    rcases f1 x hx with h | h
    · simp [blk] at h; omega
    · first | omega | (simp at h; omega)
  have K1 : Hid (RowG 1 w1 a1 c1 0 (intc [])) := Lib.hid (by simpa using k1)
  have o1 := HO.out.step hb1
  obtain ⟨x0, xm0⟩ := o1.cel 3 rfl 0 _ rfl
  obtain ⟨x1, xm1⟩ := o1.cel 3 rfl 1 _ rfl
  obtain ⟨x2, xm2⟩ := o1.cel 3 rfl 2 _ rfl
  obtain ⟨x3, xm3⟩ := o1.cel 3 rfl 3 _ rfl
  obtain ⟨x4, xm4⟩ := o1.cel 3 rfl 4 _ rfl
  obtain ⟨y0, ym0⟩ := o1.cel 2 rfl 0 _ rfl
  obtain ⟨y1, ym1⟩ := o1.cel 2 rfl 1 _ rfl
  obtain ⟨y2, ym2⟩ := o1.cel 2 rfl 2 _ rfl
  obtain ⟨y3, ym3⟩ := o1.cel 2 rfl 3 _ rfl
  obtain ⟨y4, ym4⟩ := o1.cel 2 rfl 4 _ rfl
  obtain ⟨z0, zm0⟩ := o1.cel 1 rfl 0 _ rfl
  obtain ⟨z1, zm1⟩ := o1.cel 1 rfl 1 _ rfl
  obtain ⟨z2, zm2⟩ := o1.cel 1 rfl 2 _ rfl
  obtain ⟨t0, tm0⟩ := o1.cel 0 rfl 0 _ rfl
  obtain ⟨t1, tm1⟩ := o1.cel 0 rfl 1 _ rfl
  obtain ⟨t2, tm2⟩ := o1.cel 0 rfl 2 _ rfl
  have hl0 := World.block_lt_of_cell? w1 _ x0
  have hl1 := World.block_lt_of_cell? w1 _ y0
  have hl2 := World.block_lt_of_cell? w1 _ z0
  have hcl : ∀ e wf, e = (if cl then (0 : Int) else 5) → Chg [s0 + 1, s0 + 1 + 1] w1 wf → XGot N ⟨[], [], Rv, cl⟩ (blk ba ++ (blk sa ++ blk ra)) w (.returned (.tuple #[.agg #[.int .i64 (N : Int), .slice ba 0 bc, .slice sa 0 sc, .slice ra Rv.length rc, .bool cl], .int .i64 0, .bool false, .agg #[.int .i64 0, .int .i64 0, .int .i64 0], .bool false, .int .i64 e])) wf := fun e wf he c =>
    HF.out e wf he (Chg.below o1.bel c (fun x hx => by have := HS.out; simp at hx; omega))
  have HCL := Lib.hid hcl
  clear k1 ch1 f1 hb1 hf1 o1 hcl g1 g1a HO HROW
  cases cl
  all_goals
    go_wp2_with fail
    go_region
    all_goals go_wp2_with fail
  · refine bodyPost_ret (v := .tuple #[.agg #[.int .i64 (N : Int), .slice ba 0 bc, .slice sa 0 sc, .slice ra Rv.length rc, .bool false], .int .i64 0, .bool false, .agg #[.int .i64 0, .int .i64 0, .int .i64 0], .bool false, .int .i64 5]) (by simp [results, Try.results22, go_sem, y0, y1, y2, y3, y4, z0, z1, z2]) rfl ?_
    exact HCL.out _ _ rfl (by repeat (first | (with_reducible exact Chg.refl _ _) | ((with_reducible refine Chg.setIn ?_ ?_); simp) | (with_reducible refine Chg.drew ?_) | (with_reducible refine Chg.drewN ?_ _)))
  · refine bodyPost_ret (v := .tuple #[.agg #[.int .i64 (N : Int), .slice ba 0 bc, .slice sa 0 sc, .slice ra Rv.length rc, .bool true], .int .i64 0, .bool false, .agg #[.int .i64 0, .int .i64 0, .int .i64 0], .bool false, .int .i64 0]) (by simp [results, Try.results22, go_sem, y0, y1, y2, y3, y4, z0, z1, z2]) rfl ?_
    exact HCL.out _ _ rfl (by repeat (first | (with_reducible exact Chg.refl _ _) | ((with_reducible refine Chg.setIn ?_ ?_); simp) | (with_reducible refine Chg.drew ?_) | (with_reducible refine Chg.drewN ?_ _)))
set_option maxRecDepth 100000 in
set_option maxHeartbeats 2000000 in
theorem xrecv_buf (w : World) (N : Nat) (y : Int) (b : List Int) (Rv : List Wt) (cl : Bool) (ba : Option Addr) (bc : Nat) (sa : Option Addr) (sc : Nat) (ra : Option Addr) (rc : Nat) (h : RefAt w ba bc sa sc ra rc ⟨y :: b, [], Rv, cl⟩) (hb : b.length ≤ 100000) :
    Calls Try.prog 22 #[xcv N ⟨y :: b, [], Rv, cl⟩ ba bc sa sc ra rc] w fun r w' => XGot N ⟨y :: b, [], Rv, cl⟩ (blk ba ++ (blk sa ++ blk ra)) w r w' := by
  unfold xcv
  simp only [List.length_nil, List.length_cons]
  obtain ⟨s0, hs0⟩ : ∃ s0, s0 = w.heap.size := ⟨_, rfl⟩
  have hO : Own w ((((w.alloc (.cells #[.int .i64 (N : Int), .slice ba (b.length + 1) bc, .slice sa 0 sc, .slice ra Rv.length rc, .bool cl] 53)).alloc (.cells #[.int .i64 0, .slice none 0 0, .slice none 0 0, .slice none 0 0, .bool false] 53)).alloc (.cells #[.int .i64 0, .int .i64 0, .int .i64 0] 66)).alloc (.cells #[.int .i64 0, .int .i64 0, .int .i64 0] 66)) [CelA (s0 + 1 + 1 + 1) [.int .i64 0, .int .i64 0, .int .i64 0], CelA (s0 + 1 + 1) [.int .i64 0, .int .i64 0, .int .i64 0], CelA (s0 + 1) [.int .i64 0, .slice none 0 0, .slice none 0 0, .slice none 0 0, .bool false], CelA s0 [.int .i64 (N : Int), .slice ba (b.length + 1) bc, .slice sa 0 sc, .slice ra Rv.length rc, .bool cl]] :=
    ((((Own.nil (Below.refl _ _)).alloc [.int .i64 (N : Int), .slice ba (b.length + 1) bc, .slice sa 0 sc, .slice ra Rv.length rc, .bool cl] _ hs0).alloc [.int .i64 0, .slice none 0 0, .slice none 0 0, .slice none 0 0, .bool false] _ (by simp [hs0])).alloc [.int .i64 0, .int .i64 0, .int .i64 0] _ (by simp [hs0])).alloc [.int .i64 0, .int .i64 0, .int .i64 0] _ (by simp [hs0])
  have HO := Lib.hid hO
  have HS := Lib.hid hs0
  have H := Lib.hid h
  clear hO
  obtain ⟨i0, hi0, hz0, hz1, hz2⟩ := info_parts info_i6
  have Hi := Lib.hid hi0; clear hi0
  have Hz0 := Lib.hid hz0; clear hz0
  have Hz1 := Lib.hid hz1; clear hz1
  have Hz2 := Lib.hid hz2; clear hz2
  have hfin : ∀ a' c' w', Below w.heap.size w w' → RowG 1 w' a' c' b.length (intc b) → (∀ y ∈ blk a', w.heap.size ≤ y) → XGot N ⟨y :: b, [], Rv, cl⟩ (blk ba ++ (blk sa ++ blk ra)) w (.returned (.tuple #[.agg #[.int .i64 (N : Int), .slice a' b.length c', .slice sa 0 sc, .slice ra Rv.length rc, .bool cl], .int .i64 y, .bool true, .agg #[.int .i64 0, .int .i64 0, .int .i64 0], .bool false, .int .i64 0])) w' := fun a' c' w' hb k1 k2 =>
    ⟨a', c', sa, sc, ra, rc, rfl, ⟨k1, h.2.1.below hb, h.2.2.below hb⟩, fun y hy => by
      simp only [List.mem_append] at hy ⊢
      rcases hy with hy | hy | hy
      · exact .inr (k2 y hy)
      · exact .inl (.inr (.inl hy))
      · exact .inl (.inr (.inr hy)), hb⟩
  have HF := Lib.hid hfin
  clear h hfin
  go_enter Try.func22, Try.ntmps22
  go_upto_region 3 with fail
  rw [← hs0]
  generalize hW : (((w.alloc (.cells #[.int .i64 (N : Int), .slice ba (b.length + 1) bc, .slice sa 0 sc, .slice ra Rv.length rc, .bool cl] 53)).alloc (.cells #[.int .i64 0, .slice none 0 0, .slice none 0 0, .slice none 0 0, .bool false] 53)).alloc (.cells #[.int .i64 0, .int .i64 0, .int .i64 0] 66)).alloc (.cells #[.int .i64 0, .int .i64 0, .int .i64 0] 66) = W at *
  have hsz : W.heap.size = s0 + 1 + 1 + 1 + 1 := by rw [← hW, hs0]; simp
  clear hW hs0
  have HSZ := Lib.hid hsz
  obtain ⟨g1, f1'⟩ := HO.out.cel 3 rfl 1 _ rfl
  have g1a := fun o => cell_below g1 (below_alloc1 W o)
  have HROW : Hid (∀ w', Below W.heap.size W w' → RowG 1 w' ba bc (b.length + 1) (intc (y :: b))) := Lib.hid fun w' hb => by have := (H.out.1.below HO.out.bel).below hb;  exact this
  clear hsz
  go_wp2_with (at_builtin; refine wpList_append_rowG (n := 0) (m := (b.length + 1)) (cs := []) (ds := intc (y :: b)) rfl _ _ 43 rfl 2 i0 _ Try.underlying43 Hi.out Hz0.out Hz1.out Hz2.out rfl (by omega) (by omega) rfl rfl (RowG.zero (by simp)) (HROW.out _ (below_alloc1 _ _)).cells (by rw [intc_len]; simp) (intc_one _) (by omega) ?_)
  intro a1 c1 w1 k1 ch1 f1
  have hb1 : Below W.heap.size W w1 := Chg.below (below_alloc1 _ _) ch1 (fun x hx => by simp [blk] at hx; omega)
  have hf1 : ∀ x ∈ blk a1, W.heap.size ≤ x := fun x hx => by
    rcases f1 x hx with h | h
    · simp [blk] at h; omega
    · first | omega | (simp at h; omega)
  have K1 : Hid (RowG 1 w1 a1 c1 (b.length + 1) (intc (y :: b))) := Lib.hid (by simpa using k1)
  have o1 := HO.out.step hb1
  obtain ⟨a2, hsl, hrow', hbl⟩ := slice_fromG under_i6 size_i6 K1.out 1 (by omega)
  have hsl2 : ∀ w, (Instr.slice 43 (.slice a1 (b.length + 1) c1) (some (.int .i64 1)) none none).run Try.prog w = .ok (.slice a2 b.length (c1 - 1)) w := hsl
  have hrow2 : RowG 1 w1 a2 (c1 - 1) b.length (intc b) := hrow'
  obtain ⟨b3, o3, rfl, e1⟩ := K1.out.cells.int 0 (by simp)
  simp only [List.getElem_cons_zero, Nat.add_zero] at e1
  have hb3 : W.heap.size ≤ b3 := hf1 b3 (by simp [blk])
  have hne3 : b3 ≠ s0 := by have := HSZ.out; omega
  have hne4 : s0 ≠ b3 := fun e => hne3 e.symm
  have hne5 : b3 ≠ s0 + 1 := by have := HSZ.out; omega
  have hne6 : b3 ≠ s0 + 1 + 1 := by have := HSZ.out; omega
  have hn0 : 0 < b.length + 1 := by omega
  have o5 := o1.setAt 3 rfl 1 (.slice a2 b.length (c1 - 1))
  obtain ⟨x0, xm0⟩ := o5.cel 3 rfl 0 _ rfl
  obtain ⟨x1, xm1⟩ := o5.cel 3 rfl 1 _ rfl
  obtain ⟨x2, xm2⟩ := o5.cel 3 rfl 2 _ rfl
  obtain ⟨x3, xm3⟩ := o5.cel 3 rfl 3 _ rfl
  obtain ⟨x4, xm4⟩ := o5.cel 3 rfl 4 _ rfl
  obtain ⟨y0, ym0⟩ := o1.cel 2 rfl 0 _ rfl
  obtain ⟨y1, ym1⟩ := o1.cel 2 rfl 1 _ rfl
  obtain ⟨y2, ym2⟩ := o1.cel 2 rfl 2 _ rfl
  obtain ⟨y3, ym3⟩ := o1.cel 2 rfl 3 _ rfl
  obtain ⟨y4, ym4⟩ := o1.cel 2 rfl 4 _ rfl
  obtain ⟨z0, zm0⟩ := o1.cel 1 rfl 0 _ rfl
  obtain ⟨z1, zm1⟩ := o1.cel 1 rfl 1 _ rfl
  obtain ⟨z2, zm2⟩ := o1.cel 1 rfl 2 _ rfl
  obtain ⟨t0, tm0⟩ := o1.cel 0 rfl 0 _ rfl
  obtain ⟨t1, tm1⟩ := o1.cel 0 rfl 1 _ rfl
  obtain ⟨t2, tm2⟩ := o1.cel 0 rfl 2 _ rfl
  obtain ⟨p1, q1⟩ := o1.cel 3 rfl 1 _ rfl
  obtain ⟨p2, q2⟩ := o1.cel 3 rfl 2 _ rfl
  have hl0 := World.block_lt_of_cell? w1 _ p1
  have hl1 := World.block_lt_of_cell? w1 _ y0
  have hl2 := World.block_lt_of_cell? w1 _ z0
  have hcl : ∀ wf, Chg [s0, s0 + 1, s0 + 1 + 1] w1 wf → XGot N ⟨y :: b, [], Rv, cl⟩ (blk ba ++ (blk sa ++ blk ra)) w (.returned (.tuple #[.agg #[.int .i64 (N : Int), .slice a2 b.length (c1 - 1), .slice sa 0 sc, .slice ra Rv.length rc, .bool cl], .int .i64 y, .bool true, .agg #[.int .i64 0, .int .i64 0, .int .i64 0], .bool false, .int .i64 0])) wf := fun wf c => by
    have h1 := HS.out
    have h2 := HSZ.out
    have hge : ∀ y ∈ blk a2, s0 + 1 + 1 < y := fun y hy => by rw [hbl] at hy; have := hf1 y hy; omega
    exact HF.out a2 (c1 - 1) wf (Chg.below o1.bel c (fun x hx => by simp at hx; omega)) (hrow2.chg c (fun y hy => by have := hge y hy; simp; omega)) (fun y hy => by have := hge y hy; omega)
  have HCL := Lib.hid hcl
  have O5 := Lib.hid o5
  have e5 : (w1.setCell ⟨s0, 1, none⟩ (.slice a2 b.length (c1 - 1))).cell? ⟨b3, o3, none⟩ = some (.int .i64 y) := by rw [World.cell?_setCell_other _ _ _ _ (by simp; first | done | omega)]; exact e1
  clear k1 ch1 f1 hb1 hf1 o1 hcl g1 g1a HO HROW hsl hrow' hrow2 hbl o5 y0 ym0 y1 ym1 y2 ym2 y3 ym3 y4 ym4 z0 zm0 z1 zm1 z2 zm2 t0 tm0 t1 tm1 t2 tm2 hl0 hl1 hl2
  go_upto_region 11 with fail
  have HC2 : Hid (∀ wf, Chg [s0, s0 + 1, s0 + 1 + 1] (w1.setCell ⟨s0, 1, none⟩ (.slice a2 b.length (c1 - 1))) wf → XGot N ⟨y :: b, [], Rv, cl⟩ (blk ba ++ (blk sa ++ blk ra)) w (.returned (.tuple #[.agg #[.int .i64 (N : Int), .slice a2 b.length (c1 - 1), .slice sa 0 sc, .slice ra Rv.length rc, .bool cl], .int .i64 y, .bool true, .agg #[.int .i64 0, .int .i64 0, .int .i64 0], .bool false, .int .i64 0])) wf) := Lib.hid fun wf c => HCL.out wf (((Chg.refl _ _).setCell _ (.inl (by simp))).trans c (fun x hx => .inl hx))
  generalize w1.setCell ⟨s0, 1, none⟩ (.slice a2 b.length (c1 - 1)) = W5 at *
  have o5 := O5.out
  obtain ⟨y0, ym0⟩ := o5.cel 2 rfl 0 _ rfl
  obtain ⟨y1, ym1⟩ := o5.cel 2 rfl 1 _ rfl
  obtain ⟨y2, ym2⟩ := o5.cel 2 rfl 2 _ rfl
  obtain ⟨y3, ym3⟩ := o5.cel 2 rfl 3 _ rfl
  obtain ⟨y4, ym4⟩ := o5.cel 2 rfl 4 _ rfl
  obtain ⟨z0, zm0⟩ := o5.cel 1 rfl 0 _ rfl
  obtain ⟨z1, zm1⟩ := o5.cel 1 rfl 1 _ rfl
  obtain ⟨z2, zm2⟩ := o5.cel 1 rfl 2 _ rfl
  obtain ⟨t0, tm0⟩ := o5.cel 0 rfl 0 _ rfl
  obtain ⟨t1, tm1⟩ := o5.cel 0 rfl 1 _ rfl
  obtain ⟨t2, tm2⟩ := o5.cel 0 rfl 2 _ rfl
  have hl0 := World.block_lt_of_cell? W5 _ x0
  have hl1 := World.block_lt_of_cell? W5 _ y0
  have hl2 := World.block_lt_of_cell? W5 _ z0
  clear o5 HCL p1 q1 p2 q2 e1
  go_wp2_with fail
  go_region
  all_goals
    go_wp2_with fail
    refine bodyPost_ret (v := .tuple #[.agg #[.int .i64 (N : Int), .slice a2 b.length (c1 - 1), .slice sa 0 sc, .slice ra Rv.length rc, .bool cl], .int .i64 y, .bool true, .agg #[.int .i64 0, .int .i64 0, .int .i64 0], .bool false, .int .i64 0]) (by simp [results, Try.results22, go_sem, y0, y1, y2, y3, y4, z0, z1, z2]) rfl ?_
    exact HC2.out _ (by repeat (first | (with_reducible exact Chg.refl _ _) | ((with_reducible refine Chg.setIn ?_ ?_); simp) | (with_reducible refine Chg.drew ?_) | (with_reducible refine Chg.drewN ?_ _)))
set_option maxRecDepth 100000 in
set_option maxHeartbeats 2000000 in
theorem xrecv_send (w : World) (N : Nat) (y x1 x2 x3 : Int) (buf b : List Int) (t Rv : List Wt) (cl : Bool) (ba : Option Addr) (bc : Nat) (sa : Option Addr) (sc : Nat) (ra : Option Addr) (rc : Nat) (hyb : buf ++ [x3] = y :: b) (h : RefAt w ba bc sa sc ra rc ⟨buf, (x1, x2, x3) :: t, Rv, cl⟩) (hb : buf.length ≤ 100000) (ht : t.length ≤ 100000) :
    Calls Try.prog 22 #[xcv N ⟨buf, (x1, x2, x3) :: t, Rv, cl⟩ ba bc sa sc ra rc] w fun r w' => XGot N ⟨buf, (x1, x2, x3) :: t, Rv, cl⟩ (blk ba ++ (blk sa ++ blk ra)) w r w' := by
  obtain ⟨n, hn⟩ : ∃ n, n = buf.length := ⟨_, rfl⟩
  have hnb : n = b.length := by have := congrArg List.length hyb; simp at this; omega
  have em : mRecv ⟨buf, (x1, x2, x3) :: t, Rv, cl⟩ = (⟨b, t, Rv, cl⟩, (y, true, (x1, x2, x3), true), 0) := by simp only [mRecv, hyb]
  unfold xcv
  simp only [List.length_cons]
  rw [← hn] at hb ⊢
  have HN := Lib.hid hn
  obtain ⟨s0, hs0⟩ : ∃ s0, s0 = w.heap.size := ⟨_, rfl⟩
  have hO : Own w ((((w.alloc (.cells #[.int .i64 (N : Int), .slice ba n bc, .slice sa (t.length + 1) sc, .slice ra Rv.length rc, .bool cl] 53)).alloc (.cells #[.int .i64 0, .slice none 0 0, .slice none 0 0, .slice none 0 0, .bool false] 53)).alloc (.cells #[.int .i64 0, .int .i64 0, .int .i64 0] 66)).alloc (.cells #[.int .i64 0, .int .i64 0, .int .i64 0] 66)) [CelA (s0 + 1 + 1 + 1) [.int .i64 0, .int .i64 0, .int .i64 0], CelA (s0 + 1 + 1) [.int .i64 0, .int .i64 0, .int .i64 0], CelA (s0 + 1) [.int .i64 0, .slice none 0 0, .slice none 0 0, .slice none 0 0, .bool false], CelA s0 [.int .i64 (N : Int), .slice ba n bc, .slice sa (t.length + 1) sc, .slice ra Rv.length rc, .bool cl]] :=
    ((((Own.nil (Below.refl _ _)).alloc [.int .i64 (N : Int), .slice ba n bc, .slice sa (t.length + 1) sc, .slice ra Rv.length rc, .bool cl] _ hs0).alloc [.int .i64 0, .slice none 0 0, .slice none 0 0, .slice none 0 0, .bool false] _ (by simp [hs0])).alloc [.int .i64 0, .int .i64 0, .int .i64 0] _ (by simp [hs0])).alloc [.int .i64 0, .int .i64 0, .int .i64 0] _ (by simp [hs0])
  have HO := Lib.hid hO
  have HS := Lib.hid hs0
  have H := Lib.hid h
  clear hO
  obtain ⟨i0, hi0, hz0, hz1, hz2⟩ := info_parts info_i6
  have Hi := Lib.hid hi0; clear hi0
  have Hz0 := Lib.hid hz0; clear hz0
  have Hz1 := Lib.hid hz1; clear hz1
  have Hz2 := Lib.hid hz2; clear hz2
  have hfin : ∀ a' c' a'' c'' w', Below w.heap.size w w' → RowG 1 w' a' c' b.length (intc b) → RowG 3 w' a'' c'' t.length (wtc t) → (∀ y ∈ blk a', w.heap.size ≤ y) → (∀ y ∈ blk a'', w.heap.size ≤ y) → XGot N ⟨buf, (x1, x2, x3) :: t, Rv, cl⟩ (blk ba ++ (blk sa ++ blk ra)) w (.returned (.tuple #[.agg #[.int .i64 (N : Int), .slice a' b.length c', .slice a'' t.length c'', .slice ra Rv.length rc, .bool cl], .int .i64 y, .bool true, .agg #[.int .i64 x1, .int .i64 x2, .int .i64 x3], .bool true, .int .i64 0])) w' := fun a' c' a'' c'' w' hb k1 k2 k3 k4 => by
    unfold XGot
    rw [em]
    exact ⟨a', c', a'', c'', ra, rc, rfl, ⟨k1, k2, h.2.2.below hb⟩, fun y hy => by
      simp only [List.mem_append] at hy ⊢
      rcases hy with hy | hy | hy
      · exact .inr (k3 y hy)
      · exact .inr (k4 y hy)
      · exact .inl (.inr (.inr hy)), hb⟩
  have HF := Lib.hid hfin
  have HYB := Lib.hid hyb
  have HNB := Lib.hid hnb
  clear hn hnb hyb em
  clear h hfin
  go_enter Try.func22, Try.ntmps22
  go_upto_region 3 with fail
  rw [← hs0]
  generalize hW : (((w.alloc (.cells #[.int .i64 (N : Int), .slice ba n bc, .slice sa (t.length + 1) sc, .slice ra Rv.length rc, .bool cl] 53)).alloc (.cells #[.int .i64 0, .slice none 0 0, .slice none 0 0, .slice none 0 0, .bool false] 53)).alloc (.cells #[.int .i64 0, .int .i64 0, .int .i64 0] 66)).alloc (.cells #[.int .i64 0, .int .i64 0, .int .i64 0] 66) = W at *
  have hsz : W.heap.size = s0 + 1 + 1 + 1 + 1 := by rw [← hW, hs0]; simp
  clear hW hs0
  have HSZ := Lib.hid hsz
  obtain ⟨g1, f1'⟩ := HO.out.cel 3 rfl 1 _ rfl
  have g1a := fun o => cell_below g1 (below_alloc1 W o)
  have HROW : Hid (∀ w', Below W.heap.size W w' → RowG 1 w' ba bc n (intc buf)) := Lib.hid fun w' hb => by have := (H.out.1.below HO.out.bel).below hb; rw [HN.out]; exact this
  clear hsz
  go_wp2_with (at_builtin; refine wpList_append_rowG (n := 0) (m := n) (cs := []) (ds := intc buf) rfl _ _ 43 rfl 2 i0 _ Try.underlying43 Hi.out Hz0.out Hz1.out Hz2.out rfl (by omega) (by omega) rfl rfl (RowG.zero (by simp)) (HROW.out _ (below_alloc1 _ _)).cells (by rw [intc_len]; rw [HN.out]; simp) (intc_one _) (by omega) ?_)
  intro a1 c1 w1 k1 ch1 f1
  have hb1 : Below W.heap.size W w1 := Chg.below (below_alloc1 _ _) ch1 (fun x hx => by simp [blk] at hx; omega)
  have hf1 : ∀ x ∈ blk a1, W.heap.size ≤ x := fun x hx => by
    rcases f1 x hx with h | h
    · simp [blk] at h; omega
    · first | omega | (simp at h; omega)
  have K1 : Hid (RowG 1 w1 a1 c1 n (intc buf)) := Lib.hid (by simpa using k1)
  have o1 := HO.out.step hb1
  have o1' := HO.out.add hb1 (A := RowGA 1 a1 c1 n (intc buf)) ⟨rfl, K1.out⟩ hf1
  have hsr := (H.out.2.1.below o1'.bel)
  obtain ⟨b3, o3, rfl, e1, e2, e3⟩ := hsr.cells.wt 0 (by simp)
  simp only [List.getElem_cons_zero, Nat.zero_mul, Nat.add_zero] at e1 e2 e3
  have hb3 : b3 < s0 := by have := HS.out; have := H.out.2.1.lt b3 (by simp [blk]); omega
  have hn0 : 0 < t.length + 1 := by omega
  obtain ⟨p2, q2⟩ := o1'.cel 4 rfl 2 _ rfl
  obtain ⟨t0, tm0⟩ := o1'.cel 1 rfl 0 _ rfl
  obtain ⟨t1, tm1⟩ := o1'.cel 1 rfl 1 _ rfl
  obtain ⟨t2, tm2⟩ := o1'.cel 1 rfl 2 _ rfl
  have o2 := ((o1'.setAt 1 rfl 0 (.int .i64 x1)).setAt 1 rfl 1 (.int .i64 x2)).setAt 1 rfl 2 (.int .i64 x3)
  have O2 : Hid (Own w (((w1.setCell ⟨s0 + 1 + 1 + 1, 0, none⟩ (.int .i64 x1)).setCell ⟨s0 + 1 + 1 + 1, 1, none⟩ (.int .i64 x2)).setCell ⟨s0 + 1 + 1 + 1, 2, none⟩ (.int .i64 x3)) [RowGA 1 a1 c1 n (intc buf), CelA (s0 + 1 + 1 + 1) [.int .i64 x1, .int .i64 x2, .int .i64 x3], CelA (s0 + 1 + 1) [.int .i64 0, .int .i64 0, .int .i64 0], CelA (s0 + 1) [.int .i64 0, .slice none 0 0, .slice none 0 0, .slice none 0 0, .bool false], CelA s0 [.int .i64 (N : Int), .slice ba n bc, .slice (some ⟨b3, o3, none⟩) (t.length + 1) sc, .slice ra Rv.length rc, .bool cl]]) := Lib.hid o2
  have HSZ1 : Hid (W.heap.size ≤ w1.heap.size) := Lib.hid hb1.size
  have hl3 := World.block_lt_of_cell? w1 _ t0
  clear k1 ch1 f1 hb1 hf1 o1 o1' o2 hsr g1 g1a HO HROW K1
  go_upto_region 7 with fail
  have hsz2 : (((w1.setCell ⟨s0 + 1 + 1 + 1, 0, none⟩ (.int .i64 x1)).setCell ⟨s0 + 1 + 1 + 1, 1, none⟩ (.int .i64 x2)).setCell ⟨s0 + 1 + 1 + 1, 2, none⟩ (.int .i64 x3)).heap.size = w1.heap.size := by simp
  generalize ((w1.setCell ⟨s0 + 1 + 1 + 1, 0, none⟩ (.int .i64 x1)).setCell ⟨s0 + 1 + 1 + 1, 1, none⟩ (.int .i64 x2)).setCell ⟨s0 + 1 + 1 + 1, 2, none⟩ (.int .i64 x3) = W2 at *
  have HSZ2 : Hid (s0 + 1 + 1 + 1 < W2.heap.size) := Lib.hid (by have := HSZ.out; have := HSZ1.out; omega)
  obtain ⟨v2, vm2⟩ := O2.out.cel 1 rfl 2 _ rfl
  clear t0 tm0 t1 tm1 t2 tm2 e1 e2 e3 p2 q2 hl3 hsz2 HSZ1
  go_wp2_with (at_builtin; refine wpList_append_rowG (n := n) (m := 1) (cs := intc buf) (ds := intc [x3]) rfl _ _ 43 rfl 2 i0 _ Try.underlying43 Hi.out Hz0.out Hz1.out Hz2.out rfl (by omega) (by omega) rfl rfl ((O2.out.rowG 0 rfl).below (below_alloc1 _ _)) (CellsAt.new _ (intc [x3]) _ (by first | rfl | simp)) rfl (intc_one _) (by omega) ?_)
  intro a4 c4 w4 k4 ch4 f4
  have o4 := Own.rowTurnC ch4 k4 (fun x hx => by have := f4 x hx; simpa using this) (O2.out.step (below_alloc1 _ _))
  rw [← intc_app, HYB.out] at o4 k4
  obtain ⟨p4, q4⟩ := o4.cel 4 rfl 2 _ rfl
  have hrr := xrest_any w4 (some ⟨b3, o3, none⟩) (t.length + 1) sc (x1, x2, x3) t (H.out.2.1.below o4.bel) rfl ht
  have HRR := Lib.hid hrr
  have hf4 : ∀ x ∈ blk a4, s0 + 1 + 1 + 1 < x := fun x hx => by
    have h1 := O2.out
    rcases f4 x hx with h | h
    · have h2 : ∀ y ∈ blk a1, y ≠ s0 ∧ y ≠ s0 + 1 ∧ y ≠ s0 + 1 + 1 ∧ y ≠ s0 + 1 + 1 + 1 ∧ s0 ≤ y := fun y hy => by
        obtain ⟨_, F, ⟨F1, F2, rfl, ⟨rfl, _⟩, d1, F3, F4, rfl, ⟨rfl, _⟩, d2, F5, F6, rfl, ⟨rfl, _⟩, d3, F7, F8, rfl, ⟨rfl, _⟩, d4, F9, F10, rfl, ⟨rfl, _⟩, _⟩, hge⟩ := h1
        have hnot := d1 y hy
        have hg := hge y (by simp [hy])
        simp at hnot
        have := HS.out
        exact ⟨by omega, by omega, by omega, by omega, by omega⟩
      have := h2 x h
      omega
    · have := HSZ2.out; first | omega | (simp at h; omega)
  have O4 := Lib.hid o4
  have HF4 := Lib.hid hf4
  clear o4 k4 ch4 f4 hf4 hrr v2 vm2
  go_wp2_with fail
  refine HRR.out.mono ?_
  rintro r w5 ⟨a5, c5, rfl, k5, f5, b5⟩
  have o5 := O4.out.add b5 (A := RowGA 3 a5 c5 t.length (wtc t)) ⟨rfl, k5⟩ f5
  have o6 := o5.setAt 5 rfl 2 (.slice a5 t.length c5)
  obtain ⟨p5, q5⟩ := o5.cel 5 rfl 2 _ rfl
  obtain ⟨p6, q6⟩ := o5.cel 5 rfl 1 _ rfl
  have hf5 : ∀ x ∈ blk a5, s0 + 1 + 1 + 1 < x := fun x hx => by
    have h1 := f5 x hx
    have h2 := O4.out.cel 1 rfl 0 _ rfl
    have h3 := World.block_lt_of_cell? w4 _ h2.1
    simp only at h3
    omega
  have hrow4 := o5.rowG 1 rfl
  rw [show n + 1 = b.length + 1 by rw [HNB.out]] at hrow4
  obtain ⟨a6, hsl, hrow6, hbl6⟩ := slice_fromG under_i6 size_i6 hrow4 1 (by omega)
  have hsl2 : ∀ w, (Instr.slice 43 (.slice a4 (n + 1) c4) (some (.int .i64 1)) none none).run Try.prog w = .ok (.slice a6 b.length (c4 - 1)) w := by rw [HNB.out]; exact hsl
  have hrow7 : RowG 1 w5 a6 (c4 - 1) b.length (intc b) := hrow6
  obtain ⟨b7, o7, rfl, e7⟩ := hrow4.cells.int 0 (by simp)
  simp only [List.getElem_cons_zero, Nat.add_zero] at e7
  have hb7 : s0 + 1 + 1 + 1 < b7 := HF4.out b7 (by simp [blk])
  have hne3 : b7 ≠ s0 := by omega
  have hne4 : s0 ≠ b7 := by omega
  have hne5 : b7 ≠ s0 + 1 := by omega
  have hne6 : b7 ≠ s0 + 1 + 1 := by omega
  have hn1 : 0 < n + 1 := by omega
  have o8 := o6.setAt 5 rfl 1 (.slice a6 b.length (c4 - 1))
  have O8 : Hid (Own w ((w5.setCell ⟨s0, 2, none⟩ (.slice a5 t.length c5)).setCell ⟨s0, 1, none⟩ (.slice a6 b.length (c4 - 1))) [RowGA 3 a5 c5 t.length (wtc t), RowGA 1 (some ⟨b7, o7, none⟩) c4 (n + 1) (intc (y :: b)), CelA (s0 + 1 + 1 + 1) [.int .i64 x1, .int .i64 x2, .int .i64 x3], CelA (s0 + 1 + 1) [.int .i64 0, .int .i64 0, .int .i64 0], CelA (s0 + 1) [.int .i64 0, .slice none 0 0, .slice none 0 0, .slice none 0 0, .bool false], CelA s0 [.int .i64 (N : Int), .slice a6 b.length (c4 - 1), .slice a5 t.length c5, .slice ra Rv.length rc, .bool cl]]) := Lib.hid o8
  have hcl : ∀ wf, Chg [s0, s0 + 1, s0 + 1 + 1] w5 wf → XGot N ⟨buf, (x1, x2, x3) :: t, Rv, cl⟩ (blk ba ++ (blk (some ⟨b3, o3, none⟩) ++ blk ra)) w (.returned (.tuple #[.agg #[.int .i64 (N : Int), .slice a6 b.length (c4 - 1), .slice a5 t.length c5, .slice ra Rv.length rc, .bool cl], .int .i64 y, .bool true, .agg #[.int .i64 x1, .int .i64 x2, .int .i64 x3], .bool true, .int .i64 0])) wf := fun wf c => by
    have h1 := HS.out
    have hg6 : ∀ y ∈ blk a6, s0 + 1 + 1 + 1 < y := fun y hy => by rw [hbl6] at hy; exact HF4.out y hy
    exact HF.out a6 (c4 - 1) a5 c5 wf (Chg.below o5.bel c (fun x hx => by simp at hx; omega)) (hrow7.chg c (fun y hy => by have := hg6 y hy; simp; omega)) (k5.chg c (fun y hy => by have := hf5 y hy; simp; omega)) (fun y hy => by have := hg6 y hy; omega) (fun y hy => by have := hf5 y hy; omega)
  have HCL := Lib.hid hcl
  have e8 : ((w5.setCell ⟨s0, 2, none⟩ (.slice a5 t.length c5)).setCell ⟨s0, 1, none⟩ (.slice a6 b.length (c4 - 1))).cell? ⟨b7, o7, none⟩ = some (.int .i64 y) := by rw [World.cell?_setCell_other _ _ _ _ (by simp; first | done | omega), World.cell?_setCell_other _ _ _ _ (by simp; first | done | omega)]; exact e7
  have hl0 := World.block_lt_of_cell? w5 _ p5
  clear o5 o6 o8 k5 f5 b5 hf5 hrow4 hrow6 hrow7 hsl hbl6 hcl O4 O2 p4 q4 HRR
  go_upto_region 11 with fail
  have HC2 : Hid (∀ wf, Chg [s0, s0 + 1, s0 + 1 + 1] ((w5.setCell ⟨s0, 2, none⟩ (.slice a5 t.length c5)).setCell ⟨s0, 1, none⟩ (.slice a6 b.length (c4 - 1))) wf → XGot N ⟨buf, (x1, x2, x3) :: t, Rv, cl⟩ (blk ba ++ (blk (some ⟨b3, o3, none⟩) ++ blk ra)) w (.returned (.tuple #[.agg #[.int .i64 (N : Int), .slice a6 b.length (c4 - 1), .slice a5 t.length c5, .slice ra Rv.length rc, .bool cl], .int .i64 y, .bool true, .agg #[.int .i64 x1, .int .i64 x2, .int .i64 x3], .bool true, .int .i64 0])) wf) := Lib.hid fun wf c => HCL.out wf ((((Chg.refl _ _).setCell _ (.inl (by simp))).setCell _ (.inl (by simp))).trans c (fun x hx => .inl hx))
  generalize (w5.setCell ⟨s0, 2, none⟩ (.slice a5 t.length c5)).setCell ⟨s0, 1, none⟩ (.slice a6 b.length (c4 - 1)) = W5 at *
  have o5 := O8.out
  obtain ⟨g0, gm0⟩ := o5.cel 5 rfl 0 _ rfl
  obtain ⟨g1, gm1⟩ := o5.cel 5 rfl 1 _ rfl
  obtain ⟨g2, gm2⟩ := o5.cel 5 rfl 2 _ rfl
  obtain ⟨g3, gm3⟩ := o5.cel 5 rfl 3 _ rfl
  obtain ⟨g4, gm4⟩ := o5.cel 5 rfl 4 _ rfl
  obtain ⟨y0, ym0⟩ := o5.cel 4 rfl 0 _ rfl
  obtain ⟨y1, ym1⟩ := o5.cel 4 rfl 1 _ rfl
  obtain ⟨y2, ym2⟩ := o5.cel 4 rfl 2 _ rfl
  obtain ⟨y3, ym3⟩ := o5.cel 4 rfl 3 _ rfl
  obtain ⟨y4, ym4⟩ := o5.cel 4 rfl 4 _ rfl
  obtain ⟨z0, zm0⟩ := o5.cel 3 rfl 0 _ rfl
  obtain ⟨z1, zm1⟩ := o5.cel 3 rfl 1 _ rfl
  obtain ⟨z2, zm2⟩ := o5.cel 3 rfl 2 _ rfl
  obtain ⟨t0, tm0⟩ := o5.cel 2 rfl 0 _ rfl
  obtain ⟨t1, tm1⟩ := o5.cel 2 rfl 1 _ rfl
  obtain ⟨t2, tm2⟩ := o5.cel 2 rfl 2 _ rfl
  have hl0 := World.block_lt_of_cell? W5 _ g0
  have hl1 := World.block_lt_of_cell? W5 _ y0
  have hl2 := World.block_lt_of_cell? W5 _ z0
  clear o5 HCL p5 q5 p6 q6 e7
  go_wp2_with fail
  go_region
  all_goals
    go_wp2_with fail
    refine bodyPost_ret (v := .tuple #[.agg #[.int .i64 (N : Int), .slice a6 b.length (c4 - 1), .slice a5 t.length c5, .slice ra Rv.length rc, .bool cl], .int .i64 y, .bool true, .agg #[.int .i64 x1, .int .i64 x2, .int .i64 x3], .bool true, .int .i64 0]) (by simp [results, Try.results22, go_sem, y0, y1, y2, y3, y4, z0, z1, z2]) rfl ?_
    exact HC2.out _ (by repeat (first | (with_reducible exact Chg.refl _ _) | ((with_reducible refine Chg.setIn ?_ ?_); simp) | (with_reducible refine Chg.drew ?_) | (with_reducible refine Chg.drewN ?_ _)))
theorem xrecv_any (w : World) (N : Nat) (C : Ch) (ba : Option Addr) (bc : Nat) (sa : Option Addr) (sc : Nat) (ra : Option Addr) (rc : Nat) (h : RefAt w ba bc sa sc ra rc C) (hb : C.buf.length ≤ 100000) (hs : C.S.length ≤ 100000) :
    Calls Try.prog 22 #[xcv N C ba bc sa sc ra rc] w fun r w' => XGot N C (blk ba ++ (blk sa ++ blk ra)) w r w' := by
  obtain ⟨buf, S, Rv, cl⟩ := C
  simp only at hb hs
  cases S with
  | cons x t =>
    obtain ⟨x1, x2, x3⟩ := x
    cases hbv : buf ++ [x3] with
    | nil => simp at hbv
    | cons y b => exact xrecv_send w N y x1 x2 x3 buf b t Rv cl ba bc sa sc ra rc hbv h hb (by simp at hs; omega)
  | nil =>
    cases buf with
    | nil => exact xrecv_none w N Rv cl ba bc sa sc ra rc h
    | cons y b => exact xrecv_buf w N y b Rv cl ba bc sa sc ra rc h (by simp at hb; omega)
end Go.Proofs.Ytphjgfjfeehjhaa
