/-
  Channels: does of the law: Drop.
-/
import Derived.Test.YthfleeimhnenpaaWDoes2
import Derived.BigRegion
open Go Go.RowKit
set_option linter.unusedVariables false
namespace Go.Proofs.Ythfleeimhnenpaa
set_option maxRecDepth 100000 in
set_option maxHeartbeats 4000000 in
theorem does_drop {w0 w : World} {R : List Asr} {rs : List Rw} {p N : Nat} {C : Ch} {ba : Option Addr} {bc : Nat} {sa : Option Addr} {sc : Nat} {ra : Option Addr} {rc : Nat} (h : Own w0 w (PoolR rs :: ChanA p N C :: R)) (hi : RefIn rs ba bc sa sc ra rc C) (kd v g cs wn : Int) (K : Int) (hK : (bits BinOp.and IntKind.i64 kd 255).tmod 8 = K) (hKc : K = 6)
    (hl : C.buf.length ≤ 1000 ∧ C.S.length ≤ 1000 ∧ C.R.length ≤ 1000) (hN : N ≤ 100) :
    Calls Try.prog 14 #[.pointer (some ⟨p, 0, none⟩), xcv N C ba bc sa sc ra rc, .agg #[.int .i64 kd, .int .i64 v, .int .i64 g, .int .i64 cs, .int .i64 wn]] w fun r w' => DoesP p N C rs w0 R r w' := by
  unfold xcv
  obtain ⟨s0, hs0⟩ : ∃ s0, s0 = w.heap.size := ⟨_, rfl⟩
  obtain ⟨n1, hn1⟩ : ∃ n, n = C.buf.length := ⟨_, rfl⟩
  obtain ⟨n2, hn2⟩ : ∃ n, n = C.S.length := ⟨_, rfl⟩
  obtain ⟨n3, hn3⟩ : ∃ n, n = C.R.length := ⟨_, rfl⟩
  obtain ⟨cl, hcl⟩ : ∃ c, c = C.cl := ⟨_, rfl⟩
  rw [← hn1, ← hn2, ← hn3, ← hcl]
  have hO : Own w0 (((w.alloc (.cells #[.int .i64 (N : Int), .slice ba n1 bc, .slice sa n2 sc, .slice ra n3 rc, .bool cl] 29)).alloc (.cells #[.int .i64 kd, .int .i64 v, .int .i64 g, .int .i64 cs, .int .i64 wn] 37)).alloc (.cells #[.int .i64 0, .slice none 0 0, .slice none 0 0, .slice none 0 0, .bool false] 29)) (CelA (s0 + 1 + 1) [.int .i64 0, .slice none 0 0, .slice none 0 0, .slice none 0 0, .bool false] :: CelA (s0 + 1) [.int .i64 kd, .int .i64 v, .int .i64 g, .int .i64 cs, .int .i64 wn] :: CelA s0 [.int .i64 (N : Int), .slice ba n1 bc, .slice sa n2 sc, .slice ra n3 rc, .bool cl] :: PoolR rs :: ChanA p N C :: R) :=
    ((h.alloc [.int .i64 (N : Int), .slice ba n1 bc, .slice sa n2 sc, .slice ra n3 rc, .bool cl] _ hs0).alloc [.int .i64 kd, .int .i64 v, .int .i64 g, .int .i64 cs, .int .i64 wn] _ (by simp [hs0])).alloc [.int .i64 0, .slice none 0 0, .slice none 0 0, .slice none 0 0, .bool false] _ (by simp [hs0])
  have HO := Lib.hid hO
  have H1 := Lib.hid (And.intro hn1 (And.intro hn2 (And.intro hn3 hcl)))
  have HI := Lib.hid hi
  have HL := Lib.hid hl
  have HS := Lib.hid hs0
  clear hO h hi hn1 hn2 hn3 hcl hl
  go_enter Try.func14, Try.ntmps14
  go_upto_region 1 with fail
  rw [← hs0]
  generalize hW : ((w.alloc (.cells #[.int .i64 (N : Int), .slice ba n1 bc, .slice sa n2 sc, .slice ra n3 rc, .bool cl] 29)).alloc (.cells #[.int .i64 kd, .int .i64 v, .int .i64 g, .int .i64 cs, .int .i64 wn] 37)).alloc (.cells #[.int .i64 0, .slice none 0 0, .slice none 0 0, .slice none 0 0, .bool false] 29) = W at *
  have hsz : W.heap.size = s0 + 1 + 1 + 1 := by rw [← hW, hs0]; simp
  have HSZ := Lib.hid hsz
  clear hW hs0 hsz
  obtain ⟨a0, -⟩ := HO.out.cel 1 rfl 0 _ rfl
  obtain ⟨a1, -⟩ := HO.out.cel 1 rfl 1 _ rfl
  obtain ⟨a2, -⟩ := HO.out.cel 1 rfl 2 _ rfl
  have hsc := cdrop_any (HO.out.pick 4 rfl) g (by have := HL.out.2.1; omega) (by have := HL.out.2.2; omega)
  have HSC := Lib.hid hsc
  obtain ⟨Cx, hCx⟩ : ∃ Cx, Cx = (⟨C.buf, dropW g C.S, dropW g C.R, C.cl⟩ : Ch) := ⟨_, rfl⟩
  have HEQ := Lib.hid hCx
  rw [← hCx] at HSC
  clear hsc hCx
  subst hKc
  go_wp2_with fail
  refine HSC.out.mono ?_
  rintro r w3 ⟨rfl, h3⟩
  have hxd := xdrop_any w3 N C g ba bc sa sc ra rc (h3.refGet 4 rfl HI.out) (by have := HL.out.2.1; omega) (by have := HL.out.2.2; omega)
  have hbuf := (h3.refGet 4 rfl HI.out).1
  have HB := Lib.hid hbuf
  unfold xcv at hxd
  simp only at hxd
  rw [← H1.out.1, ← H1.out.2.1, ← H1.out.2.2.1, ← H1.out.2.2.2] at hxd
  have HXD := Lib.hid hxd
  have H3 := Lib.hid h3
  clear a0 a1 a2 hxd hbuf
  obtain ⟨x0, xm0⟩ := h3.cel 3 rfl 0 _ rfl
  obtain ⟨x1, xm1⟩ := h3.cel 3 rfl 1 _ rfl
  obtain ⟨x2, xm2⟩ := h3.cel 3 rfl 2 _ rfl
  obtain ⟨x3, xm3⟩ := h3.cel 3 rfl 3 _ rfl
  obtain ⟨x4, xm4⟩ := h3.cel 3 rfl 4 _ rfl
  obtain ⟨a0, b0⟩ := h3.cel 2 rfl 0 _ rfl
  obtain ⟨a1, b1⟩ := h3.cel 2 rfl 1 _ rfl
  obtain ⟨a2, b2⟩ := h3.cel 2 rfl 2 _ rfl
  have hls0 := World.block_lt_of_cell? _ _ x0
  have hls1 := World.block_lt_of_cell? _ _ a2
  clear h3
  go_upto_region 22 with fail
  go_wp2_with fail
  refine HXD.out.mono ?_
  rintro r w5 ⟨a', c', b', d', hr5, k1, k2, kf, hb5⟩
  have e5 : (dropW g C.S).length = (dropW g C.S).length := rfl
  obtain ⟨n5, hn5⟩ : ∃ n, n = (dropW g C.S).length := ⟨_, rfl⟩
  obtain ⟨n6, hn6⟩ : ∃ n, n = (dropW g C.R).length := ⟨_, rfl⟩
  rw [← hn5, ← hn6] at hr5
  subst hr5
  have H56 := Lib.hid (And.intro hn5 hn6)
  have hx5 : XOut w3 w5 (blk ba ++ (blk sa ++ blk ra)) ba bc a' c' b' d' Cx := by
    rw [HEQ.out]
    exact ⟨⟨HB.out.below hb5, k1, k2⟩, fun x hx => by
      rcases List.mem_append.1 hx with h | h
      · exact .inl (by simp [h])
      · exact .inr (kf x h), hb5⟩
  obtain ⟨rs', o5, hri, hsub⟩ := Own.xAdd (H3.out.pick 4 rfl) HI.out hx5
  have hfin : ∀ wf, Chg [s0 + 1 + 1] w5 wf → DoesP p N C rs w0 R (.returned (.tuple #[.agg #[.int .i64 (N : Int), .slice ba n1 bc, .slice a' n5 c', .slice b' n6 d', .bool cl], .bool true])) wf := fun wf c => by
    have o7 : Own w0 w5 (PoolR rs' :: ChanA p N Cx :: CelA (s0 + 1 + 1) [.int .i64 0, .slice none 0 0, .slice none 0 0, .slice none 0 0, .bool false] :: CelA (s0 + 1) [.int .i64 kd, .int .i64 v, .int .i64 g, .int .i64 cs, .int .i64 wn] :: CelA s0 [.int .i64 (N : Int), .slice ba n1 bc, .slice sa n2 sc, .slice ra n3 rc, .bool cl] :: R) := o5
    have o8 := ((o7.pick 2 rfl).far c)
    have e9 := HEQ.out
    have h9 := H1.out
    have h56 := H56.out
    rw [e9] at o8 hri
    refine ⟨_, rs', ba, bc, a', c', b', d', ?_, hri, hsub, ?_, ?_, ?_, ((o8.pick 2 rfl).drop.pick 2 rfl).drop⟩
    · unfold xcv
      simp only
      rw [← h56.1, ← h56.2, ← h9.1, ← h9.2.2.2]
    · simp
    · have := dropW_len g C.S; simp only; omega
    · have := dropW_len g C.R; simp only; omega
  have HF := Lib.hid hfin
  have O5 := Lib.hid o5
  clear hx5 o5 hri hsub hfin k1 k2 kf hn5 hn6 e5 H3 HB HXD HI HEQ H56
  clear x0 xm0 x1 xm1 x2 xm2 x3 xm3 x4 xm4 a0 b0 a1 b1 a2 b2
  obtain ⟨y0, ym0⟩ := O5.out.cel 2 rfl 0 _ rfl
  obtain ⟨y1, ym1⟩ := O5.out.cel 2 rfl 1 _ rfl
  obtain ⟨y2, ym2⟩ := O5.out.cel 2 rfl 2 _ rfl
  obtain ⟨y3, ym3⟩ := O5.out.cel 2 rfl 3 _ rfl
  obtain ⟨y4, ym4⟩ := O5.out.cel 2 rfl 4 _ rfl
  have hl2 := World.block_lt_of_cell? _ _ y0
  clear O5 hb5
  go_wp2_with fail
  refine bodyPost_ret (v := .tuple #[.agg #[.int .i64 (N : Int), .slice ba n1 bc, .slice a' n5 c', .slice b' n6 d', .bool cl], .bool true]) (by simp [results, Try.results14, go_sem, y0, y1, y2, y3, y4]) rfl ?_
  exact HF.out _ (by repeat (first | (with_reducible exact Chg.refl _ _) | ((with_reducible refine Chg.setIn ?_ ?_); simp) | (with_reducible refine Chg.drew ?_) | (with_reducible refine Chg.drewN ?_ _)))
end Go.Proofs.Ythfleeimhnenpaa
