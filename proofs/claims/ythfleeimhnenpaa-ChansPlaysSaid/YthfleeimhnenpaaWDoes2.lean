/-
  Channels: does of the law: Recv.
-/
import Derived.Test.YthfleeimhnenpaaWDoes1
import Derived.BigRegion
open Go Go.RowKit
set_option linter.unusedVariables false
namespace Go.Proofs.Ythfleeimhnenpaa
set_option maxRecDepth 100000 in
set_option maxHeartbeats 4000000 in
theorem does_recv {w0 w : World} {R : List Asr} {rs : List Rw} {p N : Nat} {C : Ch} {ba : Option Addr} {bc : Nat} {sa : Option Addr} {sc : Nat} {ra : Option Addr} {rc : Nat} (h : Own w0 w (PoolR rs :: ChanA p N C :: R)) (hi : RefIn rs ba bc sa sc ra rc C) (kd v g cs wn : Int) (K : Int) (hK : (bits BinOp.and IntKind.i64 kd 255).tmod 8 = K) (hKc : K = 2 ∨ K = 3)
    (hl : C.buf.length ≤ 1000 ∧ C.S.length ≤ 1000 ∧ C.R.length ≤ 1000) (hN : N ≤ 100) :
    Calls Try.prog 14 #[.pointer (some ⟨p, 0, none⟩), xcv N C ba bc sa sc ra rc, .agg #[.int .i64 kd, .int .i64 v, .int .i64 g, .int .i64 cs, .int .i64 wn]] w fun r w' => DoesP p N C rs w0 R r w' := by
  unfold xcv
  obtain ⟨s0, hs0⟩ : ∃ s0, s0 = w.heap.size := ⟨_, rfl⟩
  obtain ⟨n1, hn1⟩ : ∃ n, n = C.buf.length := ⟨_, rfl⟩
  obtain ⟨n2, hn2⟩ : ∃ n, n = C.S.length := ⟨_, rfl⟩
  obtain ⟨n3, hn3⟩ : ∃ n, n = C.R.length := ⟨_, rfl⟩
  obtain ⟨cl, hcl⟩ : ∃ c, c = C.cl := ⟨_, rfl⟩
  rw [← hn1, ← hn2, ← hn3, ← hcl]
  have hO : Own w0 (((w.alloc (.cells #[.int .i64 (N : Int), .slice ba n1 bc, .slice sa n2 sc, .slice ra n3 rc, .bool cl] 29)).alloc (.cells #[.int .i64 kd, .int .i64 v, .int .i64 g, .int .i64 cs, .int .i64 wn] 37)).alloc (.cells #[.int .i64 0, .slice none 0 0, .slice none 0 0, .slice none 0 0, .bool false] 29)) (CelA (s0 + 1 + 1) [.int .i64 0, .slice none 0 0, .slice none 0 0, .slice none 0 0, .bool false] :: CelA (s0 + 1) [.int .i64 kd, .int .i64 v, .int .i64 g, .int .i64 cs, .int .i64 wn] :: CelA s0 [.int .i64 (N : Int), .slice ba n1 bc, .slice sa n2 sc, .slice ra n3 rc, .bool cl] :: PoolR rs :: ChanA p N C :: R) :=
    ((h.alloc [.int .i64 (N : Int), .slice ba n1 bc, .slice sa n2 sc, .slice ra n3 rc, .bool cl] _ hs0).alloc [.int .i64 kd, .int .i64 v, .int .i64 g, .int .i64 cs, .int .i64 wn] _ (by simp [hs0])).alloc [.int .i64 0, .slice none 0 0, .slice none 0 0, .slice none 0 0, .bool false] _ (by simp [hs0])
  have HO := Lib.hid hO
  have H1 := Lib.hid (And.intro hn1 (And.intro hn2 (And.intro hn3 hcl)))
  have HI := Lib.hid hi
  have HL := Lib.hid hl
  have HS := Lib.hid hs0
  clear hO h hi hn1 hn2 hn3 hcl hl
  go_enter Try.func14, Try.ntmps14
  go_upto_region 1 with fail
  rw [← hs0]
  generalize hW : ((w.alloc (.cells #[.int .i64 (N : Int), .slice ba n1 bc, .slice sa n2 sc, .slice ra n3 rc, .bool cl] 29)).alloc (.cells #[.int .i64 kd, .int .i64 v, .int .i64 g, .int .i64 cs, .int .i64 wn] 37)).alloc (.cells #[.int .i64 0, .slice none 0 0, .slice none 0 0, .slice none 0 0, .bool false] 29) = W at *
  have hsz : W.heap.size = s0 + 1 + 1 + 1 := by rw [← hW, hs0]; simp
  have HSZ := Lib.hid hsz
  clear hW hs0 hsz
  obtain ⟨a0, -⟩ := HO.out.cel 1 rfl 0 _ rfl
  obtain ⟨a1, -⟩ := HO.out.cel 1 rfl 1 _ rfl
  have hsc := crecv_any (HO.out.pick 4 rfl) (by have := HL.out.1; omega) (by have := HL.out.2.1; omega)
  have HSC := Lib.hid hsc
  obtain ⟨Cx, hCx⟩ : ∃ Cx, Cx = (mRecv C).1 := ⟨_, rfl⟩
  obtain ⟨xv, hxv⟩ : ∃ xv, xv = (mRecv C).2.1.1 := ⟨_, rfl⟩
  obtain ⟨xb, hxb⟩ : ∃ xb, xb = (mRecv C).2.1.2.1 := ⟨_, rfl⟩
  obtain ⟨xw, hxw⟩ : ∃ xw, xw = (mRecv C).2.1.2.2.1 := ⟨_, rfl⟩
  obtain ⟨xk, hxk⟩ : ∃ xk, xk = (mRecv C).2.1.2.2.2 := ⟨_, rfl⟩
  obtain ⟨xe, hxe⟩ : ∃ xe, xe = (mRecv C).2.2 := ⟨_, rfl⟩
  have HEQ := Lib.hid (And.intro hCx (And.intro hxv (And.intro hxb (And.intro hxw (And.intro hxk hxe)))))
  rw [← hCx, ← hxv, ← hxb, ← hxw, ← hxk, ← hxe] at HSC
  clear hsc hCx hxv hxb hxw hxk hxe
  obtain ⟨x1, x2, x3⟩ := xw
  unfold gotC at HSC
  simp only at HSC
  rcases hKc with rfl | rfl
  all_goals
    go_wp2_with fail
    refine HSC.out.mono ?_
    rintro r w3 ⟨rfl, h3⟩
    have h4 : Own w0 (w3.alloc (.cells #[.int .i64 xv, .bool xb, .int .i64 x1, .int .i64 x2, .int .i64 x3, .bool xk] 51)) (CelA w3.heap.size [.int .i64 xv, .bool xb, .int .i64 x1, .int .i64 x2, .int .i64 x3, .bool xk] :: ChanA p N Cx :: CelA (s0 + 1 + 1) [.int .i64 0, .slice none 0 0, .slice none 0 0, .slice none 0 0, .bool false] :: CelA (s0 + 1) [.int .i64 kd, .int .i64 v, .int .i64 g, .int .i64 cs, .int .i64 wn] :: CelA s0 [.int .i64 (N : Int), .slice ba n1 bc, .slice sa n2 sc, .slice ra n3 rc, .bool cl] :: PoolR rs :: R) := Own.alloc h3 [.int .i64 xv, .bool xb, .int .i64 x1, .int .i64 x2, .int .i64 x3, .bool xk] _ rfl
    have hxs := xrecv_any _ N C ba bc sa sc ra rc (h4.refGet 5 rfl HI.out) (by have := HL.out.1; omega) (by have := HL.out.2.1; omega)
    unfold xcv at hxs
    rw [← H1.out.1, ← H1.out.2.1, ← H1.out.2.2.1, ← H1.out.2.2.2] at hxs
    have HXS := Lib.hid hxs
    have H4 := Lib.hid h4
    obtain ⟨x0, xm0⟩ := h4.cel 4 rfl 0 _ rfl
    obtain ⟨x1', xm1⟩ := h4.cel 4 rfl 1 _ rfl
    obtain ⟨x2', xm2⟩ := h4.cel 4 rfl 2 _ rfl
    obtain ⟨x3', xm3⟩ := h4.cel 4 rfl 3 _ rfl
    obtain ⟨x4', xm4⟩ := h4.cel 4 rfl 4 _ rfl
    obtain ⟨b0, am0⟩ := h4.cel 3 rfl 0 _ rfl
    obtain ⟨b1, am1⟩ := h4.cel 3 rfl 1 _ rfl
    have hls0 := World.block_lt_of_cell? _ _ x0
    clear h3 hxs h4 a0 a1
    generalize hs8 : w3.heap.size = s8 at *
    go_upto_region 10 with fail
    generalize w3.alloc (.cells #[.int .i64 xv, .bool xb, .int .i64 x1, .int .i64 x2, .int .i64 x3, .bool xk] 51) = W4 at *
    go_wp2_with fail
    refine HXS.out.mono ?_
    rintro r w5 ⟨ba', bc', sa', sc', ra', rc', hr5, hx5⟩
    rw [← HEQ.out.1, ← HEQ.out.2.1, ← HEQ.out.2.2.1, ← HEQ.out.2.2.2.1, ← HEQ.out.2.2.2.2.1, ← HEQ.out.2.2.2.2.2] at hr5
    rw [← HEQ.out.1] at hx5
    unfold xcv wv at hr5
    simp only at hr5
    subst hr5
    obtain ⟨rs', o5, hri, hsub⟩ := Own.xAdd (H4.out.pick 5 rfl) HI.out hx5
    have o6 := (o5.alloc [.int .i64 (N : Int), .slice ba' Cx.buf.length bc', .slice sa' Cx.S.length sc', .slice ra' Cx.R.length rc', .bool Cx.cl] 29 rfl).alloc [.int .i64 x1, .int .i64 x2, .int .i64 x3] 35 (b := w5.heap.size + 1) (by simp)
    have hle := mRecv_len C
    rw [← HEQ.out.1] at hle
    clear hs8
    generalize hs11 : w5.heap.size = s11 at *
    go_upto_region 11 with fail
    clear hs11
    generalize ((w5.alloc (.cells #[.int .i64 (N : Int), .slice ba' Cx.buf.length bc', .slice sa' Cx.S.length sc', .slice ra' Cx.R.length rc', .bool Cx.cl] 29)).alloc (.cells #[.int .i64 x1, .int .i64 x2, .int .i64 x3] 35)) = W6 at *
    have hfin : ∀ wf, Chg [s0 + 1 + 1] W6 wf → DoesP p N C rs w0 R (.returned (.tuple #[.agg #[.int .i64 (N : Int), .slice ba' Cx.buf.length bc', .slice sa' Cx.S.length sc', .slice ra' Cx.R.length rc', .bool Cx.cl], .bool true])) wf := fun wf c => by
      have o7 : Own w0 W6 (CelA (s11 + 1) [.int .i64 x1, .int .i64 x2, .int .i64 x3] :: CelA s11 [.int .i64 (N : Int), .slice ba' Cx.buf.length bc', .slice sa' Cx.S.length sc', .slice ra' Cx.R.length rc', .bool Cx.cl] :: PoolR rs' :: CelA s8 [.int .i64 xv, .bool xb, .int .i64 x1, .int .i64 x2, .int .i64 x3, .bool xk] :: ChanA p N Cx :: CelA (s0 + 1 + 1) [.int .i64 0, .slice none 0 0, .slice none 0 0, .slice none 0 0, .bool false] :: CelA (s0 + 1) [.int .i64 kd, .int .i64 v, .int .i64 g, .int .i64 cs, .int .i64 wn] :: CelA s0 [.int .i64 (N : Int), .slice ba n1 bc, .slice sa n2 sc, .slice ra n3 rc, .bool cl] :: R) := o6
      have o8 := (((o7.drop.drop.pick 1 rfl).drop.pick 2 rfl).far c)
      exact ⟨Cx, rs', ba', bc', sa', sc', ra', rc', rfl, hri, hsub, hle.1, hle.2.1, hle.2.2, ((o8.pick 2 rfl).drop.pick 2 rfl).drop⟩
    have HF := Lib.hid hfin
    clear hle
    obtain ⟨f0, fm0⟩ := o6.cel 1 rfl 0 _ rfl
    obtain ⟨f1, fm1⟩ := o6.cel 1 rfl 1 _ rfl
    obtain ⟨f2, fm2⟩ := o6.cel 1 rfl 2 _ rfl
    obtain ⟨f3, fm3⟩ := o6.cel 1 rfl 3 _ rfl
    obtain ⟨f4, fm4⟩ := o6.cel 1 rfl 4 _ rfl
    obtain ⟨q0, qm0⟩ := o6.cel 0 rfl 0 _ rfl
    obtain ⟨q1, qm1⟩ := o6.cel 0 rfl 1 _ rfl
    obtain ⟨q2, qm2⟩ := o6.cel 0 rfl 2 _ rfl
    obtain ⟨u0, um0⟩ := o6.cel 3 rfl 0 _ rfl
    obtain ⟨u1, um1⟩ := o6.cel 3 rfl 1 _ rfl
    obtain ⟨u2, um2⟩ := o6.cel 3 rfl 2 _ rfl
    obtain ⟨u3, um3⟩ := o6.cel 3 rfl 3 _ rfl
    obtain ⟨u4, um4⟩ := o6.cel 3 rfl 4 _ rfl
    obtain ⟨u5, um5⟩ := o6.cel 3 rfl 5 _ rfl
    obtain ⟨y0, ym0⟩ := o6.cel 5 rfl 0 _ rfl
    obtain ⟨y1, ym1⟩ := o6.cel 5 rfl 1 _ rfl
    obtain ⟨y2, ym2⟩ := o6.cel 5 rfl 2 _ rfl
    obtain ⟨y3, ym3⟩ := o6.cel 5 rfl 3 _ rfl
    obtain ⟨y4, ym4⟩ := o6.cel 5 rfl 4 _ rfl
    have hl2 := World.block_lt_of_cell? W6 _ y0
    clear o5 o6 hfin hx5 hri hsub H4
    clear x0 xm0 x1' xm1 x2' xm2 x3' xm3 x4' xm4
    go_wp2_with fail
    go_region
    all_goals
      go_wp2_with fail
      refine bodyPost_ret (v := .tuple #[.agg #[.int .i64 (N : Int), .slice ba' Cx.buf.length bc', .slice sa' Cx.S.length sc', .slice ra' Cx.R.length rc', .bool Cx.cl], .bool true]) (by simp [results, Try.results14, go_sem, y0, y1, y2, y3, y4]) rfl ?_
      exact HF.out _ (by repeat (first | (with_reducible exact Chg.refl _ _) | ((with_reducible refine Chg.setIn ?_ ?_); simp) | (with_reducible refine Chg.drew ?_) | (with_reducible refine Chg.drewN ?_ _)))
end Go.Proofs.Ythfleeimhnenpaa
