/-
  Channels: does of the law: WaitRecv.
-/
import Derived.Test.YthfleeimhnenpaaWDoes2
import Derived.BigRegion
open Go Go.RowKit
set_option linter.unusedVariables false
namespace Go.Proofs.Ythfleeimhnenpaa
set_option maxRecDepth 100000 in
set_option maxHeartbeats 4000000 in
theorem does_wr {w0 w : World} {R : List Asr} {rs : List Rw} {p N : Nat} {C : Ch} {ba : Option Addr} {bc : Nat} {sa : Option Addr} {sc : Nat} {ra : Option Addr} {rc : Nat} (h : Own w0 w (PoolR rs :: ChanA p N C :: R)) (hi : RefIn rs ba bc sa sc ra rc C) (kd v g cs wn : Int) (K : Int) (hK : (bits BinOp.and IntKind.i64 kd 255).tmod 8 = K) (hKc : K = 5)
    (hl : C.buf.length ≤ 1000 ∧ C.S.length ≤ 1000 ∧ C.R.length ≤ 1000) (hN : N ≤ 100) :
    Calls Try.prog 14 #[.pointer (some ⟨p, 0, none⟩), xcv N C ba bc sa sc ra rc, .agg #[.int .i64 kd, .int .i64 v, .int .i64 g, .int .i64 cs, .int .i64 wn]] w fun r w' => DoesP p N C rs w0 R r w' := by
  unfold xcv
  obtain ⟨s0, hs0⟩ : ∃ s0, s0 = w.heap.size := ⟨_, rfl⟩
  obtain ⟨n1, hn1⟩ : ∃ n, n = C.buf.length := ⟨_, rfl⟩
  obtain ⟨n2, hn2⟩ : ∃ n, n = C.S.length := ⟨_, rfl⟩
  obtain ⟨n3, hn3⟩ : ∃ n, n = C.R.length := ⟨_, rfl⟩
  obtain ⟨cl, hcl⟩ : ∃ c, c = C.cl := ⟨_, rfl⟩
  rw [← hn1, ← hn2, ← hn3, ← hcl]
  have hO : Own w0 (((w.alloc (.cells #[.int .i64 (N : Int), .slice ba n1 bc, .slice sa n2 sc, .slice ra n3 rc, .bool cl] 29)).alloc (.cells #[.int .i64 kd, .int .i64 v, .int .i64 g, .int .i64 cs, .int .i64 wn] 37)).alloc (.cells #[.int .i64 0, .slice none 0 0, .slice none 0 0, .slice none 0 0, .bool false] 29)) (CelA (s0 + 1 + 1) [.int .i64 0, .slice none 0 0, .slice none 0 0, .slice none 0 0, .bool false] :: CelA (s0 + 1) [.int .i64 kd, .int .i64 v, .int .i64 g, .int .i64 cs, .int .i64 wn] :: CelA s0 [.int .i64 (N : Int), .slice ba n1 bc, .slice sa n2 sc, .slice ra n3 rc, .bool cl] :: PoolR rs :: ChanA p N C :: R) :=
    ((h.alloc [.int .i64 (N : Int), .slice ba n1 bc, .slice sa n2 sc, .slice ra n3 rc, .bool cl] _ hs0).alloc [.int .i64 kd, .int .i64 v, .int .i64 g, .int .i64 cs, .int .i64 wn] _ (by simp [hs0])).alloc [.int .i64 0, .slice none 0 0, .slice none 0 0, .slice none 0 0, .bool false] _ (by simp [hs0])
  have HO := Lib.hid hO
  have H1 := Lib.hid (And.intro hn1 (And.intro hn2 (And.intro hn3 hcl)))
  have HI := Lib.hid hi
  have HL := Lib.hid hl
  have HS := Lib.hid hs0
  clear hO h hi hn1 hn2 hn3 hcl hl
  go_enter Try.func14, Try.ntmps14
  go_upto_region 1 with fail
  rw [← hs0]
  generalize hW : ((w.alloc (.cells #[.int .i64 (N : Int), .slice ba n1 bc, .slice sa n2 sc, .slice ra n3 rc, .bool cl] 29)).alloc (.cells #[.int .i64 kd, .int .i64 v, .int .i64 g, .int .i64 cs, .int .i64 wn] 37)).alloc (.cells #[.int .i64 0, .slice none 0 0, .slice none 0 0, .slice none 0 0, .bool false] 29) = W at *
  have hsz : W.heap.size = s0 + 1 + 1 + 1 := by rw [← hW, hs0]; simp
  have HSZ := Lib.hid hsz
  clear hW hs0 hsz
  obtain ⟨a0, -⟩ := HO.out.cel 1 rfl 0 _ rfl
  obtain ⟨a1, -⟩ := HO.out.cel 1 rfl 1 _ rfl
  obtain ⟨a2, -⟩ := HO.out.cel 1 rfl 2 _ rfl
  obtain ⟨a3, -⟩ := HO.out.cel 1 rfl 3 _ rfl
  obtain ⟨a4, -⟩ := HO.out.cel 1 rfl 4 _ rfl
  have hsc := cwaitr_any (buf := C.buf) (S := C.S) (Rv := C.R) (cl := C.cl) (HO.out.pick 4 rfl) (g, cs, wn) (by have := HL.out.1; have := HL.out.2.1; have := HL.out.2.2; omega)
  unfold wv at hsc
  simp only at hsc
  have HSC := Lib.hid hsc
  obtain ⟨Cx, hCx⟩ : ∃ Cx, Cx = (⟨C.buf, C.S, C.R ++ [(g, cs, wn)], C.cl⟩ : Ch) := ⟨_, rfl⟩
  have HEQ := Lib.hid hCx
  rw [← hCx] at HSC
  clear hsc hCx
  subst hKc
  obtain ⟨i0, hi0, hz0, hz1, hz2⟩ := info_parts info_xw
  have Hi := Lib.hid hi0; clear hi0
  have Hz0 := Lib.hid hz0; clear hz0
  have Hz1 := Lib.hid hz1; clear hz1
  have Hz2 := Lib.hid hz2; clear hz2
  go_wp2_with fail
  refine HSC.out.mono ?_
  rintro r w3 ⟨rfl, h3⟩
  have H3 := Lib.hid h3
  have HROW : Hid (∀ w', Below w3.heap.size w3 w' → RowG 3 w' ra rc n3 (wtc C.R)) := Lib.hid fun w' hb => by have := ((h3.refGet 4 rfl HI.out).2.2.below hb); rw [← H1.out.2.2.1] at this; exact this
  clear a0 a1 a2 a3 a4
  obtain ⟨a2, -⟩ := h3.cel 2 rfl 2 _ rfl
  obtain ⟨a3, -⟩ := h3.cel 2 rfl 3 _ rfl
  obtain ⟨a4, -⟩ := h3.cel 2 rfl 4 _ rfl
  obtain ⟨x2, xm2⟩ := h3.cel 3 rfl 3 _ rfl
  have hsz3 := h3.1.size
  have hls := World.block_lt_of_cell? _ _ x2
  have hls1 := World.block_lt_of_cell? _ _ a2
  have hnl : n3 ≤ 1000 := by have := HL.out; have := H1.out; omega
  clear h3
  go_upto_region 18 with fail
  go_wp2_with fail
  go_region_law (first
    | (refine step_append_rowG (n := 0) (m := n3) (cs := []) (ds := wtc C.R) (by rfl) _ _ 27 (by rfl) 35 i0 _ Try.underlying27 Hi.out Hz0.out Hz1.out Hz2.out rfl (by omega) (by omega) (by rfl) (by rfl) (RowG.zero (by simp <;> omega)) (HROW.out _ (by repeat (first | exact Below.refl _ _ | refine Below.drew ?_ | refine below_drewN ?_ _ | refine Below.alloc ?_ (by simp) _))).cells (by rw [wtc_len, H1.out.2.2.1]) (wtc_one _) (by omega) ?_; intro b1 c1 w4 k1 ch1 f1
       have hb4 : Below w3.heap.size w3 w4 := Chg.below (by repeat (first | exact Below.refl _ _ | refine Below.drew ?_ | refine below_drewN ?_ _ | refine Below.alloc ?_ (by simp) _)) ch1 (fun x hx => by simp [blk] at hx; omega)
       have hf4 : ∀ x ∈ blk b1, w3.heap.size ≤ x := fun x hx => by
         rcases f1 x hx with h | h
         · simp [blk] at h; omega
         · first | omega | (simp at h; omega)
       have K1 : Hid (RowG 3 w4 b1 c1 n3 (wtc C.R)) := Lib.hid (by simpa using k1)
       have CH1 := Lib.hid ch1
       have o4 := H3.out.step hb4
       obtain ⟨d2, -⟩ := o4.cel 2 rfl 2 _ rfl
       obtain ⟨d3, -⟩ := o4.cel 2 rfl 3 _ rfl
       obtain ⟨d4, -⟩ := o4.cel 2 rfl 4 _ rfl
       obtain ⟨e2, em2⟩ := o4.cel 3 rfl 3 _ rfl
       clear k1 ch1 f1 o4)
    | (refine step_append_rowG (n := n3) (m := 1) (cs := wtc C.R) (ds := wtc [(g, cs, wn)]) (by rfl) _ _ 27 (by rfl) 35 i0 _ Try.underlying27 Hi.out Hz0.out Hz1.out Hz2.out rfl (by omega) (by omega) (by first | rfl | simp) (by rfl) (K1.out.below (by repeat (first | exact Below.refl _ _ | refine Below.drew ?_ | refine below_drewN ?_ _ | refine Below.alloc ?_ (by simp) _))) (by first
         | exact (CellsAt.new _ (wtc [(g, cs, wn)]) _ rfl).below (by repeat (first | exact Below.refl _ _ | refine Below.drew ?_ | refine below_drewN ?_ _ | refine Below.alloc ?_ (by simp) _))
         | (refine CellsAt.chg ?_ CH1.out (by simp [blk]); first | exact CellsAt.new _ (wtc [(g, cs, wn)]) _ (by simp) | (refine CellsAt.below (CellsAt.new _ (wtc [(g, cs, wn)]) _ rfl) (by repeat (first | exact Below.refl _ _ | refine Below.drew ?_ | refine below_drewN ?_ _ | refine Below.alloc ?_ (by simp) _))))
         | (refine CellsAt.below (CellsAt.chg ?_ CH1.out (by simp [blk])) (by repeat (first | exact Below.refl _ _ | refine Below.drew ?_ | refine below_drewN ?_ _ | refine Below.alloc ?_ (by simp) _)); first | exact CellsAt.new _ (wtc [(g, cs, wn)]) _ (by simp) | (refine CellsAt.below (CellsAt.new _ (wtc [(g, cs, wn)]) _ rfl) (by repeat (first | exact Below.refl _ _ | refine Below.drew ?_ | refine below_drewN ?_ _ | refine Below.alloc ?_ (by simp) _))))
         | (trace_state; fail)) rfl (wtc_one _) (by omega) ?_; intro b2 c2 w5 k2 ch2 f2
       have hb5 : Below w3.heap.size w3 w5 := Chg.below (below_on hb4 (by repeat (first | exact Below.refl _ _ | refine Below.drew ?_ | refine below_drewN ?_ _ | refine Below.alloc ?_ (by simp) _))) ch2 (fun x hx => hf4 x hx)
       have hf5 : ∀ x ∈ blk b2, w3.heap.size ≤ x := fun x hx => by
         rcases f2 x hx with h | h
         · exact hf4 x h
         · have := hb4.size; first | omega | (simp at h; omega)
       have o5 := H3.out.step hb5
       obtain ⟨e2', em2'⟩ := o5.cel 3 rfl 3 _ rfl
       clear o5))
  all_goals
    have hln : (C.R ++ [(g, cs, wn)]).length = n3 + 1 := by rw [H1.out.2.2.1]; simp
    have hrow : RowG 3 w5 b2 c2 (C.R ++ [(g, cs, wn)]).length (wtc (C.R ++ [(g, cs, wn)])) := by rw [hln, wtc_app]; exact k2
    have o5 := Own.rAdd (H3.out.pick 4 rfl) hb5 hrow (fun x hx => .inr (hf5 x hx))
    have o6 := o5.setAt 4 rfl 3 (.slice b2 (n3 + 1) c2)
    have hfin : ∀ wf, Chg [s0 + 1 + 1] (w5.setCell ⟨s0, 3, none⟩ (.slice b2 (n3 + 1) c2)) wf → DoesP p N C rs w0 R (.returned (.tuple #[.agg #[.int .i64 (N : Int), .slice ba n1 bc, .slice sa n2 sc, .slice b2 (n3 + 1) c2, .bool cl], .bool true])) wf := fun wf c => by
      have o7 := ((o6.pick 2 rfl).far c)
      have e9 := HEQ.out
      have h9 := H1.out
      rw [e9] at o7
      refine ⟨⟨C.buf, C.S, C.R ++ [(g, cs, wn)], C.cl⟩, _, ba, bc, sa, sc, b2, c2, ?_, ?_, fun q hq => List.mem_cons_of_mem _ hq, ?_, ?_, ?_, ((o7.pick 2 rfl).drop.pick 2 rfl).drop⟩
      · unfold xcv
        simp only
        rw [hln, ← h9.1, ← h9.2.1, ← h9.2.2.2]
      · refine ⟨?_, ?_, ?_⟩ <;> first | exact List.mem_cons_of_mem _ HI.out.1 | exact List.mem_cons_of_mem _ HI.out.2.1 | exact List.mem_cons_of_mem _ HI.out.2.2 | exact List.mem_cons_self
      · simp
      · simp
      · simp
    have HF := Lib.hid hfin
    have O6 := Lib.hid o6
    clear hln hrow o5 o6 hfin k2 ch2 f2 hb5 hf5 e2' em2' hb4 hf4 K1 CH1 HROW H3 HI HEQ
    generalize w5.setCell ⟨s0, 3, none⟩ (.slice b2 (n3 + 1) c2) = W9 at *
    obtain ⟨f0, fm0⟩ := O6.out.cel 4 rfl 0 _ rfl
    obtain ⟨f1, fm1⟩ := O6.out.cel 4 rfl 1 _ rfl
    obtain ⟨f2, fm2⟩ := O6.out.cel 4 rfl 2 _ rfl
    obtain ⟨f3, fm3⟩ := O6.out.cel 4 rfl 3 _ rfl
    obtain ⟨f4, fm4⟩ := O6.out.cel 4 rfl 4 _ rfl
    obtain ⟨y0, ym0⟩ := O6.out.cel 2 rfl 0 _ rfl
    obtain ⟨y1, ym1⟩ := O6.out.cel 2 rfl 1 _ rfl
    obtain ⟨y2, ym2⟩ := O6.out.cel 2 rfl 2 _ rfl
    obtain ⟨y3, ym3⟩ := O6.out.cel 2 rfl 3 _ rfl
    obtain ⟨y4, ym4⟩ := O6.out.cel 2 rfl 4 _ rfl
    have hl0 := World.block_lt_of_cell? _ _ f0
    have hl2 := World.block_lt_of_cell? _ _ y0
    clear O6
    go_wp2_with fail
    refine bodyPost_ret (v := .tuple #[.agg #[.int .i64 (N : Int), .slice ba n1 bc, .slice sa n2 sc, .slice b2 (n3 + 1) c2, .bool cl], .bool true]) (by simp [results, Try.results14, go_sem, y0, y1, y2, y3, y4]) rfl ?_
    exact HF.out _ (by repeat (first | (with_reducible exact Chg.refl _ _) | ((with_reducible refine Chg.setIn ?_ ?_); simp) | (with_reducible refine Chg.drew ?_) | (with_reducible refine Chg.drewN ?_ _)))
end Go.Proofs.Ythfleeimhnenpaa
