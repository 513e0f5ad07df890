/-
  The document's channel: rest, New, Send.
-/
import Derived.Test.YtphjgfjfeehjhaaWCh6
open Go Go.RowKit
set_option linter.unusedVariables false
namespace Go.Proofs.Ytphjgfjfeehjhaa
theorem Chg.setIn {F : List Nat} {w w' : World} {b k : Nat} {v : Value} (hb : b ∈ F) (h : Chg F w w') : Chg F w (w'.setCell ⟨b, k, none⟩ v) := h.setCell v (.inl hb)
/-- The document's channel as a value; its rows. -/
def xcv (N : Nat) (C : Ch) (ba : Option Addr) (bc : Nat) (sa : Option Addr) (sc : Nat) (ra : Option Addr) (rc : Nat) : Value := .agg #[.int .i64 (N : Int), .slice ba C.buf.length bc, .slice sa C.S.length sc, .slice ra C.R.length rc, .bool C.cl]
def RefAt (w : World) (ba : Option Addr) (bc : Nat) (sa : Option Addr) (sc : Nat) (ra : Option Addr) (rc : Nat) (C : Ch) : Prop := RowG 1 w ba bc C.buf.length (intc C.buf) ∧ RowG 3 w sa sc C.S.length (wtc C.S) ∧ RowG 3 w ra rc C.R.length (wtc C.R)
theorem RefAt.below {w w' : World} {ba : Option Addr} {bc : Nat} {sa : Option Addr} {sc : Nat} {ra : Option Addr} {rc : Nat} {C : Ch} (h : RefAt w ba bc sa sc ra rc C) (hb : Below w.heap.size w w') : RefAt w' ba bc sa sc ra rc C := ⟨h.1.below hb, h.2.1.below hb, h.2.2.below hb⟩
theorem info_xw : (Try.prog.info? 66).map (fun i => (i.zero, i.size, i.bytes)) = some (some (.agg #[.int .i64 0, .int .i64 0, .int .i64 0]), 3, 24) := by kernel_rfl
theorem size_xw : ∀ w, (sizeOf (Try.prog.elem 51)).run Try.prog w = .ok 3 w := by
  obtain ⟨i0, hi, hz0, hz1, hz2⟩ := info_parts info_xw
  intro w
  have e : Try.prog.elem 51 = 66 := by kernel_rfl
  rw [e]; simp [sizeOf, typeInfo, hi, hz1]
theorem under_xw : Try.prog.underlying 51 = some (.slice (Try.prog.elem 51)) := by
  have e : Try.prog.elem 51 = 66 := by kernel_rfl
  rw [e]; exact Try.underlying51
set_option maxRecDepth 100000 in
set_option maxHeartbeats 1000000 in
theorem xrest_any (w : World) (a : Option Addr) (n c : Nat) (x : Wt) (t : List Wt) (h : RowG 3 w a c n (wtc (x :: t))) (hn : n = t.length + 1) (hl : t.length ≤ 100000) :
    Calls Try.prog 37 #[.slice a n c] w fun r w' => ∃ a' c', r = .returned (.slice a' t.length c') ∧ RowG 3 w' a' c' t.length (wtc t) ∧ (∀ x ∈ blk a', w.heap.size ≤ x) ∧ Below w.heap.size w w' := by
  obtain ⟨a', hsl, hrow', hbl⟩ := slice_fromG under_xw size_xw h 1 (by omega)
  have hn1 : n - 1 = t.length := by omega
  rw [hn1] at hsl hrow'
  have hsl2 : ∀ w, (Instr.slice 51 (.slice a n c) (some (.int .i64 1)) none none).run Try.prog w = .ok (.slice a' t.length (c - 1)) w := hsl
  have hd : (wtc (x :: t)).drop (1 * 3) = wtc t := rfl
  rw [hd] at hrow'
  obtain ⟨i0, hi0, hz0, hz1, hz2⟩ := info_parts info_xw
  have Hi := Lib.hid hi0; clear hi0
  have Hz0 := Lib.hid hz0; clear hz0
  have Hz1 := Lib.hid hz1; clear hz1
  have Hz2 := Lib.hid hz2; clear hz2
  have H := Lib.hid hrow'
  clear h hn hsl hrow' hbl hn1 hd
  go_enter Try.func37, Try.ntmps37
  go_wp2_with (at_builtin; refine wpList_append_rowG (n := 0) (m := t.length) (cs := []) (ds := wtc t) rfl _ _ 51 rfl 66 i0 _ Try.underlying51 Hi.out Hz0.out Hz1.out Hz2.out rfl (by omega) (by omega) rfl rfl (RowG.zero (by simp)) (H.out.below (below_alloc1 _ _)).cells (wtc_len t) (wtc_one t) (by omega) ?_)
  intro a1 c1 w1 k1 ch1 f1
  have hf : RowG 3 w1 a1 c1 t.length (wtc t) ∧ (∀ x ∈ blk a1, w.heap.size ≤ x) ∧ Below w.heap.size w w1 := by
    refine ⟨by simpa using k1, fun x hx => ?_, Chg.below (below_alloc1 _ _) ch1 (fun x hx => by simp [blk] at hx; omega)⟩
    rcases f1 x hx with h | h
    · simp [blk] at h; omega
    · first | omega | (simp at h; omega)
  have HF := Lib.hid hf
  clear hf k1 ch1 f1
  go_wp2
  go_ret
  exact ⟨a1, c1, by simp, HF.out⟩
set_option maxRecDepth 100000 in
set_option maxHeartbeats 1000000 in
theorem xcnew_any (z : Int) (w : World) : Calls Try.prog 18 #[.int .i64 z] w fun r w' => r = .returned (xcv (roomC z) ⟨[], [], [], false⟩ none 0 none 0 none 0) ∧ Below w.heap.size w w' := by
  obtain ⟨N, hN⟩ : ∃ N, N = roomC z := ⟨_, rfl⟩
  have hV : (N : Int) = 0 ∧ z < 0 ∨ (N : Int) = 0 ∧ z = 0 ∨ (N : Int) = z ∧ 0 < z ∧ z ≤ 16 ∨ (N : Int) = 16 ∧ 16 < z := by rw [hN]; unfold roomC; omega
  rw [← hN]
  clear hN
  unfold xcv
  rcases hV with ⟨hV, hz⟩ | ⟨hV, rfl⟩ | ⟨hV, hz, hz'⟩ | ⟨hV, hz⟩
  all_goals
    rw [hV]
    have HV := Lib.hid hV; clear hV
    go_enter Try.func18, Try.ntmps18
    go_wp2
    exact bodyPost_ret (by simp [results, Try.results18, go_sem]) rfl ⟨rfl, below_alloc1 _ _⟩
/-- What a call on the document's channel leaves. -/
def XOut (w w' : World) (olds : List Nat) (ba : Option Addr) (bc : Nat) (sa : Option Addr) (sc : Nat) (ra : Option Addr) (rc : Nat) (C : Ch) : Prop := RefAt w' ba bc sa sc ra rc C ∧ (∀ x ∈ blk ba ++ (blk sa ++ blk ra), x ∈ olds ∨ w.heap.size ≤ x) ∧ Below w.heap.size w w'
theorem XOut.same {w w' : World} {ba : Option Addr} {bc : Nat} {sa : Option Addr} {sc : Nat} {ra : Option Addr} {rc : Nat} {C : Ch} (h : RefAt w ba bc sa sc ra rc C) (hb : Below w.heap.size w w') : XOut w w' (blk ba ++ (blk sa ++ blk ra)) ba bc sa sc ra rc C := ⟨h.below hb, fun x hx => .inl hx, hb⟩
def XSent (N : Nat) (C : Ch) (v : Int) (olds : List Nat) (w : World) (r : Ending) (w' : World) : Prop := ∃ ba bc sa sc ra rc, r = .returned (.tuple #[xcv N (mSend N C v).1 ba bc sa sc ra rc, wv (mSend N C v).2.1, .bool (mSend N C v).2.2.1, .int .i64 (mSend N C v).2.2.2]) ∧ XOut w w' olds ba bc sa sc ra rc (mSend N C v).1
set_option maxRecDepth 100000 in
set_option maxHeartbeats 1000000 in
theorem xsend_any (w : World) (N : Nat) (C : Ch) (v : Int) (ba : Option Addr) (bc : Nat) (sa : Option Addr) (sc : Nat) (ra : Option Addr) (rc : Nat) (h : RefAt w ba bc sa sc ra rc C) (hb : C.buf.length ≤ 100000) (hr : C.R.length ≤ 100000) (hN : N ≤ 100) :
    Calls Try.prog 20 #[xcv N C ba bc sa sc ra rc, .int .i64 v] w fun r w' => XSent N C v (blk ba ++ (blk sa ++ blk ra)) w r w' := by
  obtain ⟨buf, S, Rv, cl⟩ := C
  simp only at hb hr
  unfold xcv
  simp only
  cases cl with
  | true =>
    have hf : ∀ w' , Below w.heap.size w w' → XSent N ⟨buf, S, Rv, true⟩ v (blk ba ++ (blk sa ++ blk ra)) w (.returned (.tuple #[.agg #[.int .i64 (N : Int), .slice ba buf.length bc, .slice sa S.length sc, .slice ra Rv.length rc, .bool true], .agg #[.int .i64 0, .int .i64 0, .int .i64 0], .bool false, .int .i64 10])) w' := fun w' hb => ⟨ba, bc, sa, sc, ra, rc, rfl, XOut.same h hb⟩
    have HF := Lib.hid hf
    clear h hf
    go_enter Try.func20, Try.ntmps20
    go_wp2
    exact bodyPost_ret (by simp [results, Try.results20, go_sem]) rfl (HF.out _ (by repeat (first | exact Below.refl _ _ | refine Below.setCell ?_ (by first | (simp; done) | (simp; omega)) _ | refine Below.alloc ?_ (by first | (simp; done) | (simp; omega)) _)))
  | false =>
    obtain ⟨s0, hs0⟩ : ∃ s0, s0 = w.heap.size := ⟨_, rfl⟩
    have hO : Own w (((w.alloc (.cells #[.int .i64 (N : Int), .slice ba buf.length bc, .slice sa S.length sc, .slice ra Rv.length rc, .bool false] 53)).alloc (.cells #[.int .i64 0, .slice none 0 0, .slice none 0 0, .slice none 0 0, .bool false] 53)).alloc (.cells #[.int .i64 0, .int .i64 0, .int .i64 0] 66)) [CelA (s0 + 1 + 1) [.int .i64 0, .int .i64 0, .int .i64 0], CelA (s0 + 1) [.int .i64 0, .slice none 0 0, .slice none 0 0, .slice none 0 0, .bool false], CelA s0 [.int .i64 (N : Int), .slice ba buf.length bc, .slice sa S.length sc, .slice ra Rv.length rc, .bool false]] :=
      (((Own.nil (Below.refl _ _)).alloc [.int .i64 (N : Int), .slice ba buf.length bc, .slice sa S.length sc, .slice ra Rv.length rc, .bool false] _ hs0).alloc [.int .i64 0, .slice none 0 0, .slice none 0 0, .slice none 0 0, .bool false] _ (by simp [hs0])).alloc [.int .i64 0, .int .i64 0, .int .i64 0] _ (by simp [hs0])
    have HO := Lib.hid hO
    have HS := Lib.hid hs0
    have H := Lib.hid h
    clear hO
    cases Rv with
    | cons x t =>
      have hfin : ∀ a' c' w', Below w.heap.size w w' → RowG 3 w' a' c' t.length (wtc t) → (∀ y ∈ blk a', w.heap.size ≤ y) → XSent N ⟨buf, S, x :: t, false⟩ v (blk ba ++ (blk sa ++ blk ra)) w (.returned (.tuple #[.agg #[.int .i64 (N : Int), .slice ba buf.length bc, .slice sa S.length sc, .slice a' t.length c', .bool false], .agg #[.int .i64 x.1, .int .i64 x.2.1, .int .i64 v], .bool true, .int .i64 0])) w' := fun a' c' w' hb k1 k2 =>
        ⟨ba, bc, sa, sc, a', c', rfl, ⟨h.1.below hb, h.2.1.below hb, k1⟩, fun y hy => by
          simp only [List.mem_append] at hy ⊢
          rcases hy with hy | hy | hy
          · exact .inl (.inl hy)
          · exact .inl (.inr (.inl hy))
          · exact .inr (k2 y hy), hb⟩
      have HF := Lib.hid hfin
      obtain ⟨b3, o3, rfl, e1, e2, e3⟩ := (h.2.2.below HO.out.bel).cells.wt 0 (by simp)
      simp only [List.getElem_cons_zero, Nat.zero_mul, Nat.add_zero] at e1 e2 e3
      have hbl : b3 < s0 := by rw [hs0]; exact h.2.2.lt b3 (by simp [blk])
      obtain ⟨x1, x2, x3⟩ := x
      simp only [List.length_cons] at hr HO e1 e2 e3 ⊢
      have hn0 : 0 < t.length + 1 := by omega
      clear h hfin
      go_enter Try.func20, Try.ntmps20
      go_upto_region 1 with fail
      rw [← hs0]
      generalize hW : ((w.alloc (.cells #[.int .i64 (N : Int), .slice ba buf.length bc, .slice sa S.length sc, .slice (some ⟨b3, o3, none⟩) (t.length + 1) rc, .bool false] 53)).alloc (.cells #[.int .i64 0, .slice none 0 0, .slice none 0 0, .slice none 0 0, .bool false] 53)).alloc (.cells #[.int .i64 0, .int .i64 0, .int .i64 0] 66) = W at *
      have hsz : W.heap.size = s0 + 1 + 1 + 1 := by rw [← hW, hs0]; simp
      clear hW hs0
      obtain ⟨g3, f3⟩ := HO.out.cel 2 rfl 3 _ rfl
      obtain ⟨g4, f4⟩ := HO.out.cel 2 rfl 4 _ rfl
      have hbl3 : b3 < W.heap.size := by omega
      have hsl3 : s0 < W.heap.size := by omega
      have HSZ := Lib.hid hsz
      have hO2 := HO.out.alloc [.int .i64 x1, .int .i64 x2, .int .i64 v] 66 (b := s0 + 1 + 1 + 1) hsz.symm
      have HO2 := Lib.hid hO2
      have hrr := xrest_any (W.alloc (.cells #[.int .i64 x1, .int .i64 x2, .int .i64 v] 66)) (some ⟨b3, o3, none⟩) (t.length + 1) rc (x1, x2, x3) t (H.out.2.2.below hO2.bel) rfl (by omega)
      have HRR := Lib.hid hrr
      clear hsz hrr hO2
      go_wp2_with fail
      refine HRR.out.mono ?_
      rintro r w4 ⟨a', c', rfl, k1, k2, b4⟩
      have o4 := HO2.out.step b4
      have o5 := o4.setAt 3 rfl 3 (.slice a' t.length c')
      obtain ⟨p3, q3⟩ := o4.cel 3 rfl 3 _ rfl
      have hge : ∀ y ∈ blk a', s0 + 1 + 1 + 1 < y := fun y hy => by
        have h1 := k2 y hy
        have h2 := HSZ.out
        have h3 : (W.alloc (.cells #[.int .i64 x1, .int .i64 x2, .int .i64 v] 66)).heap.size = W.heap.size + 1 := by simp
        omega
      have hcl : ∀ wf, Chg [s0 + 1, s0 + 1 + 1] (w4.setCell ⟨s0, 3, none⟩ (.slice a' t.length c')) wf → Below w.heap.size w wf ∧ RowG 3 wf a' c' t.length (wtc t) ∧ ∀ y ∈ blk a', w.heap.size ≤ y := fun wf c => by
        have h1 := HS.out
        refine ⟨Chg.below o5.bel c (fun x hx => by simp at hx; omega), (k1.chg (F := [s0]) ((Chg.refl _ _).setCell _ (.inl (by simp))) (fun y hy => by have := hge y hy; simp; omega)).chg c (fun y hy => by have := hge y hy; simp; omega), fun y hy => by have := hge y hy; omega⟩
      have hcl2 := fun wf c => HF.out a' c' wf (hcl wf c).1 (hcl wf c).2.1 (hcl wf c).2.2
      have HCL := Lib.hid hcl2
      have O5 : Hid (Own w (w4.setCell ⟨s0, 3, none⟩ (.slice a' t.length c')) [CelA (s0 + 1 + 1 + 1) [.int .i64 x1, .int .i64 x2, .int .i64 v], CelA (s0 + 1 + 1) [.int .i64 0, .int .i64 0, .int .i64 0], CelA (s0 + 1) [.int .i64 0, .slice none 0 0, .slice none 0 0, .slice none 0 0, .bool false], CelA s0 [.int .i64 (N : Int), .slice ba buf.length bc, .slice sa S.length sc, .slice a' t.length c', .bool false]]) := Lib.hid o5
      clear o4 o5 k1 k2 b4 hge hcl hcl2 e1 e2 e3 g3 f3 g4 f4 HRR HO2 HO
      rw [HSZ.out]
      go_upto_region 7 with fail
      generalize w4.setCell ⟨s0, 3, none⟩ (.slice a' t.length c') = W5 at *
      have o5 := O5.out
      obtain ⟨u0, um0⟩ := o5.cel 3 rfl 0 _ rfl
      obtain ⟨u1, um1⟩ := o5.cel 3 rfl 1 _ rfl
      obtain ⟨u2, um2⟩ := o5.cel 3 rfl 2 _ rfl
      obtain ⟨u3, um3⟩ := o5.cel 3 rfl 3 _ rfl
      obtain ⟨u4, um4⟩ := o5.cel 3 rfl 4 _ rfl
      obtain ⟨y0, ym0⟩ := o5.cel 2 rfl 0 _ rfl
      obtain ⟨y1, ym1⟩ := o5.cel 2 rfl 1 _ rfl
      obtain ⟨y2, ym2⟩ := o5.cel 2 rfl 2 _ rfl
      obtain ⟨y3, ym3⟩ := o5.cel 2 rfl 3 _ rfl
      obtain ⟨y4, ym4⟩ := o5.cel 2 rfl 4 _ rfl
      obtain ⟨z0, zm0⟩ := o5.cel 1 rfl 0 _ rfl
      obtain ⟨z1, zm1⟩ := o5.cel 1 rfl 1 _ rfl
      obtain ⟨z2, zm2⟩ := o5.cel 1 rfl 2 _ rfl
      obtain ⟨t0, tm0⟩ := o5.cel 0 rfl 0 _ rfl
      obtain ⟨t1, tm1⟩ := o5.cel 0 rfl 1 _ rfl
      obtain ⟨t2, tm2⟩ := o5.cel 0 rfl 2 _ rfl
      have hl1 := World.block_lt_of_cell? W5 _ y0
      have hl2 := World.block_lt_of_cell? W5 _ z0
      clear o5 p3 q3
      go_wp2_with fail
      go_region
      all_goals
        go_wp2_with fail
        refine bodyPost_ret (v := .tuple #[.agg #[.int .i64 (N : Int), .slice ba buf.length bc, .slice sa S.length sc, .slice a' t.length c', .bool false], .agg #[.int .i64 x1, .int .i64 x2, .int .i64 v], .bool true, .int .i64 0]) (by simp [results, Try.results20, go_sem, y0, y1, y2, y3, y4, z0, z1, z2]) rfl ?_
        exact HCL.out _ (by repeat (first | (with_reducible exact Chg.refl _ _) | ((with_reducible refine Chg.setIn ?_ ?_); simp) | (with_reducible refine Chg.drew ?_) | (with_reducible refine Chg.drewN ?_ _)))
    | nil =>
      obtain ⟨n, hn⟩ : ∃ n, n = buf.length := ⟨_, rfl⟩
      have e : mSend N ⟨buf, S, [], false⟩ v = if buf.length < N then (⟨buf ++ [v], S, [], false⟩, zw, false, 0) else (⟨buf, S, [], false⟩, zw, false, 6) := rfl
      simp only [List.length_nil] at hr HO ⊢
      rw [← hn] at e hb HO ⊢
      by_cases hlt : n < N
      · rw [if_pos hlt] at e
        have hfin : ∀ a' c' w', Below w.heap.size w w' → RowG 1 w' a' c' (n + 1) (intc (buf ++ [v])) → (∀ y ∈ blk a', w.heap.size ≤ y) → XSent N ⟨buf, S, [], false⟩ v (blk ba ++ (blk sa ++ blk ra)) w (.returned (.tuple #[.agg #[.int .i64 (N : Int), .slice a' (n + 1) c', .slice sa S.length sc, .slice ra 0 rc, .bool false], .agg #[.int .i64 0, .int .i64 0, .int .i64 0], .bool false, .int .i64 0])) w' := fun a' c' w' hb k1 k2 => by
          have e2 : n + 1 = (buf ++ [v]).length := by rw [hn]; simp
          unfold XSent
          rw [e]
          rw [e2] at k1 ⊢
          exact ⟨a', c', sa, sc, ra, rc, rfl, ⟨k1, h.2.1.below hb, h.2.2.below hb⟩, fun y hy => by
            simp only [List.mem_append] at hy ⊢
            rcases hy with hy | hy | hy
            · exact .inr (k2 y hy)
            · exact .inl (.inr (.inl hy))
            · exact .inl (.inr (.inr hy)), hb⟩
        have HF := Lib.hid hfin
        have hge : ¬ (N : Int) ≤ (n : Int) := by omega
        have hge2 : (n : Int) < (N : Int) := by omega
        have HN := Lib.hid hn
        obtain ⟨i0, hi0, hz0, hz1, hz2⟩ := info_parts info_i6
        have Hi := Lib.hid hi0; clear hi0
        have Hz0 := Lib.hid hz0; clear hz0
        have Hz1 := Lib.hid hz1; clear hz1
        have Hz2 := Lib.hid hz2; clear hz2
        clear h hfin hn e hlt
        go_enter Try.func20, Try.ntmps20
        go_upto_region 1 with fail
        rw [← hs0]
        generalize hW : ((w.alloc (.cells #[.int .i64 (N : Int), .slice ba n bc, .slice sa S.length sc, .slice ra 0 rc, .bool false] 53)).alloc (.cells #[.int .i64 0, .slice none 0 0, .slice none 0 0, .slice none 0 0, .bool false] 53)).alloc (.cells #[.int .i64 0, .int .i64 0, .int .i64 0] 66) = W at *
        have hsz : W.heap.size = s0 + 1 + 1 + 1 := by rw [← hW, hs0]; simp
        clear hW hs0
        obtain ⟨g0, f0⟩ := HO.out.cel 2 rfl 0 _ rfl
        obtain ⟨g1, f1⟩ := HO.out.cel 2 rfl 1 _ rfl
        obtain ⟨g3, f3⟩ := HO.out.cel 2 rfl 3 _ rfl
        obtain ⟨g4, f4⟩ := HO.out.cel 2 rfl 4 _ rfl
        have hsl3 : s0 < W.heap.size := by omega
        have g1a := fun o => cell_below g1 (below_alloc1 W o)
        have HSZ := Lib.hid hsz
        have HROW : Hid (∀ w', Below W.heap.size W w' → RowG 1 w' ba bc n (intc buf)) := Lib.hid fun w' hb => by have := (H.out.1.below HO.out.bel).below hb; rw [HN.out]; exact this
        clear hsz
        go_wp2_with (at_builtin; refine wpList_append_rowG (n := 0) (m := n) (cs := []) (ds := intc buf) rfl _ _ 43 rfl 2 i0 _ Try.underlying43 Hi.out Hz0.out Hz1.out Hz2.out rfl (by omega) (by omega) rfl rfl (RowG.zero (by simp)) (HROW.out _ (below_alloc1 _ _)).cells (by rw [intc_len, HN.out]; simp) (intc_one _) (by omega) ?_)
        intro a1 c1 w1 k1 ch1 f1
        have hb1 : Below W.heap.size W w1 := Chg.below (below_alloc1 _ _) ch1 (fun x hx => by simp [blk] at hx; omega)
        have hf1 : ∀ x ∈ blk a1, W.heap.size ≤ x := fun x hx => by
          rcases f1 x hx with h | h
          · simp [blk] at h; omega
          · first | omega | (simp at h; omega)
        have o1 := HO.out.add hb1 (A := RowGA 1 a1 c1 n (intc buf)) ⟨rfl, by simpa using k1⟩ hf1
        obtain ⟨p1, q1⟩ := o1.cel 3 rfl 1 _ rfl
        have HB1 := Lib.hid hb1
        have O1 := Lib.hid o1
        have HF1 := Lib.hid hf1
        have K1 : Hid (RowG 1 w1 a1 c1 n (intc buf)) := Lib.hid (by simpa using k1)
        clear k1 ch1 f1 hb1 hf1 o1 g0 g1 g3 g4 g1a
        go_wp2_with (at_builtin; refine wpList_append_rowG (n := n) (m := 1) (cs := intc buf) (ds := intc [v]) rfl _ _ 43 rfl 2 i0 _ Try.underlying43 Hi.out Hz0.out Hz1.out Hz2.out rfl (by omega) (by omega) rfl rfl (K1.out.below (below_alloc1 _ _)) (CellsAt.new _ (intc [v]) _ (by first | rfl | simp)) rfl (intc_one _) (by omega) ?_)
        intro a2 c2 w2 k2 ch2 f2
        have o2 := Own.rowTurnC ch2 k2 (fun x hx => by have := f2 x hx; simpa using this) (O1.out.step (below_alloc1 _ _))
        rw [← intc_app] at o2 k2
        have o3 := o2.setAt 3 rfl 1 (.slice a2 (n + 1) c2)
        have hcl : ∀ wf, Chg [s0, s0 + 1, s0 + 1 + 1] w2 wf → XSent N ⟨buf, S, [], false⟩ v (blk ba ++ (blk sa ++ blk ra)) w (.returned (.tuple #[.agg #[.int .i64 (N : Int), .slice a2 (n + 1) c2, .slice sa S.length sc, .slice ra 0 rc, .bool false], .agg #[.int .i64 0, .int .i64 0, .int .i64 0], .bool false, .int .i64 0])) wf := fun wf c => by
          have h1 := HS.out
          have h2 := HSZ.out
          have hge : ∀ y ∈ blk a2, s0 + 1 + 1 < y := fun y hy => by
            rcases f2 y hy with h | h
            · have := HF1.out y h; omega
            · have := HB1.out.size; first | omega | (simp at h; omega)
          exact HF.out a2 c2 wf (Chg.below o2.bel c (fun x hx => by simp at hx; omega)) (k2.chg c (fun y hy => by have := hge y hy; simp; omega)) (fun y hy => by have := hge y hy; omega)
        have HCL := Lib.hid hcl
        obtain ⟨x0, xm0⟩ := o2.cel 3 rfl 0 _ rfl
        obtain ⟨x1, xm1⟩ := o2.cel 3 rfl 1 _ rfl
        obtain ⟨x2, xm2⟩ := o2.cel 3 rfl 2 _ rfl
        obtain ⟨x3, xm3⟩ := o2.cel 3 rfl 3 _ rfl
        obtain ⟨x4, xm4⟩ := o2.cel 3 rfl 4 _ rfl
        obtain ⟨y0, ym0⟩ := o2.cel 2 rfl 0 _ rfl
        obtain ⟨y1, ym1⟩ := o2.cel 2 rfl 1 _ rfl
        obtain ⟨y2, ym2⟩ := o2.cel 2 rfl 2 _ rfl
        obtain ⟨y3, ym3⟩ := o2.cel 2 rfl 3 _ rfl
        obtain ⟨y4, ym4⟩ := o2.cel 2 rfl 4 _ rfl
        obtain ⟨z0, zm0⟩ := o2.cel 1 rfl 0 _ rfl
        obtain ⟨z1, zm1⟩ := o2.cel 1 rfl 1 _ rfl
        obtain ⟨z2, zm2⟩ := o2.cel 1 rfl 2 _ rfl
        have hl0 := World.block_lt_of_cell? w2 _ x0
        have hl1 := World.block_lt_of_cell? w2 _ y0
        have hl2 := World.block_lt_of_cell? w2 _ z0
        clear o2 o3 k2 ch2 f2 hcl K1 O1 HO HF1
        go_wp2
        refine bodyPost_ret (v := .tuple #[.agg #[.int .i64 (N : Int), .slice a2 (n + 1) c2, .slice sa S.length sc, .slice ra 0 rc, .bool false], .agg #[.int .i64 0, .int .i64 0, .int .i64 0], .bool false, .int .i64 0]) (by simp [results, Try.results20, go_sem, y0, y1, y2, y3, y4, z0, z1, z2]) rfl ?_
        exact HCL.out _ (by repeat (first | (with_reducible exact Chg.refl _ _) | ((with_reducible refine Chg.setIn ?_ ?_); simp) | (with_reducible refine Chg.drew ?_) | (with_reducible refine Chg.drewN ?_ _)))
      · rw [if_neg hlt] at e
        have hfin : ∀ w', Below w.heap.size w w' → XSent N ⟨buf, S, [], false⟩ v (blk ba ++ (blk sa ++ blk ra)) w (.returned (.tuple #[.agg #[.int .i64 (N : Int), .slice ba n bc, .slice sa S.length sc, .slice ra 0 rc, .bool false], .agg #[.int .i64 0, .int .i64 0, .int .i64 0], .bool false, .int .i64 6])) w' := fun w' hb => by
          unfold XSent
          rw [e]
          simp only [hn]
          exact ⟨ba, bc, sa, sc, ra, rc, rfl, XOut.same h hb⟩
        have HF := Lib.hid hfin
        have hge : (N : Int) ≤ (n : Int) := by omega
        have hge2 : ¬ (n : Int) < (N : Int) := by omega
        have hge3 : N ≤ n := by omega
        clear h hfin hn e hlt HO hs0 HS
        go_enter Try.func20, Try.ntmps20
        go_wp2
        exact bodyPost_ret (by simp [results, Try.results20, go_sem]) rfl (HF.out _ (by repeat (first | exact Below.refl _ _ | refine Below.setCell ?_ (by first | (simp; done) | (simp; omega)) _ | refine Below.alloc ?_ (by first | (simp; done) | (simp; omega)) _)))
end Go.Proofs.Ytphjgfjfeehjhaa
