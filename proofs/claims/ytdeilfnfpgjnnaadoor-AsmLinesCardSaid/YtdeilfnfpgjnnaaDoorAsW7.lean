/-
  A case's line.
-/
import Derived.Test.YtdeilfnfpgjnnaaDoorAsW6
import Derived.Deep.MidRow
open Go Go.RowKit
set_option linter.unusedVariables false
set_option linter.unusedSimpArgs false
namespace Go.Proofs.YtdeilfnfpgjnnaaDoor
theorem opAt_drop (L : List (By × Nat)) (w : By) (i : Nat) (h : i < L.length) : opAt i (L.drop i) w = if (L.getD i ([], 0)).1 = w then some (i, (L.getD i ([], 0)).2) else opAt (i + 1) (L.drop (i + 1)) w := by
  rw [List.drop_eq_getElem_cons h, List.getD_eq_getElem?_getD, List.getElem?_eq_getElem h]
  rfl
theorem opAt_end (L : List (By × Nat)) (w : By) : opAt L.length (L.drop L.length) w = none := by rw [List.drop_length]; rfl
def caI (i : Nat) : Prop := ∀ w, (Instr.index 58 (.agg (tabc casesL).toArray) (.int .i64 (i : Int))).run Tryd.prog w = .ok (.agg #[str (casesL.getD i ([], 0)).1, .int .i64 ((casesL.getD i ([], 0)).2 : Int)]) w
set_option maxRecDepth 100000 in
theorem ca_at : ∀ i, i < 3 → caI i := fun i hi => by
  have : i = 0 ∨ i = 1 ∨ i = 2 := by omega
  rcases this with rfl | rfl | rfl <;> exact fun w => by kernel_rfl
theorem qe_bs (l m : By) : ((bs l).toList == (bs m).toList) = decide (l = m) := by rw [bs_tl, bs_tl]; by_cases h : l = m <;> simp [h]
def casR (r : Rd) (ws : List By) (o : Option (Nat × Nat)) : Rd × Int := match o with
  | none => (r, 9)
  | some (way, n) => withN r (numsM ws n) fun x => { r with ks := r.ks ++ [((way : Int), x3 x 0, x3 x 1)] }
set_option maxRecDepth 100000 in
set_option maxHeartbeats 4000000 in
theorem cas_any (b : Nat) (r : Rd) (R : List Asr) (a : Option Addr) (cap : Nat) (wd : By) (ws : List By) (w0 w : World) (hl : ws.length ≤ 100000) (hs : ∀ x ∈ ws, x.length ≤ 100000) (hg : GlA w0) (h : RdAt w0 w b r R) (hat : CellsAt w a (strs ws)) (hr : r.ks.length ≤ 100000) :
    Calls Tryd.prog 32 #[.pointer (some ⟨b, 0, none⟩), str wd, .slice a ws.length cap] w fun e w' =>
      e = .returned (.int .i64 (casR r ws (opAt 0 casesL wd)).2) ∧ RdAt w0 w' b (casR r ws (opAt 0 casesL wd)).1 R := by
  obtain ⟨i0, hi, hz0, hz1, hz2⟩ := info_parts info_ca
  have Hi := Lib.hid hi
  have Hz0 := Lib.hid hz0
  have Hz1 := Lib.hid hz1
  have Hz2 := Lib.hid hz2
  have HG := Lib.hid hg
  have HAT := Lib.hid hat
  have HS := Lib.hid hs
  have HLK := Lib.hid hr
  have HI := Lib.hid ca_at
  have HR0 : Hid (RdAt w0 w b r R ∧ Below w.heap.size w w ∧ opAt 0 casesL wd = opAt 0 (casesL.drop 0) wd) := Lib.hid ⟨h, Below.refl _ _, rfl⟩
  have hrg : w.rangeAt 0 0 (tabc casesL) := fun j v hj => by rw [Nat.zero_add]; exact (hg.below h.bel).ca j v hj
  obtain ⟨Q, hQ⟩ : ∃ Q, opAt 0 casesL wd = Q := ⟨_, rfl⟩
  rw [hQ] at HR0 ⊢
  obtain ⟨m, hm⟩ : ∃ m, ws.length = m := ⟨_, rfl⟩
  have HM := Lib.hid hm
  rw [hm] at hl ⊢
  obtain ⟨T, hT⟩ : ∃ T, (tabc casesL) = T := ⟨_, rfl⟩
  unfold caI at HI
  rw [hT] at hrg HI
  have HT : Hid (T.length = 6) := Lib.hid (by rw [← hT]; rfl)
  have hlen : (Tryd.prog.info? 58).map (·.size) = some T.length := by rw [HT.out]; kernel_rfl
  clear hi hz0 hz1 hz2 hg hat hs hr hQ h hm hT
  unfold str
  obtain ⟨sw, hsw⟩ : ∃ sw, bs wd = sw := ⟨_, rfl⟩
  have HSW := Lib.hid hsw
  rw [hsw]
  clear hsw
  go_enter Tryd.func32, Tryd.ntmps32
  go_wp2_with (first
    | (with_reducible refine wpList_load_mid rfl _ _ rfl _ _ rfl _ _ hrg Tryd.underlying58 rfl hlen ?_)
    | fail)
  clear hrg hlen
  go_loopw [12] (fun s wr => ∃ i : Nat, i ≤ 3 ∧ s = .int .i64 (i : Int) ∧ Hid (RdAt w0 wr b r R ∧ Below w.heap.size w wr ∧ Q = opAt i (casesL.drop i) wd)) (fun s _ => 3 - (intOf s).toNat)
  case atStart => exact ⟨0, by omega, rfl, HR0⟩
  case round =>
    obtain ⟨i, hi, rfl, HR⟩ := hrel
    clear HR0
    by_cases hlt : i < 3
    · have hx := HI.out i hlt
      obtain ⟨⟨nm, nn⟩, hnm⟩ : ∃ p, casesL.getD i ([], 0) = p := ⟨_, rfl⟩
      have ho := opAt_drop casesL wd i hlt
      rw [hnm] at ho hx
      simp only at ho hx
      have HO := Lib.hid ho
      unfold str at hx
      have HB : Hid (nn ≤ 3) := Lib.hid (by
        have : i = 0 ∨ i = 1 ∨ i = 2 := by omega
        rcases this with rfl | rfl | rfl <;> (cases hnm; decide))
      have hne := qe_bs nm wd
      rw [HSW.out] at hne
      clear ho hnm
      by_cases he : nm = wd
      · have hne2 : ((bs nm).toList == sw.toList) = true := by rw [hne]; simpa using he
        clear hne
        obtain ⟨sn, hsn⟩ : ∃ sn, bs nm = sn := ⟨_, rfl⟩
        rw [hsn] at hx hne2
        clear hsn
        go_upto_region 5 with fail
        have hQ : Q = some (i, nn) := by rw [HR.out.2.2, HO.out, if_pos he]
        subst hQ
        have hw1 : Below w.heap.size w (wr.alloc (.cells #[.string sn, .int .i64 (nn : Int)] 57)) := HR.out.2.1.alloc (by have := HR.out.2.1.size; omega) _
        have h1 := HR.out.1.step (below_alloc1 wr (.cells #[.string sn, .int .i64 (nn : Int)] 57))
        have HC := numbers_any ws nn a cap _ HB.out (by rw [HM.out]; exact hl) HS.out (HG.out.below h1.bel) (HAT.out.below hw1)
        rw [HM.out] at HC
        obtain ⟨c1, c2, c3, hv, hc⟩ := numsV_agg ws nn
        rw [hv] at HC
        have hpq : casR r ws (some (i, nn)) = if (numsM ws nn).2 = 0 then ({ r with ks := r.ks ++ [((i : Int), x3 (numsM ws nn).1 0, x3 (numsM ws nn).1 1)] }, 0) else (r, (numsM ws nn).2) := rfl
        obtain ⟨⟨q1, q2⟩, hqq⟩ : ∃ q, numsM ws nn = q := ⟨_, rfl⟩
        rw [hqq] at HC hc hpq
        simp only at HC hc hpq
        have HPQ := Lib.hid hpq
        clear hqq hpq
        have HC := Lib.hid HC
        have H1 := Lib.hid h1
        have HCC := Lib.hid hc
        obtain ⟨u0, v0⟩ := (Blk.mk wr [.string sn, .int .i64 (nn : Int)] 57 wr.heap.size rfl) 0 _ rfl
        obtain ⟨u1, v1⟩ := (Blk.mk wr [.string sn, .int .i64 (nn : Int)] 57 wr.heap.size rfl) 1 _ rfl
        clear hw1 h1 hv hc hx hne2
        go_wp2_with fail
        refine HC.out.mono ?_
        rintro e w2 ⟨rfl, hb⟩
        obtain ⟨D, hD, o⟩ := H1.out
        have o1 := o.step hb
        obtain ⟨g, hgg⟩ : ∃ g, g = w2.heap.size := ⟨_, rfl⟩
        have o2 := o1.alloc [.int .i64 c1, .int .i64 c2, .int .i64 c3] 64 (b := g) hgg
        have HO2 := Lib.hid o2
        have HD := Lib.hid hD
        clear o o1 o2 hb HC H1 hD
        by_cases hq : q2 = 0
        · subst hq
          have HE12 : Hid (c1 = x3 q1 0 ∧ c2 = x3 q1 1) := Lib.hid ⟨(HCC.out rfl).1, (HCC.out rfl).2.1⟩
          go_upto_region 7 with fail
          rw [← hgg]
          generalize w2.alloc (.cells #[.int .i64 c1, .int .i64 c2, .int .i64 c3] 64) = w3 at *
          clear hgg
          obtain ⟨n, hn⟩ : ∃ n, r.ks.length = n := ⟨_, rfl⟩
          have SCB : ∀ (wx : World) (A9 : Asr), Own w0 wx ((CelA g [.int .i64 c1, .int .i64 c2, .int .i64 c3] :: (rdp b r D ++ R)).set 4 A9) →
              wx.cell? ⟨b, 3, none⟩ = some (.slice D.ka n D.kc) ∧ wx.cell? ⟨g, 0, none⟩ = some (.int .i64 c1) ∧ wx.cell? ⟨g, 1, none⟩ = some (.int .i64 c2) := by
            intro wx A9 o
            rw [← hn]
            exact ⟨(o.cel 1 rfl 3 _ rfl).1, (o.cel 0 rfl 0 _ rfl).1, (o.cel 0 rfl 1 _ rfl).1⟩
          have hl2 := HLK.out
          rw [hn] at hl2
          have HN := Lib.hid hn
          clear hn
          have o2 := HO2.out.step (below_drew1 w3)
          refine wp_region_lexY (fun wx => wx.cell? ⟨b, 3, none⟩ = some (.slice D.ka n D.kc) ∧ wx.cell? ⟨g, 0, none⟩ = some (.int .i64 c1) ∧ wx.cell? ⟨g, 1, none⟩ = some (.int .i64 c2)) 17 18 (Array.replicate 18 false) (by kernel_rfl) (by kernel_rfl) ?_
          refine wpAnyY_seg 0 12 _ #[true, true, true, true, true, true, true, true, true, true, true, true, false, false, false, false, false, false] 6 (by kernel_rfl) noPanic_put (SCB _ _ o2) (by kernel_rfl) ?_
          simp only [List.take_succ_cons, List.take_zero, List.drop_zero]
          repeat (first
            | (refine wpSegH_no (by rfl) ?_; simp only [Act.put, List.setIfInBounds_toArray, List.set_cons_zero, List.set_cons_succ])
            | (refine wpSegH_yes (by rfl) ?_; apply Exists.intro; apply And.intro; (· (intro wx hS; (try dsimp only at hS); go_simp; first | done | with_reducible rfl)); simp only [Act.put, List.setIfInBounds_toArray, List.set_cons_zero, List.set_cons_succ]))
          refine wpSegH_nil ?_
          refine wpAnyY_one 12 _ #[true, true, true, true, true, true, true, true, true, true, true, true, true, false, false, false, false, false] 5 (by kernel_rfl) (fun K hK => ?_)
          have HKK := Lib.hid hK
          clear hK
          simp only [List.drop_succ_cons, List.drop_zero]
          refine headH_mk (by rfl) ?_
          go_simp
          have o3 := o2.step (below_alloc1 _ (.cells #[.int .i64 (i : Int), .int .i64 c1, .int .i64 c2] 55))
          refine HKK.out _ _ (SCB _ _ o3) ?_
          clear HKK K
          refine wpAnyY_one 13 _ #[true, true, true, true, true, true, true, true, true, true, true, true, true, true, false, false, false, false] 4 (by kernel_rfl) (fun K hK => ?_)
          have HKK := Lib.hid hK
          clear hK
          simp only [List.drop_succ_cons, List.drop_zero]
          refine headH_mk (by rfl) ?_
          have hrow := o3.rowG 4 rfl
          rw [HN.out] at hrow
          refine wp_append_rowG (n := n) (m := 1) (cs := cac r.ks) (ds := cac [((i : Int), c1, c2)]) _ _ 31 (by rfl) 55 i0 _ Tryd.underlying31 Hi.out Hz0.out Hz1.out Hz2.out rfl (by omega) (by omega) (by rfl) (by rfl) hrow (CellsAt.new _ (cac [((i : Int), c1, c2)]) _ rfl) (by rfl) (cac_one _) (by omega) ?_
          intro a9 c9 w9 k9 ch9 f9
          have o4 := (Own.rowTurn (o3.pick 4 rfl) k9 ch9 f9).back (i := 4) (As := CelA g [.int .i64 c1, .int .i64 c2, .int .i64 c3] :: (rdp b r D ++ R)) (by simp [rdp])
          refine HKK.out _ _ (SCB _ _ o4) ?_
          clear HKK K
          refine wpAnyY_segT 14 2 _ #[true, true, true, true, true, true, true, true, true, true, true, true, true, true, true, true, false, false] 2 (by kernel_rfl) noPanic_put (by kernel_rfl) ?_
          simp only [List.take_succ_cons, List.take_zero, List.drop_succ_cons, List.drop_zero]
          repeat (first
            | (refine wpSegH_no (by rfl) ?_; simp only [Act.put, List.setIfInBounds_toArray, List.set_cons_zero, List.set_cons_succ])
            | (refine wpSegH_yes (by rfl) ?_; apply Exists.intro; apply And.intro; (· (intro wx hS; (try dsimp only at hS); go_simp; first | done | with_reducible rfl)); simp only [Act.put, List.setIfInBounds_toArray, List.set_cons_zero, List.set_cons_succ]))
          refine wpSegH_nil ?_
          refine wpAnyY_seg 16 1 _ #[true, true, true, true, true, true, true, true, true, true, true, true, true, true, true, true, true, false] 1 (by kernel_rfl) noPanic_put (SCB _ _ o4) (by kernel_rfl) ?_
          simp only [List.take_succ_cons, List.take_zero, List.drop_succ_cons, List.drop_zero]
          repeat (first
            | (refine wpSegH_no (by rfl) ?_; simp only [Act.put, List.setIfInBounds_toArray, List.set_cons_zero, List.set_cons_succ])
            | (refine wpSegH_yes (by rfl) ?_; apply Exists.intro; apply And.intro; (· (intro wx hS; (try dsimp only at hS); go_simp; first | done | with_reducible rfl)); simp only [Act.put, List.setIfInBounds_toArray, List.set_cons_zero, List.set_cons_succ]))
          refine wpSegH_nil ?_
          obtain ⟨z8, f8⟩ := o4.cel 1 rfl 3 _ rfl
          have o5 := (o4.setAt 1 rfl 3 (.slice a9 (n + 1) c9)).drop
          have el : (r.ks ++ [((i : Int), c1, c2)]).length = n + 1 := by rw [List.length_append, HN.out]; rfl
          have HE : Hid (RdAt w0 (w9.setCell ⟨b, 3, none⟩ (.slice a9 (n + 1) c9)) b { r with ks := r.ks ++ [((i : Int), c1, c2)] } R) := Lib.hid ⟨{ D with ka := a9, kc := c9 }, HD.out, by
            unfold rdp rcl
            simp only [el, cac_app]
            exact o5⟩
          clear o2 o3 o4 o5 k9 ch9 f9 hrow SCB
          refine wpAnyY_late 17 _ #[true, true, true, true, true, true, true, true, true, true, true, true, true, true, true, true, true, true] 0 (by kernel_rfl) (fun K hK => ?_)
          have HKK := Lib.hid hK
          clear hK
          simp only [List.drop_succ_cons, List.drop_zero]
          refine headH_mk (by rfl) ?_
          go_simp
          refine HKK.out _ _ ?_
          clear HKK K
          refine wpAnyY_done (by kernel_rfl) (NoPanic.normal ?_) _
          go_wp2
          go_ret
          refine ⟨by rw [HPQ.out, if_pos trivial]; rfl, ?_⟩
          rw [HPQ.out, if_pos trivial, ← HE12.out.1, ← HE12.out.2]
          exact HE.out
        · have hqb : (q2 == 0) = false := by simpa using hq
          have HE : Hid (RdAt w0 (w2.alloc (.cells #[.int .i64 c1, .int .i64 c2, .int .i64 c3] 64)) b r R) := Lib.hid ⟨D, HD.out, HO2.out.drop⟩
          rw [hgg] at HO2
          go_wp2_with fail
          go_ret
          exact ⟨by rw [HPQ.out, if_neg hq]; rfl, by rw [HPQ.out, if_neg hq]; exact HE.out⟩
      · have hne2 : ((bs nm).toList == sw.toList) = false := by rw [hne]; simpa using he
        clear hne
        obtain ⟨sn, hsn⟩ : ∃ sn, bs nm = sn := ⟨_, rfl⟩
        rw [hsn] at hx hne2
        clear hsn
        have HN : Hid (Q = opAt (i + 1) (casesL.drop (i + 1)) wd) := Lib.hid (by rw [HR.out.2.2, HO.out, if_neg he])
        have HX : Hid (RdAt w0 (wr.alloc (.cells #[.string sn, .int .i64 (nn : Int)] 57)) b r R ∧ Below w.heap.size w (wr.alloc (.cells #[.string sn, .int .i64 (nn : Int)] 57)) ∧ Q = opAt (i + 1) (casesL.drop (i + 1)) wd) :=
          Lib.hid ⟨HR.out.1.step (below_alloc1 _ _), HR.out.2.1.alloc (by have := HR.out.2.1.size; omega) _, HN.out⟩
        go_wp2_with fail
        exact ⟨⟨i + 1, by omega, by go_num, HX⟩, by simp [intOf]; omega⟩
    · obtain rfl : i = 3 := by omega
      have HQ : Hid (Q = none) := Lib.hid (by rw [HR.out.2.2]; exact opAt_end casesL wd)
      go_wp2_with fail
      go_ret
      exact ⟨by rw [HQ.out]; rfl, by rw [HQ.out]; exact HR.out.1⟩
end Go.Proofs.YtdeilfnfpgjnnaaDoor
