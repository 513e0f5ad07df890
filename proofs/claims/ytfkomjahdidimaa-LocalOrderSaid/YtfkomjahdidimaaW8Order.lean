/-
  The walk of the law LocalOrder.
-/
import Derived.Test.YtfkomjahdidimaaWLoc3
import Derived.Test.YtfkomjahdidimaaWRing3
import Derived.OpenShut
open Go Go.RowKit
set_option linter.unusedVariables false
namespace Go.Proofs.Ytfkomjahdidimaa.localOrder
/-- Who stands in the ring when j were Ready. -/
def wl (n j : Nat) : List Int := upto n ++ (List.range (j - 1)).map fun (i : Nat) => (1000 + i : Int)
theorem wl_len (n j : Nat) : (wl n j).length = n + (j - 1) := by simp [wl, upto_len]
theorem wl_succ (n j : Nat) (h : 0 < j) : wl n (j + 1) = wl n j ++ [999 + (j : Int)] := by
  obtain ⟨k, rfl⟩ : ∃ k, j = k + 1 := ⟨j - 1, by omega⟩
  simp only [wl, Nat.add_sub_cancel, List.range_succ, List.map_append, List.map_cons, List.map_nil, List.append_assoc]
  congr 3
  simp; omega
def qj (n j : Nat) : LQ := ⟨if j = 0 then none else some (999 + (j : Int)), wl n j⟩
theorem ready_step (n j : Nat) (h : n + j ≤ 99) : mReady 100 (qj n j) (1000 + (j : Int)) [] = (qj n (j + 1), [], 0) := by
  have hl := wl_len n j
  cases j with
  | zero => simp [mReady, mTurn, qj, wl]
  | succ k =>
    have e : mTurn 100 (qj n (k + 1)) [] = (⟨none, wl n (k + 1) ++ [999 + ((k + 1 : Nat) : Int)]⟩, [], 0) := by
      simp only [mTurn, qj, Nat.add_one_ne_zero, if_false, mPut]
      rw [if_pos (by rw [hl]; omega)]
    rw [mReady, e]
    simp only [qj, Nat.add_one_ne_zero, if_false]
    rw [wl_succ n (k + 1) (by omega)]
    congr 3
    simp; omega
theorem put_step (i : Nat) (h : i ≤ 99) : mPut 100 ⟨none, upto i⟩ (i : Int) [] = (⟨none, upto (i + 1)⟩, [], 0) := by
  unfold mPut; rw [if_pos (by simp only [upto_len]; omega), upto_succ]
/-- All that wait. -/
def all (q : LQ) : List Int := q.nx.toList ++ q.l
theorem get_cons (q : LQ) (x : Int) (t : List Int) (h : all q = x :: t) : (mGet q).2 = some x ∧ all (mGet q).1 = t := by
  obtain ⟨nx, l⟩ := q
  cases nx with
  | some v => simp [all] at h; simp [mGet, all, h]
  | none =>
    simp [all] at h
    subst h
    simp [mGet, all]
theorem get_nil (q : LQ) (h : all q = []) : (mGet q).2 = none ∧ (mGet q).1 = q ∧ q.l = [] ∧ q.nx = none := by
  obtain ⟨nx, l⟩ := q
  cases nx with
  | some v => simp [all] at h
  | none => simp [all] at h; subst h; simp [mGet]
set_option maxRecDepth 100000 in
set_option maxHeartbeats 4000000 in
theorem walk (a0 a1 : Int) (w : World) (v0 : (Lit.int .i64 a0).wf = true) (v1 : (Lit.int .i64 a1).wf = true) :
    Calls Try.prog 8 #[.int .i64 a0, .int .i64 a1] w fun e w' => e = .returned (.bool true) ∧ Below w.heap.size w w' := by
  obtain ⟨n, hn, hn1, -⟩ := small_of a0 60 (by omega)
  obtain ⟨r, hr, hr1, -⟩ := small_of a1 20 (by omega)
  have hn' : (bits BinOp.and IntKind.i64 a0 255).tmod 60 = (n : Int) := hn
  have hr' : (bits BinOp.and IntKind.i64 a1 255).tmod 20 = (r : Int) := hr
  clear v0 v1 hn hr
  obtain ⟨i0, hi0, hz0, hz1, hz2⟩ := info_parts info_int
  have Hi := Lib.hid hi0; clear hi0
  have Hz0 := Lib.hid hz0; clear hz0
  have Hz1 := Lib.hid hz1; clear hz1
  have Hz2 := Lib.hid hz2; clear hz2
  go_enter Try.func8, Try.ntmps8
  go_wp2_with fail
  refine (awake8_any _).mono ?_
  rintro e w1 ⟨rfl, hb1⟩
  have B1 := Lib.hid hb1; clear hb1
  go_wp2_with fail
  refine (lnew_any 100 w1).mono ?_
  rintro e w2 ⟨p, g, rfl, h1, h2, h3, h4⟩
  rw [show roomOf 100 = 100 from rfl] at h1
  obtain ⟨b, hb⟩ : ∃ b, b = w2.heap.size := ⟨_, rfl⟩
  have hq := QS.new (w0 := w1) p g 100 62 h4 h1 h2 h3 hb
  have hq2 : QS w1 ((w2.alloc (.cells #[.slice none 0 0] 62)).alloc (.cells #[] 3)) p g 100 b ⟨none, upto 0⟩ [] (some ⟨b + 1, 0, none⟩) 0 (upto 0) :=
    hq.app (RowAt.empty _ _ (by simp [hb])) (Chg.of_below (below_alloc1 _ _)) (fun x hx => by simp [blk] at hx; right; simp; omega)
  have H2 := Lib.hid hq2
  clear h1 h2 h3 h4 hq hq2
  rw [hb] at H2
  go_wp2_with fail
  rw [← hb] at H2 ⊢
  clear hb
  go_loopw [7, 27] (fun sv iv wr => ∃ i : Nat, ∃ a c, i ≤ n ∧ iv = .int .i64 i ∧ sv = .slice a i c ∧ Hid (QS w1 wr p g 100 b ⟨none, upto i⟩ [] a c (upto i))) (fun _ iv _ => n - (intOf iv).toNat)
  case atStart => exact ⟨0, _, _, by omega, rfl, rfl, H2⟩
  case round =>
    obtain ⟨i, a, c, hi, rfl, rfl, hr⟩ := hrel
    by_cases hlt : i < n
    · go_wp2_with fail
      refine (qs_put hr.out (i : Int) (by decide)).mono ?_
      rw [put_step i (by omega)]
      rintro e w4 ⟨rfl, h4⟩
      have H4 := Lib.hid h4
      have K4 := Lib.hid h4.row
      clear h4
      go_wp2_with (at_builtin; refine wpList_append_row (l := upto i) (m := [(i : Int)]) rfl _ _ 26 rfl 3 i0 _ Try.underlying26 Hi.out Hz0.out Hz1.out Hz2.out rfl rfl rfl (by rw [upto_len]) rfl (K4.out.below (below_alloc1 _ _)) (RowAt.one _ _ _ rfl).ints (by rw [upto_len, List.length_singleton]; omega) ?_)
      intro a2 c2 w5 k5 c5 f5
      rw [← upto_succ] at k5
      have H5 := Lib.hid ((H4.out.step (below_alloc1 _ _)).app k5 c5 (fun x hx => by simpa using f5 x hx))
      clear k5 c5 f5
      go_wp2
      exact ⟨⟨i + 1, a2, c2, by omega, by go_num, rfl, H5⟩, by simp [intOf]; omega⟩
    · obtain rfl : i = n := by omega
      have h0 : QS w1 wr p g 100 b (qj i 0) [] a c (wl i 0) := by
        have e : wl i 0 = upto i := by simp [wl]
        simp only [qj, e, if_true]; exact hr.out
      have e0 : i = (wl i 0).length := by rw [wl_len]; rfl
      have H0 := Lib.hid h0
      have E0 := Lib.hid e0
      clear h0 e0
      go_wp2_with fail
      go_loopw [7, 39] (fun sv jv wq => ∃ j : Nat, ∃ a c, j ≤ r ∧ jv = .int .i64 j ∧ sv = .slice a (i + (j - 1)) c ∧ Hid (QS w1 wq p g 100 b (qj i j) [] a c (wl i j))) (fun _ jv _ => r - (intOf jv).toNat)
      case atStart => exact ⟨0, _, _, by omega, rfl, rfl, H0⟩
      case round =>
        obtain ⟨j, a, c, hj, rfl, rfl, hq⟩ := hrel
        by_cases hlt2 : j < r
        · go_wp2_with fail
          refine (qs_ready hq.out (1000 + (j : Int)) (by decide)).mono ?_
          rw [ready_step i j (by omega)]
          rintro e w4 ⟨rfl, h4⟩
          have H4 := Lib.hid h4
          have K4 := Lib.hid h4.row
          clear h4
          by_cases hj0 : j = 0
          · subst hj0
            have H5 : Hid (QS w1 w4 p g 100 b (qj i 1) [] a c (wl i 1)) := Lib.hid (by have := H4.out; simpa [wl] using this)
            go_wp2
            exact ⟨⟨1, _, _, by omega, by go_num, rfl, H5⟩, by simp [intOf]; omega⟩
          · have hjp : (0 : Int) < (j : Int) := by omega
            go_wp2_with (at_builtin; refine wpList_append_row (l := wl i j) (m := [999 + (j : Int)]) rfl _ _ 26 rfl 3 i0 _ Try.underlying26 Hi.out Hz0.out Hz1.out Hz2.out rfl rfl rfl (by rw [wl_len]) rfl (K4.out.below (below_alloc1 _ _)) (RowAt.one _ _ _ rfl).ints (by rw [wl_len, List.length_singleton]; omega) ?_)
            intro a2 c2 w5 k5 c5 f5
            rw [← wl_succ i j (by omega)] at k5
            have H5 := Lib.hid ((H4.out.step (below_alloc1 _ _)).app k5 c5 (fun x hx => by simpa using f5 x hx))
            clear k5 c5 f5
            have hnum : i + (j - 1) + 1 = i + (j + 1 - 1) := by omega
            go_wp2
            exact ⟨⟨j + 1, a2, c2, by omega, by go_num, by rw [hnum], H5⟩, by simp [intOf]; omega⟩
        · obtain rfl : j = r := by omega
          obtain ⟨W, hW⟩ : ∃ W, W = all (qj i j) := ⟨_, rfl⟩
          have hWl : W.length ≤ 100 := by rw [hW]; simp only [all, qj, List.length_append, wl_len]; split <;> simp <;> omega
          have HW := Lib.hid hW; clear hW
          go_upto_if 55 with fail
          go_cut [7] (fun sv wx => ∃ a c, sv = .slice a W.length c ∧ Hid (QS w1 wx p g 100 b (qj i j) [] a c W))
          case first =>
            by_cases hj0 : j = 0
            · subst hj0
              have e : W = wl i 0 := by rw [HW.out]; simp [all, qj]
              have e2 : W.length = i + (0 - 1) := by rw [e, wl_len]
              have hq' : QS w1 wr p g 100 b (qj i 0) [] a c W := by rw [e]; exact hq.out
              have HQ' := Lib.hid hq'
              clear e hq'
              have HE2 := Lib.hid e2; clear e2
              go_wp2_with fail
              go_meet
              exact ⟨a, c, by rw [HE2.out], HQ'⟩
            · have hjp : (0 : Int) < (j : Int) := by omega
              have e : W = [999 + (j : Int)] ++ wl i j := by rw [HW.out]; simp [all, qj, hj0]
              have e2 : W.length = 1 + (i + (j - 1)) := by rw [e, List.length_append, wl_len]; rfl
              have K4 := Lib.hid hq.out.row
              have HE := Lib.hid e; clear e
              have HE2 := Lib.hid e2; clear e2
              go_wp2_with (at_builtin; refine wpList_append_row (l := [999 + (j : Int)]) (m := wl i j) rfl _ _ 26 rfl 3 i0 _ Try.underlying26 Hi.out Hz0.out Hz1.out Hz2.out rfl rfl rfl rfl (by rw [wl_len]) (RowAt.one _ _ _ rfl) (K4.out.below (below_alloc1 _ _)).ints (by rw [wl_len, List.length_singleton]; omega) ?_)
              intro a2 c2 w5 k5 c5 f5
              have k5' : RowAt w5 a2 c2 W := by rw [HE.out]; exact k5
              have c5' : Chg (blk none) wr w5 := (Chg.of_below (below_alloc1 _ _)).trans c5 (fun x hx => by simp [blk] at hx; right; omega)
              have h6 := hq.out.drop.app k5' c5' (fun x hx => by
                rcases f5 x hx with h | h
                · simp [blk] at h; right; omega
                · right; omega)
              have H6 := Lib.hid h6
              clear k5 k5' c5 c5' f5 h6
              go_wp2_with fail
              go_meet
              exact ⟨a2, c2, by rw [HE2.out], H6⟩
          case rest =>
            obtain ⟨a, c, rfl, hx⟩ := hcut
            have hst : QS w1 wc p g 100 b (qj i j) [] a c W ∧ all (qj i j) = W.drop 0 := ⟨hx.out, by rw [List.drop_zero, HW.out]⟩
            have HST := Lib.hid hst; clear hst hx hq HW
            go_wp2_with fail
            go_loopw [63] (fun kv wq => ∃ k : Nat, ∃ q, k ≤ W.length ∧ kv = .int .i64 k ∧ Hid (QS w1 wq p g 100 b q [] a c W ∧ all q = W.drop k)) (fun kv _ => W.length - (intOf kv).toNat)
            case atStart => exact ⟨0, _, by omega, rfl, HST⟩
            case round =>
              obtain ⟨k, q, hk, rfl, hs⟩ := hrel
              by_cases hlt3 : k < W.length
              · obtain ⟨e1, e2⟩ := get_cons q (W[k]) (W.drop (k + 1)) (by rw [hs.out.2]; exact List.drop_eq_getElem_cons hlt3)
                have E2 := Lib.hid e2; clear e2
                obtain ⟨b9, o9, rfl, g9⟩ := hs.out.1.row.ints k hlt3
                generalize W[k] = x at e1 g9
                have hki : (k : Int) < (W.length : Int) := by omega
                have hc := qs_get hs.out.1
                rw [e1] at hc
                have HC := Lib.hid hc
                clear hc e1
                go_wp2_with fail
                refine HC.out.mono ?_
                rintro e w5 ⟨rfl, h5⟩
                have H5 := Lib.hid (And.intro h5 E2.out)
                clear h5 HC E2
                unfold gotv
                simp only [Option.getD_some, Option.isSome_some]
                go_wp2
                exact ⟨⟨k + 1, _, by omega, by go_num, H5⟩, by simp [intOf]; omega⟩
              · obtain ⟨e1, e2, e3, e4⟩ := get_nil q (by rw [hs.out.2]; exact List.drop_of_length_le (by omega))
                have hc := qs_get hs.out.1
                rw [e1, e2] at hc
                have HC := Lib.hid hc
                have E3 := Lib.hid e3
                have E4 := Lib.hid e4
                clear hc e1 e2 e3 e4
                go_wp2_with fail
                refine HC.out.mono ?_
                rintro e w5 ⟨rfl, h5⟩
                have H5 := Lib.hid h5
                clear h5 HC
                unfold gotv
                simp only [Option.getD_none, Option.isSome_none]
                go_wp2_with fail
                refine (qs_glen H5.out).mono ?_
                rintro e w6 ⟨rfl, rfl⟩
                rw [show (([] : List Int).length : Int) = 0 from rfl]
                go_wp2_with fail
                refine (qs_llen H5.out).mono ?_
                rintro e w7 ⟨rfl, rfl⟩
                rw [E3.out, E4.out]
                simp only [List.length_nil, Option.isSome_none]
                have hb9 := below_on B1.out H5.out.bel
                go_wp2
                go_ret
                exact ⟨rfl, hb9⟩
end Go.Proofs.Ytfkomjahdidimaa.localOrder
