/-
  The walk of numbers.
-/
import Derived.Test.YtdeilfnfpgjnnaaDoorAsW2
open Go Go.RowKit
set_option linter.unusedVariables false
set_option linter.unusedSimpArgs false
namespace Go.Proofs.YtdeilfnfpgjnnaaDoor
def strs (ws : List By) : List Value := ws.map str
/-- What numbers answers. -/
def numsV (ws : List By) (n : Nat) : Value := if (numsM ws n).2 = 0 then .agg #[.int .i64 (x3 (numsM ws n).1 0), .int .i64 (x3 (numsM ws n).1 1), .int .i64 (x3 (numsM ws n).1 2)] else .agg #[.int .i64 0, .int .i64 0, .int .i64 0]
theorem numsM_drop {ws : List By} {n i : Nat} {v : List Int} (h : numsM ws n = (v ++ (numsM (ws.drop i) (n - i)).1, (numsM (ws.drop i) (n - i)).2)) (hi : i < n) (hw : i < ws.length) (h0 : (numM ws[i]).2 = 0) :
    numsM ws n = ((v ++ [(numM ws[i]).1]) ++ (numsM (ws.drop (i + 1)) (n - (i + 1))).1, (numsM (ws.drop (i + 1)) (n - (i + 1))).2) := by
  rw [h, List.drop_eq_getElem_cons hw]
  obtain ⟨k, hk⟩ : ∃ k, n - i = k + 1 := ⟨n - i - 1, by omega⟩
  have hk2 : n - (i + 1) = k := by omega
  rw [hk, hk2, numsM, if_pos h0]
  simp
theorem numsM_bad {ws : List By} {n i : Nat} {v : List Int} (h : numsM ws n = (v ++ (numsM (ws.drop i) (n - i)).1, (numsM (ws.drop i) (n - i)).2)) (hi : i < n) (hw : i < ws.length) (h0 : (numM ws[i]).2 ≠ 0) : (numsM ws n).2 = (numM ws[i]).2 := by
  rw [h, List.drop_eq_getElem_cons hw]
  obtain ⟨k, hk⟩ : ∃ k, n - i = k + 1 := ⟨n - i - 1, by omega⟩
  rw [hk, numsM, if_neg h0]
theorem numsM_end {ws : List By} {n i : Nat} {v : List Int} (h : numsM ws n = (v ++ (numsM (ws.drop i) (n - i)).1, (numsM (ws.drop i) (n - i)).2)) (hi : i < n) (hw : ¬ i < ws.length) : (numsM ws n).2 = 2 := by
  rw [h, List.drop_eq_nil_of_le (by omega)]
  obtain ⟨k, hk⟩ : ∃ k, n - i = k + 1 := ⟨n - i - 1, by omega⟩
  rw [hk, numsM]
theorem numsM_last {ws : List By} {n : Nat} {v : List Int} (h : numsM ws n = (v ++ (numsM (ws.drop n) (n - n)).1, (numsM (ws.drop n) (n - n)).2)) (hl : v.length = n) : numsM ws n = (v, if ws.length ≤ n then 0 else 1) := by
  rw [h, Nat.sub_self, numsM]
  simp only [List.append_nil, List.length_drop]
  congr 1
  by_cases hw : ws.length ≤ n
  · rw [if_pos (by omega), if_pos hw]
  · rw [if_neg (by omega), if_neg hw]
theorem arr_get {w : World} {b : Nat} {x y z : Int} (h : Blk w b [.int .i64 x, .int .i64 y, .int .i64 z]) : (loadVar 64 ⟨b, 0, none⟩).run Tryd.prog w = .ok (.agg #[.int .i64 x, .int .i64 y, .int .i64 z]) w := by
  have e0 := (h 0 _ rfl).1
  have e1 := (h 1 _ rfl).1
  have e2 := (h 2 _ rfl).1
  simp [go_sem, e0, e1, e2]
set_option maxRecDepth 100000 in
set_option maxHeartbeats 2000000 in
theorem numbers_any (ws : List By) (n : Nat) (a : Option Addr) (cap : Nat) (w : World) (hn : n ≤ 3) (hl : ws.length ≤ 100000) (hs : ∀ x ∈ ws, x.length ≤ 100000) (hg : GlA w) (hat : CellsAt w a (strs ws)) :
    Calls Tryd.prog 43 #[.slice a ws.length cap, .int .i64 (n : Int)] w fun e w' => e = .returned (.tuple #[numsV ws n, .int .i64 (numsM ws n).2]) ∧ Below w.heap.size w w' := by
  obtain ⟨m, hm⟩ : ∃ m, ws.length = m := ⟨_, rfl⟩
  have HN := Lib.hid (show numsM ws n = ([] ++ (numsM (ws.drop 0) (n - 0)).1, (numsM (ws.drop 0) (n - 0)).2) by simp)
  obtain ⟨s0, hs0⟩ : ∃ s0, s0 = w.heap.size := ⟨_, rfl⟩
  obtain ⟨W, hW⟩ : ∃ W, W = (w.alloc (.cells #[.int .i64 0, .int .i64 0, .int .i64 0] 64)).alloc (.cells #[.int .i64 0, .int .i64 0, .int .i64 0] 64) := ⟨_, rfl⟩
  have hB : Below s0 w W := by rw [hW, hs0]; exact (below_alloc1 _ _).alloc (by simp) _
  have HB : Hid (Blk W (s0 + 1) [.int .i64 (x3 [] 0), .int .i64 (x3 [] 1), .int .i64 (x3 [] 2)] ∧ Blk W s0 [.int .i64 0, .int .i64 0, .int .i64 0] ∧ Below s0 w W ∧ ([] : List Int).length = 0) := Lib.hid ⟨by rw [hW]; exact Blk.mk _ _ _ _ (by simp [hs0]), by rw [hW]; exact (Blk.mk _ _ _ _ hs0).below (below_alloc1 _ _), hB, rfl⟩
  have HA := Lib.hid hat
  have HG := Lib.hid hg
  have HS := Lib.hid hs
  have HM := Lib.hid hm
  have H0 := Lib.hid hs0
  have HW := Lib.hid hW
  rw [hm] at hl ⊢
  clear hat hg hs hm hs0 hB hW
  go_enter Tryd.func43, Tryd.ntmps43
  go_upto_region 2 with fail
  rw [← HW.out, ← H0.out]
  go_wp2_with fail
  go_loopw [11] (fun s wr => ∃ i : Nat, ∃ v : List Int, i ≤ n ∧ i ≤ m ∧ s = .int .i64 (i : Int) ∧ Hid (numsM ws n = (v ++ (numsM (ws.drop i) (n - i)).1, (numsM (ws.drop i) (n - i)).2)) ∧
      Hid (Blk wr (s0 + 1) [.int .i64 (x3 v 0), .int .i64 (x3 v 1), .int .i64 (x3 v 2)] ∧ Blk wr s0 [.int .i64 0, .int .i64 0, .int .i64 0] ∧ Below s0 w wr ∧ v.length = i)) (fun s _ => n - (intOf s).toNat)
  case atStart => exact ⟨0, [], by omega, by omega, rfl, HN, HB⟩
  case round =>
    clear HN HB
    obtain ⟨i, v, hi, him, rfl, HN, HR⟩ := hrel
    obtain ⟨k1, k2, hb, hv⟩ := HR.out
    by_cases hlt : i < n
    · by_cases hw : i < m
      · have hwi : i < ws.length := by rw [HM.out]; exact hw
        have hx := (HA.out.below (H0.out ▸ hb)) i _ (by unfold strs; rw [List.getElem?_map, List.getElem?_eq_getElem hwi]; rfl)
        obtain ⟨b, off, hab, hc⟩ := hx
        have HC : Hid (∀ W, GlA W → Calls Tryd.prog 52 #[.string (bs ws[i])] W fun e w' => e = .returned (.tuple #[.int .i64 (if (numM ws[i]).2 = 0 then (numM ws[i]).1 else 0), .int .i64 (numM ws[i]).2]) ∧ Below W.heap.size W w') :=
          Lib.hid fun W hW => number_any ws[i] W (HS.out _ (List.getElem_mem hwi)) hW
        have hg2 := HG.out.below (H0.out ▸ hb)
        have HG2 := Lib.hid hg2
        have HNX : Hid ((numM ws[i]).2 = 0 → numsM ws n = ((v ++ [(numM ws[i]).1]) ++ (numsM (ws.drop (i + 1)) (n - (i + 1))).1, (numsM (ws.drop (i + 1)) (n - (i + 1))).2)) := Lib.hid fun h => numsM_drop HN.out hlt hwi h
        have HNB : Hid ((numM ws[i]).2 ≠ 0 → (numsM ws n).2 = (numM ws[i]).2) := Lib.hid fun h => numsM_bad HN.out hlt hwi h
        unfold str at hc
        subst hab
        generalize bs ws[i] = wd at *
        generalize numM ws[i] = q at *
        obtain ⟨q1, q2⟩ := q
        clear hwi k1 k2 hb hg2
        have hne : ((i : Int) == (m : Int)) = false := by simp; omega
        go_wp2_with fail
        refine (HC.out _ HG2.out).mono ?_
        rintro e w2 ⟨rfl, hb2⟩
        obtain ⟨k1, k2, hb, hv⟩ := HR.out
        have j1 := k1.below hb2
        have j2 := k2.below hb2
        have jb : Below s0 w w2 := hb.trans (hb2.mono (by have := k2.lt (by simp); omega))
        clear k1 k2 hb hb2 hv
        by_cases hq : q2 = 0
        · subst hq
          replace HNX := Lib.hid (HNX.out rfl)
          rw [if_pos rfl]
          obtain ⟨z, hz⟩ : ∃ z, [Value.int .i64 (x3 v 0), .int .i64 (x3 v 1), .int .i64 (x3 v 2)][i]? = some z := ⟨_, List.getElem?_eq_getElem (by simp; omega)⟩
          have c1 := (j1 i z hz).1
          have c2 := (j1 i z hz).2
          have hi3 : (i : Int) < 3 := by omega
          have HX : Hid (Blk (w2.setCell ⟨s0 + 1, i, none⟩ (.int .i64 q1)) (s0 + 1) [.int .i64 (x3 (v ++ [q1]) 0), .int .i64 (x3 (v ++ [q1]) 1), .int .i64 (x3 (v ++ [q1]) 2)] ∧ Blk (w2.setCell ⟨s0 + 1, i, none⟩ (.int .i64 q1)) s0 [.int .i64 0, .int .i64 0, .int .i64 0] ∧ Below s0 w (w2.setCell ⟨s0 + 1, i, none⟩ (.int .i64 q1)) ∧ (v ++ [q1]).length = i + 1) := Lib.hid (by
            have hv := HR.out.2.2.2
            refine ⟨?_, j2.setFar (by omega), jb.setCell (by simp) _, by rw [List.length_append, hv]; rfl⟩
            have := j1.set i (.int .i64 q1)
            have e : [Value.int .i64 (x3 v 0), .int .i64 (x3 v 1), .int .i64 (x3 v 2)].set i (.int .i64 q1) = [.int .i64 (x3 (v ++ [q1]) 0), .int .i64 (x3 (v ++ [q1]) 1), .int .i64 (x3 (v ++ [q1]) 2)] := by
              have : i = 0 ∨ i = 1 ∨ i = 2 := by omega
              rcases this with rfl | rfl | rfl
              · match v, hv with
                | [], _ => rfl
              · match v, hv with
                | [x], _ => rfl
              · match v, hv with
                | [x, y], _ => rfl
            rw [e] at this
            exact this)
          clear j1 j2 jb hz
          go_wp2_with fail
          exact ⟨⟨i + 1, v ++ [q1], by omega, by omega, by go_num, HNX, HX⟩, by simp [intOf]; omega⟩
        · have HQ := Lib.hid (HNB.out hq)
          have hqb : (q2 == 0) = false := by simpa using hq
          have c0 := (j2 0 _ rfl).1
          have d0 := (j2 0 _ rfl).2
          have c1 := (j2 1 _ rfl).1
          have d1 := (j2 1 _ rfl).2
          have c2 := (j2 2 _ rfl).1
          have d2 := (j2 2 _ rfl).2
          rw [if_neg hq]
          have HJ := Lib.hid jb
          clear j1 jb
          have HJ2 := Lib.hid j2
          clear j2
          go_wp2_with fail
          have e := arr_get (((HJ2.out.set 0 (.int .i64 0)).set 1 (.int .i64 0)).set 2 (.int .i64 0))
          exact bodyPost_ret (v := .tuple #[.agg #[.int .i64 0, .int .i64 0, .int .i64 0], .int .i64 q2]) (results_cell_tmp Tryd.results43 _ ⟨s0, 0, none⟩ rfl e) rfl ⟨by unfold numsV; rw [HQ.out, if_neg hq], H0.out ▸ ((HJ.out.setCell (by simp) _).setCell (by simp) _).setCell (by simp) _⟩
      · have HQ := Lib.hid (numsM_end HN.out hlt (by rw [HM.out]; exact hw))
        have hne : ((i : Int) == (m : Int)) = true := by simp; omega
        have c0 := (k2 0 _ rfl).1
        have d0 := (k2 0 _ rfl).2
        have c1 := (k2 1 _ rfl).1
        have d1 := (k2 1 _ rfl).2
        have c2 := (k2 2 _ rfl).1
        have d2 := (k2 2 _ rfl).2
        have HJ := Lib.hid hb
        have HJ2 := Lib.hid k2
        clear k1 k2 hb hv
        go_wp2_with fail
        have e := arr_get (((HJ2.out.set 0 (.int .i64 0)).set 1 (.int .i64 0)).set 2 (.int .i64 0))
        exact bodyPost_ret (v := .tuple #[.agg #[.int .i64 0, .int .i64 0, .int .i64 0], .int .i64 2]) (results_cell_tmp Tryd.results43 _ ⟨s0, 0, none⟩ rfl e) rfl ⟨by unfold numsV; rw [HQ.out, if_neg (by decide)], H0.out ▸ ((HJ.out.setCell (by simp) _).setCell (by simp) _).setCell (by simp) _⟩
    · obtain rfl : i = n := by omega
      have HQ := Lib.hid (numsM_last HN.out hv)
      have c0 := (k1 0 _ rfl).1
      have c1 := (k1 1 _ rfl).1
      have c2 := (k1 2 _ rfl).1
      have e0 := (k2 0 _ rfl).1
      have e1 := (k2 1 _ rfl).1
      have e2 := (k2 2 _ rfl).1
      have d0 := (k2 0 _ rfl).2
      have d1 := (k2 1 _ rfl).2
      have d2 := (k2 2 _ rfl).2
      have HJ := Lib.hid hb
      have HJ2 := Lib.hid k2
      clear k1 k2 hb hv
      by_cases hmn : m ≤ i
      · go_wp2_with fail
        have e := arr_get (((HJ2.out.set 0 (.int .i64 (x3 v 0))).set 1 (.int .i64 (x3 v 1))).set 2 (.int .i64 (x3 v 2)))
        exact bodyPost_ret (v := .tuple #[.agg #[.int .i64 (x3 v 0), .int .i64 (x3 v 1), .int .i64 (x3 v 2)], .int .i64 0]) (results_cell_tmp Tryd.results43 _ ⟨s0, 0, none⟩ rfl e) rfl ⟨by unfold numsV; rw [HQ.out, HM.out, if_pos hmn]; rfl, H0.out ▸ ((HJ.out.setCell (by simp) _).setCell (by simp) _).setCell (by simp) _⟩
      · go_wp2_with fail
        have e := arr_get (((HJ2.out.set 0 (.int .i64 0)).set 1 (.int .i64 0)).set 2 (.int .i64 0))
        exact bodyPost_ret (v := .tuple #[.agg #[.int .i64 0, .int .i64 0, .int .i64 0], .int .i64 1]) (results_cell_tmp Tryd.results43 _ ⟨s0, 0, none⟩ rfl e) rfl ⟨by unfold numsV; rw [HQ.out, HM.out, if_neg hmn]; rfl, H0.out ▸ ((HJ.out.setCell (by simp) _).setCell (by simp) _).setCell (by simp) _⟩
end Go.Proofs.YtdeilfnfpgjnnaaDoor
