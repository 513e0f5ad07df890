/-
  The walk of the law ChansMeet.
-/
import Derived.Test.YthfleeimhnenpaaWCh4
import Derived.Test.YthfleeimhnenpaaInts
import Derived.OpenShut
import Derived.LoopTactic
open Go Go.RowKit
set_option linter.unusedVariables false
namespace Go.Proofs.Ythfleeimhnenpaa.chansMeet
def SL (z : Nat → Int) (n : Nat) : List Wt := (List.range n).map fun (j : Nat) => (100 + (j : Int), 0, z j)
def RL (n : Nat) : List Wt := (List.range n).map fun (j : Nat) => (100 + (j : Int), (j : Int), 0)
theorem SL_len (z : Nat → Int) (n : Nat) : (SL z n).length = n := by simp [SL]
theorem RL_len (n : Nat) : (RL n).length = n := by simp [RL]
theorem SL_succ (z : Nat → Int) (n : Nat) : SL z (n + 1) = SL z n ++ [(100 + (n : Int), 0, z n)] := by simp [SL, List.range_succ]
theorem RL_succ (n : Nat) : RL (n + 1) = RL n ++ [(100 + (n : Int), (n : Int), 0)] := by simp [RL, List.range_succ]
theorem SL_drop (z : Nat → Int) (n i : Nat) (h : i < n) : (SL z n).drop i = (100 + (i : Int), 0, z i) :: (SL z n).drop (i + 1) := by
  rw [List.drop_eq_getElem_cons (by rw [SL_len]; exact h)]; simp [SL]
theorem RL_drop (n i : Nat) (h : i < n) : (RL n).drop i = (100 + (i : Int), (i : Int), 0) :: (RL n).drop (i + 1) := by
  rw [List.drop_eq_getElem_cons (by rw [RL_len]; exact h)]; simp [RL]
set_option maxRecDepth 100000 in
set_option maxHeartbeats 2000000 in
theorem walk (a0 : Int) (a1 : Bool) (a2 : Option Addr) (len2 cap2 : Nat) (z2 : List Int) (w : World) (v0 : (Lit.int .i64 a0).wf = true) (w2' : IsRow .i64 w a2 len2 cap2 z2) :
    Calls Try.prog 6 #[.int .i64 a0, .bool a1, .slice a2 len2 cap2] w fun e w' => e = .returned (.bool true) ∧ Below w.heap.size w w' := by
  obtain ⟨hlc, hcm, hzl, hcells⟩ := w2'.cells
  generalize List.take len2 z2 = zs at hzl hcells
  unfold maxLen at hcm
  obtain ⟨z, hz⟩ : ∃ z : Nat → Int, z = fun j => zs.getD j 0 := ⟨_, rfl⟩
  have hzc : ∀ j, j < len2 → ∃ b off, a2 = some ⟨b, off, none⟩ ∧ w.cell? ⟨b, off + j, none⟩ = some (.int .i64 (z j)) := fun j hj => by
    obtain ⟨b, off, e1, e2, e3⟩ := hcells j (by omega)
    have e : z j = zs[j]'(by omega) := by rw [hz]; simp only [List.getD_eq_getElem?_getD]; rw [List.getElem?_eq_getElem (by omega)]; rfl
    rw [e]; exact ⟨b, off, e1, e2⟩
  have HZC := Lib.hid hzc
  have hll : len2 ≤ 9223372036854775807 := by omega
  clear hzc hz hzl hcells hlc hcm v0 w2'
  obtain ⟨K, hK, hK1, -⟩ := small_of a0 20 (by omega)
  have hK' : (bits BinOp.and IntKind.i64 a0 255).tmod 20 = (K : Int) := hK
  obtain ⟨n, hn⟩ : ∃ n, n = min K len2 := ⟨_, rfl⟩
  have hif : (if len2 < K then (len2 : Int) else (K : Int)) = (n : Int) := by split <;> omega
  have HIF := Lib.hid hif
  have hn1 : n ≤ len2 := by omega
  have hn2 : n < 20 := by omega
  clear hK hn hif
  go_enter Try.func6, Try.ntmps6
  go_wp2_with fail
  refine (awake13_any _).mono ?_
  rintro e w1 ⟨rfl, hb1⟩
  have B1 := Lib.hid hb1; clear hb1
  go_upto_region 4 with fail
  rw [HIF.out]
  clear hK' HIF
  go_wp2_with fail
  refine (cnew_any (w0 := w1) (Own.nil (Below.refl _ _)) 0).mono ?_
  rintro r w2 ⟨p, rfl, h2, -⟩
  have H2 : Hid (Own w1 w2 [ChanA p 0 ⟨[], [], [], false⟩]) := Lib.hid h2
  clear h2
  cases a1 with
  | true =>
    have h3 : Own w1 w2 [ChanA p 0 ⟨[], SL z 0, [], false⟩] := H2.out
    have H3 := Lib.hid h3
    clear h3 H2
    go_wp2_with fail
    go_loopw [30] (fun s wr => ∃ i : Nat, i ≤ n ∧ s = .int .i64 i ∧ Hid (Own w1 wr [ChanA p 0 ⟨[], SL z i, [], false⟩])) (fun s _ => n - (intOf s).toNat)
    case atStart => exact ⟨0, by omega, rfl, H3⟩
    case round =>
      obtain ⟨i, hi, rfl, hr⟩ := hrel
      by_cases hlt : i < n
      · obtain ⟨b, off, rfl, z1⟩ := HZC.out i (by omega)
        have z1' := cell_below (cell_below z1 B1.out) hr.out.bel
        have hi1 : (i : Int) < (n : Int) := by omega
        have hi2 : (i : Int) < (len2 : Int) := by omega
        have hw := cwaits_any hr.out (100 + (i : Int), 0, z i) (by rw [SL_len]; omega)
        rw [← SL_succ] at hw
        have HW := Lib.hid hw
        clear z1 hw hr
        unfold wv at HW
        generalize z i = zi at *
        go_wp2_with fail
        refine HW.out.mono ?_
        rintro r w4 ⟨rfl, h4⟩
        have H4 := Lib.hid h4
        clear h4
        go_wp2
        exact ⟨⟨i + 1, by omega, by go_num, H4⟩, by simp [intOf]; omega⟩
      · have hge : ¬ (i : Int) < (n : Int) := by omega
        have hst : Own w1 wr [ChanA p 0 ⟨[], (SL z n).drop 0, [], false⟩] := by have := hr.out; rw [show i = n by omega] at this; exact this
        have HST := Lib.hid hst
        clear hst hr hlt hi
        go_wp2_with fail
        go_loopw [51] (fun s wr => ∃ j : Nat, j ≤ n ∧ s = .int .i64 j ∧ Hid (Own w1 wr [ChanA p 0 ⟨[], (SL z n).drop j, [], false⟩])) (fun s _ => n - (intOf s).toNat)
        case atStart => exact ⟨0, by omega, rfl, HST⟩
        case round =>
          obtain ⟨j, hj, rfl, hr⟩ := hrel
          by_cases hlt : j < n
          · obtain ⟨b, off, rfl, z1⟩ := HZC.out j (by omega)
            have z1' := cell_below (cell_below z1 B1.out) hr.out.bel
            have hi1 : (j : Int) < (n : Int) := by omega
            have hi2 : (j : Int) < (len2 : Int) := by omega
            have hd := SL_drop z n j hlt
            have hr2 := hr.out
            rw [hd] at hr2
            have hrc := crecv_send (buf := []) (b := []) (y := z j) hr2 rfl (by simp) (by rw [List.length_drop, SL_len]; omega)
            have HRC := Lib.hid hrc
            have ZB := Lib.hid (cell_below z1 B1.out)
            clear z1 hr hr2 hd hrc
            unfold gotC at HRC
            simp only at HRC
            generalize z j = zi at *
            go_wp2_with fail
            refine HRC.out.mono ?_
            rintro r w4 ⟨rfl, h4⟩
            have z2' := cell_below ZB.out h4.bel
            have H4 := Lib.hid (h4.step (below_alloc1 _ (.cells #[.int .i64 zi, .bool true, .int .i64 (100 + (j : Int)), .int .i64 0, .int .i64 zi, .bool true] 51)))
            have hB := Blk.mk w4 [.int .i64 zi, .bool true, .int .i64 (100 + (j : Int)), .int .i64 0, .int .i64 zi, .bool true] 51 _ rfl
            have z3' := cell_below z2' (below_alloc1 w4 (.cells #[.int .i64 zi, .bool true, .int .i64 (100 + (j : Int)), .int .i64 0, .int .i64 zi, .bool true] 51))
            clear h4 z2'
            go_upto_region 17 with fail
            generalize hs4 : w4.heap.size = s4 at *
            clear hs4
            generalize w4.alloc (.cells #[.int .i64 zi, .bool true, .int .i64 (100 + (j : Int)), .int .i64 0, .int .i64 zi, .bool true] 51) = W5 at *
            obtain ⟨c0, -⟩ := hB 0 _ rfl
            obtain ⟨c2, -⟩ := hB 2 _ rfl
            obtain ⟨c5, -⟩ := hB 5 _ rfl
            clear hB
            go_wp2_with fail
            go_quiet (fail)
            have H5 := Lib.hid (H4.out.step (below_drewN (Below.refl _ _) nq))
            go_wp2
            exact ⟨⟨j + 1, by omega, by go_num, H5⟩, by simp [intOf]; omega⟩
          · have hge2 : ¬ (j : Int) < (n : Int) := by omega
            have hst : Own w1 wr [ChanA p 0 ⟨[], [], [], false⟩] := by have := hr.out; rw [show j = n by omega, List.drop_of_length_le (by rw [SL_len]; exact Nat.le_refl _)] at this; exact this
            have hrc := crecv_none (cl := false) hst
            have HRC := Lib.hid hrc
            clear hst hr hrc hlt hj
            unfold gotC at HRC
            simp only [zw] at HRC
            go_wp2_with fail
            refine HRC.out.mono ?_
            rintro r w4 ⟨rfl, h4⟩
            have hsc := csend_any (h4.step (below_alloc1 _ (.cells #[.int .i64 0, .bool false, .int .i64 0, .int .i64 0, .int .i64 0, .bool false] 51))) 1 (by simp) (by simp)
            have e : mSend 0 ⟨[], [], [], false⟩ 1 = (⟨[], [], [], false⟩, zw, false, 6) := by decide
            rw [e] at hsc
            have HSC := Lib.hid hsc
            clear h4 hsc e
            unfold wv at HSC
            simp only [zw] at HSC
            go_wp2_with fail
            refine HSC.out.mono ?_
            rintro r w5 ⟨rfl, h5⟩
            have hb : Below w.heap.size w (w5.alloc (.cells #[.int .i64 0, .int .i64 0, .int .i64 0] 45)) := below_on (below_on B1.out h5.bel) (below_alloc1 _ _)
            clear h5
            go_wp2
            go_ret
            exact ⟨rfl, hb⟩
  | false =>
    have h3 : Own w1 w2 [ChanA p 0 ⟨[], [], RL 0, false⟩] := H2.out
    have H3 := Lib.hid h3
    clear h3 H2
    go_wp2_with fail
    go_loopw [30] (fun s wr => ∃ i : Nat, i ≤ n ∧ s = .int .i64 i ∧ Hid (Own w1 wr [ChanA p 0 ⟨[], [], RL i, false⟩])) (fun s _ => n - (intOf s).toNat)
    case atStart => exact ⟨0, by omega, rfl, H3⟩
    case round =>
      obtain ⟨i, hi, rfl, hr⟩ := hrel
      by_cases hlt : i < n
      · have hi1 : (i : Int) < (n : Int) := by omega
        have hw := cwaitr_any hr.out (100 + (i : Int), (i : Int), 0) (by rw [RL_len]; omega)
        rw [← RL_succ] at hw
        have HW := Lib.hid hw
        clear hw hr
        unfold wv at HW
        go_wp2_with fail
        refine HW.out.mono ?_
        rintro r w4 ⟨rfl, h4⟩
        have H4 := Lib.hid h4
        clear h4
        go_wp2
        exact ⟨⟨i + 1, by omega, by go_num, H4⟩, by simp [intOf]; omega⟩
      · have hge : ¬ (i : Int) < (n : Int) := by omega
        have hst : Own w1 wr [ChanA p 0 ⟨[], [], (RL n).drop 0, false⟩] := by have := hr.out; rw [show i = n by omega] at this; exact this
        have HST := Lib.hid hst
        clear hst hr hlt hi
        go_wp2_with fail
        go_loopw [51] (fun s wr => ∃ j : Nat, j ≤ n ∧ s = .int .i64 j ∧ Hid (Own w1 wr [ChanA p 0 ⟨[], [], (RL n).drop j, false⟩])) (fun s _ => n - (intOf s).toNat)
        case atStart => exact ⟨0, by omega, rfl, HST⟩
        case round =>
          obtain ⟨j, hj, rfl, hr⟩ := hrel
          by_cases hlt : j < n
          · obtain ⟨b, off, rfl, z1⟩ := HZC.out j (by omega)
            have z1' := cell_below (cell_below z1 B1.out) hr.out.bel
            have hi1 : (j : Int) < (n : Int) := by omega
            have hi2 : (j : Int) < (len2 : Int) := by omega
            have hd := RL_drop n j hlt
            have hr2 := hr.out
            rw [hd] at hr2
            have hsc := csend_any hr2 (z j) (by simp) (by simp [RL_len]; omega)
            have e : mSend 0 ⟨[], [], (100 + (j : Int), (j : Int), 0) :: (RL n).drop (j + 1), false⟩ (z j) = (⟨[], [], (RL n).drop (j + 1), false⟩, (100 + (j : Int), (j : Int), z j), true, 0) := rfl
            rw [e] at hsc
            have HSC := Lib.hid hsc
            have ZB := Lib.hid (cell_below z1 B1.out)
            clear z1 hr hr2 hd hsc e
            unfold wv at HSC
            simp only at HSC
            generalize z j = zi at *
            go_wp2_with fail
            refine HSC.out.mono ?_
            rintro r w4 ⟨rfl, h4⟩
            have z2' := cell_below ZB.out h4.bel
            have H4 := Lib.hid (h4.step (below_alloc1 _ (.cells #[.int .i64 (100 + (j : Int)), .int .i64 (j : Int), .int .i64 zi] 45)))
            have hB := Blk.mk w4 [.int .i64 (100 + (j : Int)), .int .i64 (j : Int), .int .i64 zi] 45 _ rfl
            have z3' := cell_below z2' (below_alloc1 w4 (.cells #[.int .i64 (100 + (j : Int)), .int .i64 (j : Int), .int .i64 zi] 45))
            clear h4 z2'
            go_upto_region 20 with fail
            generalize hs4 : w4.heap.size = s4 at *
            clear hs4
            generalize w4.alloc (.cells #[.int .i64 (100 + (j : Int)), .int .i64 (j : Int), .int .i64 zi] 45) = W5 at *
            obtain ⟨c0, -⟩ := hB 0 _ rfl
            obtain ⟨c1, -⟩ := hB 1 _ rfl
            obtain ⟨c2, -⟩ := hB 2 _ rfl
            clear hB
            go_wp2_with fail
            go_quiet (fail)
            have H5 := Lib.hid (H4.out.step (below_drewN (Below.refl _ _) nq))
            go_wp2
            exact ⟨⟨j + 1, by omega, by go_num, H5⟩, by simp [intOf]; omega⟩
          · have hge2 : ¬ (j : Int) < (n : Int) := by omega
            have hst : Own w1 wr [ChanA p 0 ⟨[], [], [], false⟩] := by have := hr.out; rw [show j = n by omega, List.drop_of_length_le (by rw [RL_len]; exact Nat.le_refl _)] at this; exact this
            have hrc := crecv_none (cl := false) hst
            have HRC := Lib.hid hrc
            clear hst hr hrc hlt hj
            unfold gotC at HRC
            simp only [zw] at HRC
            go_wp2_with fail
            refine HRC.out.mono ?_
            rintro r w4 ⟨rfl, h4⟩
            have hsc := csend_any (h4.step (below_alloc1 _ (.cells #[.int .i64 0, .bool false, .int .i64 0, .int .i64 0, .int .i64 0, .bool false] 51))) 1 (by simp) (by simp)
            have e : mSend 0 ⟨[], [], [], false⟩ 1 = (⟨[], [], [], false⟩, zw, false, 6) := by decide
            rw [e] at hsc
            have HSC := Lib.hid hsc
            clear h4 hsc e
            unfold wv at HSC
            simp only [zw] at HSC
            go_wp2_with fail
            refine HSC.out.mono ?_
            rintro r w5 ⟨rfl, h5⟩
            have hb : Below w.heap.size w (w5.alloc (.cells #[.int .i64 0, .int .i64 0, .int .i64 0] 45)) := below_on (below_on B1.out h5.bel) (below_alloc1 _ _)
            clear h5
            go_wp2
            go_ret
            exact ⟨rfl, hb⟩
end Go.Proofs.Ythfleeimhnenpaa.chansMeet
