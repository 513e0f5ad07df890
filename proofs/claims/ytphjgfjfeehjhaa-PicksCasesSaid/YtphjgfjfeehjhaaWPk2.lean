/-
  The walks of Else, Wait, Leave.
-/
import Derived.Test.YtphjgfjfeehjhaaWPk1
import Derived.Test.YtphjgfjfeehjhaaSegH
open Go Go.RowKit
set_option linter.unusedVariables false
namespace Go.Proofs.Ytphjgfjfeehjhaa
set_option maxRecDepth 100000 in
set_option maxHeartbeats 1000000 in
theorem elsepred_any (k1 k2 k3 : Int) (w : World) :
    Calls Try.prog 28 #[.agg #[.int .i64 k1, .int .i64 k2, .int .i64 k3]] w fun r w' => r = .returned (.bool (k1 == 2)) ∧ Below w.heap.size w w' := by
  go_enter Try.func28, Try.ntmps28
  go_wp2
  go_ret
  exact ⟨rfl, by first | exact Below.refl _ _ | exact below_alloc1 _ _⟩
set_option maxRecDepth 100000 in
set_option maxHeartbeats 2000000 in
theorem elseidx_any (w : World) (ka : Option Addr) (m kc : Nat) (ks : List Cs3) (hk : CellsAt w ka (c3s ks)) (hm : m = ks.length) (hm2 : m ≤ 100000) :
    Calls Try.prog 27 #[.slice ka m kc, .func (.func 28) #[] #[]] w fun r w' => r = .returned (.int .i64 (elF 0 ks)) ∧ Below w.heap.size w w' := by
  have H := Lib.hid hk
  have HN := Lib.hid hm
  clear hk hm
  go_enter Try.func27, Try.ntmps27
  go_wp2_with fail
  go_loopw [8] (fun s wr => ∃ i : Nat, i ≤ m ∧ s = .int .i64 i ∧ Hid (Below w.heap.size w wr ∧ elF 0 ks = elF i (ks.drop i))) (fun s _ => m - (intOf s).toNat)
  case atStart => exact ⟨0, by omega, rfl, Lib.hid ⟨Below.refl _ _, rfl⟩⟩
  case round =>
    obtain ⟨i, hi, rfl, hr⟩ := hrel
    obtain ⟨r1, r2⟩ := hr.out
    by_cases hlt : i < m
    · have hil : i < ks.length := by have := HN.out; omega
      obtain ⟨b, off, rfl, q0, q1, q2⟩ := CellsAt.wt (l := ks) ((H.out.below r1)) i hil
      rw [elF_drop ks i hil] at r2
      obtain ⟨x, hx⟩ : ∃ x, x = ks[i] := ⟨_, rfl⟩
      rw [← hx] at q0 q1 q2 r2
      clear hx
      obtain ⟨k1, k2, k3⟩ := x
      simp only at q0 q1 q2 r2
      have hli : (i : Int) < (m : Int) := by omega
      have HP := Lib.hid (elsepred_any k1 k2 k3 wr)
      have R1 := Lib.hid r1
      by_cases hyg : k1 = 2
      · have hb : (k1 == 2) = true := by rw [beq_iff_eq]; exact hyg
        rw [hb] at HP
        rw [if_pos hyg] at r2
        have R2 := Lib.hid r2
        clear hb hyg hr r1 r2
        go_wp2_with fail
        refine HP.out.mono ?_
        rintro r w3 ⟨rfl, b3⟩
        have HZ := Lib.hid (below_on R1.out b3)
        clear b3
        go_wp2
        go_ret
        exact ⟨by rw [R2.out]; rfl, HZ.out⟩
      · have hb : (k1 == 2) = false := by rw [beq_eq_false_iff_ne]; exact hyg
        rw [hb] at HP
        rw [if_neg hyg] at r2
        have R2 := Lib.hid r2
        clear hb hyg hr r1 r2
        go_wp2_with fail
        refine HP.out.mono ?_
        rintro r w3 ⟨rfl, b3⟩
        have HZ := Lib.hid (And.intro (below_on R1.out b3) R2.out)
        clear b3
        go_wp2
        exact ⟨⟨i + 1, by omega, by go_num, HZ⟩, by simp [intOf]; omega⟩
    · have hge : ¬ (i : Int) < (m : Int) := by omega
      have hd : ks.drop i = [] := List.drop_of_length_le (by have := HN.out; omega)
      rw [hd] at r2
      have HF := Lib.hid (And.intro r1 r2)
      clear hr r1 r2 hd
      go_wp2
      go_ret
      exact ⟨by rw [HF.out.2]; rfl, HF.out.1⟩
theorem elF_range : ∀ (l : List Cs3) (i : Nat), elF i l = -1 ∨ ((i : Int) ≤ elF i l ∧ elF i l < (i : Int) + l.length)
  | [], i => .inl rfl
  | k :: t, i => by
    unfold elF
    by_cases h : k.1 = 2
    · rw [if_pos h]; right; simp; omega
    · rw [if_neg h]
      rcases elF_range t (i + 1) with h | h
      · exact .inl h
      · right; simp at h ⊢; omega
set_option maxRecDepth 100000 in
set_option maxHeartbeats 1000000 in
theorem else_any (w : World) (ka : Option Addr) (m kc : Nat) (ks : List Cs3) (hk : CellsAt w ka (c3s ks)) (hm : m = ks.length) (hm2 : m ≤ 100000) :
    Calls Try.prog 6 #[.slice ka m kc] w fun r w' => r = .returned (.tuple #[.int .i64 (if elF 0 ks < 0 then 0 else elF 0 ks), .bool (!decide (elF 0 ks < 0))]) ∧ Below w.heap.size w w' := by
  have hx := elseidx_any w ka m kc ks hk hm hm2
  obtain ⟨e, he⟩ : ∃ e, e = elF 0 ks := ⟨_, rfl⟩
  rw [← he] at hx ⊢
  have HX := Lib.hid hx
  clear hx he hk hm
  by_cases h : e < 0
  · rw [if_pos h, show (!decide (e < 0)) = false by simp [h]]
    go_enter Try.func6, Try.ntmps6
    go_wp2_with fail
    refine HX.out.mono ?_
    rintro r w2 ⟨rfl, b2⟩
    have B2 := Lib.hid b2
    clear b2
    go_wp2
    go_ret2
    exact ⟨rfl, B2.out⟩
  · rw [if_neg h, show (!decide (e < 0)) = true by simp [h]]
    go_enter Try.func6, Try.ntmps6
    go_wp2_with fail
    refine HX.out.mono ?_
    rintro r w2 ⟨rfl, b2⟩
    have B2 := Lib.hid b2
    clear b2
    go_wp2
    go_ret2
    exact ⟨rfl, B2.out⟩
set_option maxRecDepth 100000 in
set_option maxHeartbeats 2000000 in
theorem wait_any {w0 w : World} {ps : List Pl} {Cs : List Ch} {R : List Asr} {la : Option Addr} {lc n : Nat} (h : Own w0 w (chs ps Cs ++ RowGA 1 la lc n (ptrs ps) :: R)) (hn : n = ps.length) (hl : ps.length = Cs.length) (g : Int) (ka : Option Addr) (m kc : Nat) (ks : List Cs3) (ra : Option Addr) (rn rc : Nat) (regs : List Int)
    (hk : ∀ w' Cs', Own w0 w' (chs ps Cs' ++ RowGA 1 la lc n (ptrs ps) :: R) → CellsAt w' ka (c3s ks) ∧ CellsAt w' ra (intc regs)) (hm : m = ks.length) (hm2 : m ≤ 1000) (hr8 : regs.length = 8) (hrn : rn = 8) (hok : CasOK n ks) (B : Nat) (hB : Lim B Cs) (hB2 : B ≤ 1000) :
    Calls Try.prog 11 #[.int .i64 g, .slice ka m kc, .slice ra rn rc, .slice la n lc] w fun r w' => r = .returned (.tuple #[]) ∧ Own w0 w' (chs ps (wasF g regs 0 ks Cs) ++ RowGA 1 la lc n (ptrs ps) :: R) := by
  have H := Lib.hid h
  have HK := Lib.hid hk
  have HN := Lib.hid hn
  have HM := Lib.hid hm
  have HO := Lib.hid hok
  have HL := Lib.hid hl
  have HBB := Lib.hid hB
  subst hrn
  clear h hk hn hm hok hl hB
  go_enter Try.func11, Try.ntmps11
  go_wp2_with fail
  go_loopw [12] (fun s wr => ∃ i : Nat, ∃ Cs', i ≤ m ∧ s = .int .i64 i ∧ Hid (Own w0 wr (chs ps Cs' ++ RowGA 1 la lc n (ptrs ps) :: R) ∧ wasF g regs i (ks.drop i) Cs' = wasF g regs 0 ks Cs ∧ Cs'.length = Cs.length ∧ Lim (B + i) Cs')) (fun s _ => m - (intOf s).toNat)
  case atStart => exact ⟨0, Cs, by omega, rfl, Lib.hid ⟨H.out, rfl, rfl, HBB.out⟩⟩
  case round =>
    obtain ⟨i, Cs', hi, rfl, hr⟩ := hrel
    obtain ⟨r1, r2, r3, r4⟩ := hr.out
    by_cases hlt : i < m
    · have hil : i < ks.length := by have := HM.out; omega
      obtain ⟨kk, kr⟩ := HK.out _ _ r1
      obtain ⟨b, off, rfl, q0, q1, q2⟩ := CellsAt.wt (l := ks) (kk) i hil
      have hok := HO.out ks[i] (List.getElem_mem hil)
      rw [wasF_drop g regs ks i hil] at r2
      obtain ⟨x, hx⟩ : ∃ x, x = ks[i] := ⟨_, rfl⟩
      rw [← hx] at q0 q1 q2 hok r2
      clear hx kk
      obtain ⟨k1, k2, k3⟩ := x
      simp only at q0 q1 q2 hok
      obtain ⟨h0, h1, h2, h3, h4⟩ := hok
      have hli : (i : Int) < (m : Int) := by omega
      obtain ⟨j, rfl⟩ : ∃ j : Nat, k2 = (j : Int) := ⟨k2.toNat, by omega⟩
      by_cases h22 : k1 = 2
      · subst h22
        have e : waF g regs i (2, (j : Int), k3) Cs' = Cs' := by unfold waF; split <;> simp
        rw [e] at r2
        have HR := Lib.hid (show _ ∧ _ ∧ _ ∧ Lim (B + (i + 1)) Cs' from ⟨r1.step (below_alloc1 wr (.cells #[.int .i64 2, .int .i64 (j : Int), .int .i64 k3] 34)), r2, r3, r4.mono (by omega)⟩)
        clear hr r1 r2 r3 r4 h0 h1 h2 h3 h4 e kr
        go_wp2
        exact ⟨⟨i + 1, Cs', by omega, by go_num, HR⟩, by simp [intOf]; omega⟩
      · have hjn : j < ps.length := by have := h2 h22; have := HN.out; omega
        have hjC : j < Cs'.length := by rw [r3, ← HL.out]; exact hjn
        have hp : ps[j]? = some ps[j] := List.getElem?_eq_getElem hjn
        have hC : Cs'[j]? = some Cs'[j] := List.getElem?_eq_getElem hjC
        have hlim := r4 Cs'[j] (List.getElem_mem hjC)
        generalize ps[j] = p at hp
        generalize Cs'[j] = C at hC hlim
        obtain ⟨pb, poff, rfl, gp⟩ := chPtr r1 hp
        obtain ⟨R', hR, hback⟩ := r1.chPick hp hC
        have gpl := World.block_lt_of_cell? _ _ gp
        have hjn' : (j : Int) < (n : Int) := by have := HN.out; omega
        obtain ⟨buf, S, Rv, cl⟩ := C
        simp only at hlim
        rcases (by omega : k1 = 0 ∨ k1 = 1) with rfl | rfl
        · have e : waF g regs i (0, (j : Int), k3) Cs' = Cs'.set j ⟨buf, S, Rv ++ [(g, (i : Int), 0)], cl⟩ := by unfold waF; simp [hC]
          rw [e] at r2
          have hw := cwaitr_any (hR.step (below_alloc1 wr (.cells #[.int .i64 0, .int .i64 (j : Int), .int .i64 k3] 34))) (g, (i : Int), 0) (by omega)
          have HW := Lib.hid hw
          have HX := Lib.hid (fun (w' : World) (h' : Own w0 w' (ChanA p.1 p.2 ⟨buf, S, Rv ++ [(g, (i : Int), 0)], cl⟩ :: R')) => (show Own w0 w' (chs ps (Cs'.set j ⟨buf, S, Rv ++ [(g, (i : Int), 0)], cl⟩) ++ RowGA 1 (some ⟨pb, poff, none⟩) lc n (ptrs ps) :: R) ∧ wasF g regs (i + 1) (ks.drop (i + 1)) (Cs'.set j ⟨buf, S, Rv ++ [(g, (i : Int), 0)], cl⟩) = wasF g regs 0 ks Cs ∧ (Cs'.set j ⟨buf, S, Rv ++ [(g, (i : Int), 0)], cl⟩).length = Cs.length ∧ Lim (B + (i + 1)) (Cs'.set j ⟨buf, S, Rv ++ [(g, (i : Int), 0)], cl⟩) from
            ⟨hback w' _ h', r2, by simpa using r3, (r4.mono (by omega)).set _ _ ⟨by simp only; omega, by simp only; omega, by simp; omega⟩⟩))
          unfold wv at HW
          simp only at HW
          clear hr r1 r2 r3 r4 h0 h1 h2 h3 h4 h22 e kr hw hback hR hC hp hjC hjn hlim
          go_wp2_with fail
          refine HW.out.mono ?_
          rintro r w3 ⟨rfl, h3⟩
          have HR := Lib.hid (HX.out _ h3)
          clear h3
          go_wp2
          exact ⟨⟨i + 1, _, by omega, by go_num, HR⟩, by simp [intOf]; omega⟩
        · obtain ⟨q, rfl⟩ : ∃ q : Nat, k3 = (q : Int) := ⟨k3.toNat, by omega⟩
          have hq8 : q < regs.length := by omega
          have hq8' : (q : Int) < 8 := by omega
          obtain ⟨rb, ro, rfl, gr⟩ := kr.int q hq8
          obtain ⟨v, hv⟩ : ∃ v, v = regs[q] := ⟨_, rfl⟩
          have HQ9 := Lib.hid (show q < regs.length ∧ ∀ h : q < regs.length, regs[q] = v from ⟨hq8, fun _ => hv.symm⟩)
          have HP9 := Lib.hid hp
          have HLIM := Lib.hid hlim
          have hlim2 := hlim
          clear hlim
          rw [← hv] at gr
          have e : waF g regs i (1, (j : Int), (q : Int)) Cs' = Cs'.set j ⟨buf, S ++ [(g, (i : Int), v)], Rv, cl⟩ := by unfold waF; simp [hC, hv, List.getD_eq_getElem?_getD, List.getElem?_eq_getElem hq8]
          rw [e] at r2
          have hw := True.intro
          have HW := hw
          have HX := Lib.hid (fun (w' : World) (h' : Own w0 w' (ChanA p.1 p.2 ⟨buf, S ++ [(g, (i : Int), v)], Rv, cl⟩ :: R')) => (show Own w0 w' (chs ps (Cs'.set j ⟨buf, S ++ [(g, (i : Int), v)], Rv, cl⟩) ++ RowGA 1 (some ⟨pb, poff, none⟩) lc n (ptrs ps) :: R) ∧ wasF g regs (i + 1) (ks.drop (i + 1)) (Cs'.set j ⟨buf, S ++ [(g, (i : Int), v)], Rv, cl⟩) = wasF g regs 0 ks Cs ∧ (Cs'.set j ⟨buf, S ++ [(g, (i : Int), v)], Rv, cl⟩).length = Cs.length ∧ Lim (B + (i + 1)) (Cs'.set j ⟨buf, S ++ [(g, (i : Int), v)], Rv, cl⟩) from
            ⟨hback w' _ h', r2, by simpa using r3, (r4.mono (by omega)).set _ _ ⟨by simp only; omega, by simp; omega, by simp only; omega⟩⟩))
          obtain ⟨s0, hs0⟩ : ∃ s0, s0 = wr.heap.size := ⟨_, rfl⟩
          have hA := hR.alloc [.int .i64 1, .int .i64 (j : Int), .int .i64 (q : Int)] 34 hs0
          have HA := Lib.hid hA
          have HB9 := Lib.hid hback
          have grl := World.block_lt_of_cell? _ _ gr
          clear hr r1 r2 r3 r4 h0 h1 h2 h3 h4 h22 e kr hw HW hback hR hC hp hjC hjn hlim2 hv hq8 hA
          go_upto_region 7 with fail
          rw [← hs0]
          have gp9 := cell_below gp (below_alloc1 wr (.cells #[.int .i64 1, .int .i64 (j : Int), .int .i64 (q : Int)] 34))
          have gr9 := cell_below gr (below_alloc1 wr (.cells #[.int .i64 1, .int .i64 (j : Int), .int .i64 (q : Int)] 34))
          clear gp gr hs0
          generalize wr.alloc (.cells #[.int .i64 1, .int .i64 (j : Int), .int .i64 (q : Int)] 34) = W at *
          have hw := cwaits_any (S := S) ((HA.out.step (below_drew1 _)).pick 1 rfl) (g, (i : Int), v) (by have := HLIM.out; omega)
          have HW := Lib.hid hw
          unfold wv at HW
          simp only at HW
          have hcel : ∀ wx C', Own w0 wx (ChanA p.1 p.2 C' :: CelA s0 [.int .i64 1, .int .i64 (j : Int), .int .i64 (q : Int)] :: R') → wx.cell? ⟨s0, 1, none⟩ = some (.int .i64 (j : Int)) ∧ wx.cell? ⟨s0, 2, none⟩ = some (.int .i64 (q : Int)) ∧ wx.cell? ⟨pb, poff + j, none⟩ = some (.pointer (some ⟨p.1, 0, none⟩)) ∧ wx.cell? ⟨rb, ro + q, none⟩ = some (.int .i64 v) := fun wx C' hx => by
            have hy := HB9.out _ _ (hx.pick 1 rfl).drop
            obtain ⟨_, _, ee, gp'⟩ := chPtr hy HP9.out
            cases ee
            obtain ⟨_, _, ee, gr'⟩ := (HK.out _ _ hy).2.int q HQ9.out.1
            cases ee
            exact ⟨(hx.cel 1 rfl 1 _ rfl).1, (hx.cel 1 rfl 2 _ rfl).1, gp', by rw [gr', HQ9.out.2 HQ9.out.1]⟩
          have h0 := hcel _ _ ((HA.out.step (below_drew1 W)).pick 1 rfl)
          have HCEL := Lib.hid hcel
          clear hw hcel gp9 gr9
          refine wp_region_lexH (fun wx => wx.cell? ⟨s0, 1, none⟩ = some (.int .i64 (j : Int)) ∧ wx.cell? ⟨s0, 2, none⟩ = some (.int .i64 (q : Int)) ∧ wx.cell? ⟨pb, poff + j, none⟩ = some (.pointer (some ⟨p.1, 0, none⟩)) ∧ wx.cell? ⟨rb, ro + q, none⟩ = some (.int .i64 v)) 14 (Array.replicate 14 false) (by kernel_rfl) (by kernel_rfl) ?_
          refine wpAnyH_seg 0 13 _ #[true, true, true, true, true, true, true, true, true, true, true, true, true, false] 1 (by kernel_rfl) noPanic_put (h0) (by kernel_rfl) ?_
          simp only [List.take_succ_cons, List.take_zero, List.drop_zero]
          repeat (first
            | (refine wpSegH_no (by rfl) ?_; simp only [Act.put, List.setIfInBounds_toArray, List.set_cons_zero, List.set_cons_succ])
            | (refine wpSegH_yes (by rfl) ?_; apply Exists.intro; apply And.intro; (· (intro wx hS; (try dsimp only at hS); go_simp; first | done | with_reducible rfl)); simp only [Act.put, List.setIfInBounds_toArray, List.set_cons_zero, List.set_cons_succ]))
          refine wpSegH_nil ?_
          refine wpAnyH_one 13 _ #[true, true, true, true, true, true, true, true, true, true, true, true, true, true] 0 (by kernel_rfl) (fun K hK => ?_)
          have HKK := Lib.hid hK
          clear hK
          simp only [List.drop_succ_cons, List.drop_zero]
          refine headH_mk (by rfl) ?_
          go_simp
          refine HW.out.mono ?_
          rintro r w3 ⟨rfl, h3⟩
          have h1 := HCEL.out _ _ h3
          have HR := Lib.hid (HX.out _ (h3.pick 1 rfl).drop)
          clear h3 h0
          refine HKK.out _ _ (h1) ?_
          clear HKK K
          refine wpAnyH_done (by kernel_rfl) (NoPanic.normal ?_) _
          clear h1
          go_wp2
          exact ⟨⟨i + 1, _, by omega, by go_num, HR⟩, by simp [intOf]; omega⟩
    · have hge : ¬ (i : Int) < (m : Int) := by omega
      have hd : ks.drop i = [] := List.drop_of_length_le (by have := HM.out; omega)
      rw [hd] at r2
      have HF := Lib.hid (show Own w0 wr (chs ps (wasF g regs 0 ks Cs) ++ RowGA 1 la lc n (ptrs ps) :: R) from by rw [← r2]; exact r1)
      clear hr r1 r2 r3 r4 hd
      go_wp2
      go_end0
      exact ⟨rfl, HF.out⟩
end Go.Proofs.Ytphjgfjfeehjhaa
