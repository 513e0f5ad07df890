/-
  The walk of the program's check of its parts.
-/
import Derived.Test.YtdeilfnfpgjnnaaDoorWCode3
open Go Go.RowKit
set_option linter.unusedVariables false
namespace Go.Proofs.YtdeilfnfpgjnnaaDoor
/-- All but what stands in functions. -/
def parI (nf : Nat) (cs : List Int) (lk : Int) (ks : List Ca3) : Int :=
  if wit (nf : Int) 1 16 && decide (cs.length ≤ 8) && decide (ks.length ≤ 32) && wit lk 0 8 then
    if cs.all (fun r => wit r 0 16) && ks.all (casI cs.length) then 0 else 4
  else 3
def rowI (cs : List Int) (ks : List Ca3) (nc : Nat) : Int := if cs.all (fun r => wit r 0 16) && ks.all (casI nc) then 0 else 4
theorem and_if (b c : Bool) : (if (b && c) = true then (0 : Int) else 4) = if b = true then (if c = true then 0 else 4) else 4 := by cases b <;> rfl
theorem rowI_cs (cs : List Int) (ks : List Ca3) (nc i : Nat) (h : i < cs.length) : rowI (cs.drop i) ks nc = if wit cs[i] 0 16 then rowI (cs.drop (i + 1)) ks nc else 4 := by
  rw [List.drop_eq_getElem_cons h]; unfold rowI; rw [List.all_cons, Bool.and_assoc]; exact and_if _ _
theorem rowI_ks (ks : List Ca3) (nc i : Nat) (h : i < ks.length) : rowI [] (ks.drop i) nc = if casI nc ks[i] then rowI [] (ks.drop (i + 1)) nc else 4 := by
  rw [List.drop_eq_getElem_cons h]; unfold rowI; rw [List.all_cons, List.all_nil, Bool.true_and, Bool.true_and]; exact and_if _ _
set_option maxRecDepth 100000 in
set_option maxHeartbeats 4000000 in
theorem checkParts_any (fa : Option Addr) (nf fc : Nat) (ca : Option Addr) (cc : Nat) (cs : List Int) (lk : Int) (ka : Option Addr) (kc : Nat) (ks : List Ca3) (w : World) (hc : IntsAt w ca cs) (hk : CasAt w ka ks) :
    Calls Tryd.prog 33 #[pv fa nf fc ca cs.length cc lk ka ks.length kc] w
      fun e w' => e = .returned (.int .i64 (parI nf cs lk ks)) ∧ Below w.heap.size w w' := by
  have hi : parI nf cs lk ks = if wit (nf : Int) 1 16 && decide (cs.length ≤ 8) && decide (ks.length ≤ 32) && wit lk 0 8 then rowI (cs.drop 0) ks cs.length else 3 := rfl
  generalize parI nf cs lk ks = r at hi ⊢
  have HB := fun ks y ch rg W h2 => allows_any fa nf fc ca cs.length cc lk ka ks kc y ch rg W h2
  unfold pv at *
  obtain ⟨nc, hn⟩ : ∃ n, cs.length = n := ⟨_, rfl⟩
  obtain ⟨nk, hm⟩ : ∃ n, ks.length = n := ⟨_, rfl⟩
  rw [hn, hm] at hi
  rw [hn] at HB
  rw [hn, hm]
  have HB := Lib.hid (HB nk)
  obtain ⟨s0, hs0⟩ : ∃ s0, s0 = w.heap.size := ⟨_, rfl⟩
  have HW := Lib.hid hs0
  have hb1 := below_alloc1 w (.cells #[.slice fa nf fc, .slice ca nc cc, .int .i64 lk, .slice ka nk kc] 33)
  have hS : IntsAt (w.alloc (.cells #[.slice fa nf fc, .slice ca nc cc, .int .i64 lk, .slice ka nk kc] 33)) ca cs ∧ CasAt (w.alloc (.cells #[.slice fa nf fc, .slice ca nc cc, .int .i64 lk, .slice ka nk kc] 33)) ka ks ∧ Blk (w.alloc (.cells #[.slice fa nf fc, .slice ca nc cc, .int .i64 lk, .slice ka nk kc] 33)) s0 [.slice fa nf fc, .slice ca nc cc, .int .i64 lk, .slice ka nk kc] ∧ Below s0 w (w.alloc (.cells #[.slice fa nf fc, .slice ca nc cc, .int .i64 lk, .slice ka nk kc] 33)) :=
    ⟨hc.below hb1, hk.below hb1, Blk.mk _ _ _ _ hs0, hs0 ▸ hb1⟩
  have HS := Lib.hid hS
  have HN := Lib.hid hn
  have HM := Lib.hid hm
  obtain ⟨x1, hx1⟩ : ∃ x, wit (nf : Int) 1 16 = x := ⟨_, rfl⟩
  obtain ⟨x4, hx4⟩ : ∃ x, wit lk 0 8 = x := ⟨_, rfl⟩
  rw [hx1, hx4] at hi
  have X1 := Lib.hid hx1
  have X4 := Lib.hid hx4
  clear hs0 hS hc hk hn hm hb1 hx1 hx4
  cases x1
  · simp at hi
    subst hi
    go_enter Tryd.func33, Tryd.ntmps33
    go_wp2_with fail
    refine (within_any _ _ _ _).mono ?_
    rintro e w1 ⟨rfl, rfl⟩
    rw [X1.out]
    go_wp2_with fail
    go_ret
    exact ⟨rfl, HW.out ▸ HS.out.2.2.2⟩
  rcases Nat.lt_or_ge 8 nc with h8n | h8
  · have h8' : (nc : Int) > 8 := by omega
    simp [show ¬ nc ≤ 8 by omega] at hi
    subst hi
    go_enter Tryd.func33, Tryd.ntmps33
    go_wp2_with fail
    refine (within_any _ _ _ _).mono ?_
    rintro e w1 ⟨rfl, rfl⟩
    rw [X1.out]
    go_wp2_with fail
    go_ret
    exact ⟨rfl, HW.out ▸ HS.out.2.2.2⟩
  have h8' : ¬ (nc : Int) > 8 := by omega
  rcases Nat.lt_or_ge 32 nk with h32n | h32
  · have h32' : (nk : Int) > 32 := by omega
    simp [show ¬ nk ≤ 32 by omega] at hi
    subst hi
    go_enter Tryd.func33, Tryd.ntmps33
    go_wp2_with fail
    refine (within_any _ _ _ _).mono ?_
    rintro e w1 ⟨rfl, rfl⟩
    rw [X1.out]
    go_wp2_with fail
    go_ret
    exact ⟨rfl, HW.out ▸ HS.out.2.2.2⟩
  have h32' : ¬ (nk : Int) > 32 := by omega
  cases x4
  · simp at hi
    subst hi
    go_enter Tryd.func33, Tryd.ntmps33
    go_wp2_with fail
    refine (within_any _ _ _ _).mono ?_
    rintro e w1 ⟨rfl, rfl⟩
    rw [X1.out]
    go_wp2_with fail
    refine (within_any _ _ _ _).mono ?_
    rintro e w1 ⟨rfl, rfl⟩
    rw [X4.out]
    go_wp2_with fail
    go_ret
    exact ⟨rfl, HW.out ▸ HS.out.2.2.2⟩
  simp only [show nc ≤ 8 from h8, show nk ≤ 32 from h32, Bool.and_self, decide_true, if_true] at hi
  have HI := Lib.hid hi
  clear hi
  go_enter Tryd.func33, Tryd.ntmps33
  go_wp2_with fail
  refine (within_any _ _ _ _).mono ?_
  rintro e w1 ⟨rfl, rfl⟩
  rw [X1.out]
  go_wp2_with fail
  refine (within_any _ _ _ _).mono ?_
  rintro e w1 ⟨rfl, rfl⟩
  rw [X4.out]
  go_wp2_with fail
  rw [← HW.out]
  go_loopw [33] (fun s wr => ∃ i : Nat, i ≤ nc ∧ s = .int .i64 (i : Int) ∧ Hid (r = rowI (cs.drop i) ks nc ∧ IntsAt wr ca cs ∧ CasAt wr ka ks ∧ Blk wr s0 [.slice fa nf fc, .slice ca nc cc, .int .i64 lk, .slice ka nk kc] ∧ Below s0 w wr)) (fun s _ => nc - (intOf s).toNat)
  case atStart => exact ⟨0, by omega, rfl, Lib.hid ⟨HI.out, HS.out⟩⟩
  case round =>
    obtain ⟨i, hi3, rfl, hr⟩ := hrel
    obtain ⟨hr1, hr2, hr3, hr4, hr5⟩ := hr.out
    by_cases hin : i < nc
    · have hin' : (i : Int) < (nc : Int) := by omega
      have hil : i < cs.length := by rw [HN.out]; exact hin
      rw [rowI_cs cs ks nc i hil] at hr1
      obtain ⟨b, off, rfl, c0⟩ := hr2 i hil
      obtain ⟨v, hv⟩ : ∃ v, cs[i] = v := ⟨_, rfl⟩
      rw [hv] at hr1 c0
      obtain ⟨q, hq⟩ : ∃ q, wit v 0 16 = q := ⟨_, rfl⟩
      rw [hq] at hr1
      have HQ := Lib.hid hq
      have HR := Lib.hid hr1
      have HF := Lib.hid (show _ ∧ _ ∧ _ ∧ _ from ⟨hr2, hr3, hr4, hr5⟩)
      clear hr hr1 hr2 hr3 hr4 hr5 hv hil hq
      go_wp2_with fail
      refine (within_any _ _ _ _).mono ?_
      rintro e w1 ⟨rfl, rfl⟩
      rw [HQ.out]
      cases q
      · have hR := HR.out
        simp at hR
        subst hR
        go_wp2_with fail
        go_ret
        exact ⟨rfl, HW.out ▸ HF.out.2.2.2⟩
      · have hR := HR.out
        rw [if_pos rfl] at hR
        have hR := Lib.hid hR
        clear HR
        go_wp2_with fail
        exact ⟨⟨i + 1, by omega, by go_num, Lib.hid ⟨hR.out, HF.out⟩⟩, by simp [intOf]; omega⟩
    · have hin2 : i = nc := by omega
      subst hin2
      have hd : cs.drop i = [] := List.drop_of_length_le (by rw [HN.out]; exact Nat.le_refl _)
      rw [hd] at hr1
      have p0 := (hr4 3 _ rfl).1
      have HR := Lib.hid (show r = rowI [] (ks.drop 0) i from hr1)
      have HF := Lib.hid (show _ ∧ _ ∧ _ from ⟨hr3, hr4, hr5⟩)
      clear hr hr1 hr2 hr3 hr4 hr5 hd
      go_wp2_with fail
      go_loopw [44] (fun s wr => ∃ j : Nat, j ≤ nk ∧ s = .int .i64 (j : Int) ∧ Hid (r = rowI [] (ks.drop j) i ∧ CasAt wr ka ks ∧ Blk wr s0 [.slice fa nf fc, .slice ca i cc, .int .i64 lk, .slice ka nk kc] ∧ Below s0 w wr)) (fun s _ => nk - (intOf s).toNat)
      case atStart => exact ⟨0, by omega, rfl, Lib.hid ⟨HR.out, HF.out⟩⟩
      case round =>
        obtain ⟨j, hj3, rfl, hr⟩ := hrel
        obtain ⟨hr1, hr3, hr4, hr5⟩ := hr.out
        by_cases hjn : j < nk
        · have hjn' : (j : Int) < (nk : Int) := by omega
          have hjl : j < ks.length := by rw [HM.out]; exact hjn
          rw [rowI_ks ks i j hjl] at hr1
          obtain ⟨b, off, rfl, c0, c1, c2⟩ := hr3 j hjl
          obtain ⟨v, hv⟩ : ∃ v, ks[j] = v := ⟨_, rfl⟩
          rw [hv] at hr1 c0 c1 c2
          obtain ⟨y, ch, rg⟩ := v
          simp only at c0 c1 c2
          obtain ⟨q, hq⟩ : ∃ q, casI i (y, ch, rg) = q := ⟨_, rfl⟩
          rw [hq] at hr1
          have HQ := Lib.hid hq
          have HR := Lib.hid hr1
          have p0 := (hr4 0 _ rfl).1
          have p1 := (hr4 1 _ rfl).1
          have p2 := (hr4 2 _ rfl).1
          have p3 := (hr4 3 _ rfl).1
          have hsn : s0 < wr.heap.size := hr4.lt (by simp)
          have HX : Hid (∀ w', Below wr.heap.size wr w' → CasAt w' (some ⟨b, off, none⟩) ks ∧ Blk w' s0 [.slice fa nf fc, .slice ca i cc, .int .i64 lk, .slice (some ⟨b, off, none⟩) nk kc] ∧ Below s0 w w') := Lib.hid fun w' hb => ⟨hr3.below hb, hr4.below hb, hr5.trans (hb.mono (Nat.le_of_lt hsn))⟩
          clear hr hr1 hr3 hr4 hr5 hv hjl hq
          go_wp2_with fail
          refine (HB.out y ch rg _ (by omega)).mono ?_
          rintro e w5 ⟨rfl, hb5⟩
          rw [HQ.out]
          have HF := Lib.hid (HX.out _ (below_on (below_alloc1 _ _) hb5))
          clear hb5
          cases q
          · have hR := HR.out
            simp at hR
            subst hR
            go_wp2_with fail
            go_ret
            exact ⟨rfl, HW.out ▸ HF.out.2.2⟩
          · have hR := HR.out
            rw [if_pos rfl] at hR
            have hR := Lib.hid hR
            clear HR
            go_wp2_with fail
            exact ⟨⟨j + 1, by omega, by go_num, Lib.hid ⟨hR.out, HF.out⟩⟩, by simp [intOf]; omega⟩
        · have hjn2 : j = nk := by omega
          subst hjn2
          have hd : ks.drop j = [] := List.drop_of_length_le (by rw [HM.out]; exact Nat.le_refl _)
          rw [hd] at hr1
          have hr1' : r = 0 := hr1
          subst hr1'
          have HF := Lib.hid hr5
          clear hr hr1 hr3 hr4 hr5 hd
          go_wp2_with fail
          go_ret
          exact ⟨rfl, HW.out ▸ HF.out⟩
end Go.Proofs.YtdeilfnfpgjnnaaDoor
