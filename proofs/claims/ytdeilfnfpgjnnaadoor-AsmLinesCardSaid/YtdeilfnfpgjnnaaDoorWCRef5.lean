/-
  The walk of the document's answer for a program.
-/
import Derived.Test.YtdeilfnfpgjnnaaDoorWCRef4
open Go Go.RowKit
set_option linter.unusedVariables false
namespace Go.Proofs.YtdeilfnfpgjnnaaDoor
theorem inn_wit (v lo hi h2 : Int) (h : h2 = hi + 1) : inn v lo h2 = wit v lo hi := by
  subst h; unfold inn wit
  by_cases h1 : lo ≤ v <;> by_cases h2 : v ≤ hi <;> simp [h1, h2] <;> omega
/-- Its instructions' second fields are numbers that an int holds. -/
def Fits (d : PD) : Prop := ∀ f ∈ d.fs, ∀ x ∈ f, i64b x.2.2.1
set_option maxRecDepth 100000 in
set_option maxHeartbeats 8000000 in
theorem refcheck_any (fa : Option Addr) (fc : Nat) (ca : Option Addr) (cc : Nat) (ka : Option Addr) (kc : Nat) (d : PD) (w : World) (hp : PAt w fa ca ka d) (hfit : Fits d) :
    Calls Tryd.prog 25 #[pv fa d.fs.length fc ca d.cs.length cc d.lk ka d.ks.length kc] w
      fun e w' => e = .returned (.tuple #[.int .i64 (chkI d).1, .int .i64 (chkI d).2.1, .int .i64 (chkI d).2.2]) ∧ Below w.heap.size w w' := by
  obtain ⟨fs, cs, lk, ks⟩ := d
  have hi : chkI ⟨fs, cs, lk, ks⟩ = if parI fs.length cs lk ks = 0 then fnsI fs.length cs.length ks.length lk 0 (fs.drop 0) else (-1, -1, parI fs.length cs lk ks) := rfl
  generalize chkI ⟨fs, cs, lk, ks⟩ = r at hi ⊢
  obtain ⟨hf, hc, hk⟩ := hp
  simp only at hf hc hk ⊢
  have hfit' : ∀ f ∈ fs, ∀ x ∈ f, i64b x.2.2.1 := hfit
  clear hfit
  have hpar : parI fs.length cs lk ks = if wit (fs.length : Int) 1 16 && decide (cs.length ≤ 8) && decide (ks.length ≤ 32) && wit lk 0 8 then rowI (cs.drop 0) ks cs.length else 3 := rfl
  obtain ⟨nf, hnf⟩ : ∃ n, fs.length = n := ⟨_, rfl⟩
  obtain ⟨nc, hn⟩ : ∃ n, cs.length = n := ⟨_, rfl⟩
  obtain ⟨nk, hm⟩ : ∃ n, ks.length = n := ⟨_, rfl⟩
  have HG := fun a0 n cap o a b c W hb h1 h2 h3 h5 => good_any fa nf fc ca nc cc lk ka nk kc a0 n cap o a b c W hb h1 h2 h3 h5
  unfold pv at *
  rw [hnf, hn, hm] at hi hpar ⊢
  obtain ⟨p, hp⟩ : ∃ p, parI nf cs lk ks = p := ⟨_, rfl⟩
  rw [hp] at hi hpar
  clear hp
  have HG := Lib.hid HG
  have HNF := Lib.hid hnf
  have HN := Lib.hid hn
  have HM := Lib.hid hm
  have HFit := Lib.hid hfit'
  obtain ⟨s0, hs0⟩ : ∃ s0, s0 = w.heap.size := ⟨_, rfl⟩
  have HW := Lib.hid hs0
  have hb1 := below_alloc1 w (.cells #[.slice fa nf fc, .slice ca nc cc, .int .i64 lk, .slice ka nk kc] 26)
  have hS : FunAt (w.alloc (.cells #[.slice fa nf fc, .slice ca nc cc, .int .i64 lk, .slice ka nk kc] 26)) fa fs ∧ IntsAt (w.alloc (.cells #[.slice fa nf fc, .slice ca nc cc, .int .i64 lk, .slice ka nk kc] 26)) ca cs ∧ CasAt (w.alloc (.cells #[.slice fa nf fc, .slice ca nc cc, .int .i64 lk, .slice ka nk kc] 26)) ka ks ∧ Blk (w.alloc (.cells #[.slice fa nf fc, .slice ca nc cc, .int .i64 lk, .slice ka nk kc] 26)) s0 [.slice fa nf fc, .slice ca nc cc, .int .i64 lk, .slice ka nk kc] ∧ Below s0 w (w.alloc (.cells #[.slice fa nf fc, .slice ca nc cc, .int .i64 lk, .slice ka nk kc] 26)) :=
    ⟨hf.below hb1, hc.below hb1, hk.below hb1, Blk.mk _ _ _ _ hs0, hs0 ▸ hb1⟩
  have HS := Lib.hid hS
  obtain ⟨x1, hx1⟩ : ∃ x, wit (nf : Int) 1 16 = x := ⟨_, rfl⟩
  obtain ⟨x4, hx4⟩ : ∃ x, wit lk 0 8 = x := ⟨_, rfl⟩
  rw [hx1, hx4] at hpar
  have hl4 : x4 = true → 0 ≤ lk ∧ lk ≤ 8 := fun h => by rw [← hx4] at h; simpa [wit] using h
  have hl1 : x1 = true → nf ≤ 16 := fun h => by rw [← hx1] at h; simp [wit] at h; omega
  have X1 := Lib.hid ((inn_wit (nf : Int) 1 16 17 rfl).trans hx1)
  have X4 := Lib.hid ((inn_wit lk 0 8 9 rfl).trans hx4)
  clear hs0 hS hf hc hk hnf hn hm hb1 hx1 hx4 hfit'
  cases x1
  · simp at hpar
    subst hpar
    simp at hi
    subst hi
    clear hl1 hl4
    go_enter Tryd.func25, Tryd.ntmps25
    go_wp2_with fail
    refine (in_any _ _ _ _).mono ?_
    rintro e w1 ⟨rfl, rfl⟩
    rw [X1.out]
    go_wp2_with fail
    go_ret3
    exact ⟨rfl, HW.out ▸ HS.out.2.2.2.2⟩
  have hl1 := hl1 rfl
  rcases Nat.lt_or_ge 8 nc with h8n | h8
  · have h8' : (nc : Int) > 8 := by omega
    simp [show ¬ nc ≤ 8 by omega] at hpar
    subst hpar
    simp at hi
    subst hi
    clear hl4
    go_enter Tryd.func25, Tryd.ntmps25
    go_wp2_with fail
    refine (in_any _ _ _ _).mono ?_
    rintro e w1 ⟨rfl, rfl⟩
    rw [X1.out]
    go_wp2_with fail
    go_ret3
    exact ⟨rfl, HW.out ▸ HS.out.2.2.2.2⟩
  have h8' : ¬ (nc : Int) > 8 := by omega
  rcases Nat.lt_or_ge 32 nk with h32n | h32
  · have h32' : (nk : Int) > 32 := by omega
    simp [show ¬ nk ≤ 32 by omega] at hpar
    subst hpar
    simp at hi
    subst hi
    clear hl4
    go_enter Tryd.func25, Tryd.ntmps25
    go_wp2_with fail
    refine (in_any _ _ _ _).mono ?_
    rintro e w1 ⟨rfl, rfl⟩
    rw [X1.out]
    go_wp2_with fail
    go_ret3
    exact ⟨rfl, HW.out ▸ HS.out.2.2.2.2⟩
  have h32' : ¬ (nk : Int) > 32 := by omega
  cases x4
  · simp at hpar
    subst hpar
    simp at hi
    subst hi
    clear hl4
    go_enter Tryd.func25, Tryd.ntmps25
    go_wp2_with fail
    refine (in_any _ _ _ _).mono ?_
    rintro e w1 ⟨rfl, rfl⟩
    rw [X1.out]
    go_wp2_with fail
    refine (in_any _ _ _ _).mono ?_
    rintro e w1 ⟨rfl, rfl⟩
    rw [X4.out]
    go_wp2_with fail
    go_ret3
    exact ⟨rfl, HW.out ▸ HS.out.2.2.2.2⟩
  have hl4 := hl4 rfl
  simp only [show nc ≤ 8 from h8, show nk ≤ 32 from h32, Bool.and_self, decide_true, if_true] at hpar
  have HI := Lib.hid hi
  have HPar := Lib.hid hpar
  have H4 := Lib.hid hl4
  clear hi hpar hl4
  go_enter Tryd.func25, Tryd.ntmps25
  go_wp2_with fail
  refine (in_any _ _ _ _).mono ?_
  rintro e w1 ⟨rfl, rfl⟩
  rw [X1.out]
  go_wp2_with fail
  refine (in_any _ _ _ _).mono ?_
  rintro e w1 ⟨rfl, rfl⟩
  rw [X4.out]
  go_wp2_with fail
  rw [← HW.out]
  go_loopw [40] (fun s wr => ∃ i : Nat, i ≤ nc ∧ s = .int .i64 (i : Int) ∧ Hid (p = rowI (cs.drop i) ks nc ∧ FunAt wr fa fs ∧ IntsAt wr ca cs ∧ CasAt wr ka ks ∧ Blk wr s0 [.slice fa nf fc, .slice ca nc cc, .int .i64 lk, .slice ka nk kc] ∧ Below s0 w wr)) (fun s _ => nc - (intOf s).toNat)
  case atStart => exact ⟨0, by omega, rfl, Lib.hid ⟨HPar.out, HS.out⟩⟩
  case round =>
    obtain ⟨i, hi3, rfl, hr⟩ := hrel
    obtain ⟨hr1, hr0, hr2, hr3, hr4, hr5⟩ := hr.out
    by_cases hin : i < nc
    · have hin' : (i : Int) < (nc : Int) := by omega
      have hil : i < cs.length := by rw [HN.out]; exact hin
      rw [rowI_cs cs ks nc i hil] at hr1
      obtain ⟨b, off, rfl, c0⟩ := hr2 i hil
      obtain ⟨v, hv⟩ : ∃ v, cs[i] = v := ⟨_, rfl⟩
      rw [hv] at hr1 c0
      obtain ⟨q, hq⟩ : ∃ q, wit v 0 16 = q := ⟨_, rfl⟩
      rw [hq] at hr1
      have HQ := Lib.hid ((inn_wit v 0 16 17 rfl).trans hq)
      have HR := Lib.hid hr1
      have HF := Lib.hid (show _ ∧ _ ∧ _ ∧ _ ∧ _ from ⟨hr0, hr2, hr3, hr4, hr5⟩)
      clear hr hr1 hr0 hr2 hr3 hr4 hr5 hv hil hq
      go_wp2_with fail
      refine (in_any _ _ _ _).mono ?_
      rintro e w1 ⟨rfl, rfl⟩
      rw [HQ.out]
      cases q
      · have hR := HR.out
        simp at hR
        subst hR
        have hI := HI.out
        simp at hI
        subst hI
        go_wp2_with fail
        go_ret3
        exact ⟨rfl, HW.out ▸ HF.out.2.2.2.2⟩
      · have hR := HR.out
        rw [if_pos rfl] at hR
        have hR := Lib.hid hR
        clear HR
        go_wp2_with fail
        exact ⟨⟨i + 1, by omega, by go_num, Lib.hid ⟨hR.out, HF.out⟩⟩, by simp [intOf]; omega⟩
    · have hin2 : i = nc := by omega
      subst hin2
      have hd : cs.drop i = [] := List.drop_of_length_le (by rw [HN.out]; exact Nat.le_refl _)
      rw [hd] at hr1
      have p0 := (hr4 3 _ rfl).1
      have HR := Lib.hid (show p = rowI [] (ks.drop 0) i from hr1)
      have HF := Lib.hid (show _ ∧ _ ∧ _ ∧ _ from ⟨hr0, hr3, hr4, hr5⟩)
      clear hr hr1 hr0 hr2 hr3 hr4 hr5 hd
      go_wp2_with fail
      go_loopw [51] (fun s wr => ∃ j : Nat, j ≤ nk ∧ s = .int .i64 (j : Int) ∧ Hid (p = rowI [] (ks.drop j) i ∧ FunAt wr fa fs ∧ CasAt wr ka ks ∧ Blk wr s0 [.slice fa nf fc, .slice ca i cc, .int .i64 lk, .slice ka nk kc] ∧ Below s0 w wr)) (fun s _ => nk - (intOf s).toNat)
      case atStart => exact ⟨0, by omega, rfl, Lib.hid ⟨HR.out, HF.out⟩⟩
      case round =>
        obtain ⟨j, hj3, rfl, hr⟩ := hrel
        obtain ⟨hr1, hr0, hr3, hr4, hr5⟩ := hr.out
        by_cases hjn : j < nk
        · have hjn' : (j : Int) < (nk : Int) := by omega
          have hjl : j < ks.length := by rw [HM.out]; exact hjn
          rw [rowI_ks ks i j hjl] at hr1
          obtain ⟨b, off, rfl, c0, c1, c2⟩ := hr3 j hjl
          obtain ⟨v, hv⟩ : ∃ v, ks[j] = v := ⟨_, rfl⟩
          rw [hv] at hr1 c0 c1 c2
          obtain ⟨y, ch, rg⟩ := v
          simp only at c0 c1 c2
          have p0 := (hr4 0 _ rfl).1
          have p1 := (hr4 1 _ rfl).1
          have p2 := (hr4 2 _ rfl).1
          have p3 := (hr4 3 _ rfl).1
          have hsn : s0 < wr.heap.size := hr4.lt (by simp)
          have HX : Hid (∀ w', Below wr.heap.size wr w' → FunAt w' fa fs ∧ CasAt w' (some ⟨b, off, none⟩) ks ∧ Blk w' s0 [.slice fa nf fc, .slice ca i cc, .int .i64 lk, .slice (some ⟨b, off, none⟩) nk kc] ∧ Below s0 w w') := Lib.hid fun w' hb => ⟨hr0.below hb, hr3.below hb, hr4.below hb, hr5.trans (hb.mono (Nat.le_of_lt hsn))⟩
          have hcas : casI i (y, ch, rg) = if y = 0 ∨ y = 1 then inn ch 0 (i : Int) && inn rg 0 8 else y == 2 := by
            rw [inn_wit ch 0 ((i : Int) - 1) i (by omega), inn_wit rg 0 7 8 rfl]; rfl
          obtain ⟨q, hq⟩ : ∃ q, casI i (y, ch, rg) = q := ⟨_, rfl⟩
          rw [hq] at hr1
          rw [hcas] at hq
          clear hr hr0 hr3 hr4 hr5 hv hjl hcas
          obtain ⟨u0, hu0⟩ : ∃ u, inn y 0 3 = u := ⟨_, rfl⟩
          have U0 := Lib.hid hu0
          cases u0
          · have hy : ¬ (0 ≤ y ∧ y < 3) := by simpa [inn] using hu0
            have hy2 : (y == 2) = false := by simp; omega
            rw [if_neg (by omega), hy2] at hq
            subst hq
            simp at hr1
            subst hr1
            have hI := HI.out
            simp at hI
            subst hI
            clear hu0 hy hy2
            go_wp2_with fail
            refine (in_any _ _ _ _).mono ?_
            rintro e w1 ⟨rfl, rfl⟩
            rw [U0.out]
            go_wp2_with fail
            go_ret3
            exact ⟨rfl, HW.out ▸ (HX.out _ (below_alloc1 _ _)).2.2.2⟩
          · have hy : 0 ≤ y ∧ y < 3 := by simpa [inn] using hu0
            clear hu0
            by_cases hy2 : y < 2
            · rw [if_pos (by omega)] at hq
              obtain ⟨u1, hu1⟩ : ∃ u, inn ch 0 (i : Int) = u := ⟨_, rfl⟩
              obtain ⟨u2, hu2⟩ : ∃ u, inn rg 0 8 = u := ⟨_, rfl⟩
              rw [hu1, hu2] at hq
              subst hq
              have U1 := Lib.hid hu1
              have U2 := Lib.hid hu2
              clear hu1 hu2 hy
              cases u1
              · simp at hr1
                subst hr1
                have hI := HI.out
                simp at hI
                subst hI
                go_wp2_with fail
                refine (in_any _ _ _ _).mono ?_
                rintro e w1 ⟨rfl, rfl⟩
                rw [U0.out]
                go_wp2_with fail
                refine (in_any _ _ _ _).mono ?_
                rintro e w1 ⟨rfl, rfl⟩
                rw [U1.out]
                go_wp2_with fail
                go_ret3
                exact ⟨rfl, HW.out ▸ (HX.out _ (below_alloc1 _ _)).2.2.2⟩
              · cases u2
                · simp at hr1
                  subst hr1
                  have hI := HI.out
                  simp at hI
                  subst hI
                  go_wp2_with fail
                  refine (in_any _ _ _ _).mono ?_
                  rintro e w1 ⟨rfl, rfl⟩
                  rw [U0.out]
                  go_wp2_with fail
                  refine (in_any _ _ _ _).mono ?_
                  rintro e w1 ⟨rfl, rfl⟩
                  rw [U1.out]
                  go_wp2_with fail
                  refine (reg_any _ _).mono ?_
                  rintro e w1 ⟨rfl, rfl⟩
                  rw [U2.out]
                  go_wp2_with fail
                  go_ret3
                  exact ⟨rfl, HW.out ▸ (HX.out _ (below_alloc1 _ _)).2.2.2⟩
                · rw [Bool.and_self, if_pos rfl] at hr1
                  have HR := Lib.hid hr1
                  clear hr1
                  go_wp2_with fail
                  refine (in_any _ _ _ _).mono ?_
                  rintro e w1 ⟨rfl, rfl⟩
                  rw [U0.out]
                  go_wp2_with fail
                  refine (in_any _ _ _ _).mono ?_
                  rintro e w1 ⟨rfl, rfl⟩
                  rw [U1.out]
                  go_wp2_with fail
                  refine (reg_any _ _).mono ?_
                  rintro e w1 ⟨rfl, rfl⟩
                  rw [U2.out]
                  go_wp2_with fail
                  exact ⟨⟨j + 1, by omega, by go_num, Lib.hid ⟨HR.out, HX.out _ (below_alloc1 _ _)⟩⟩, by simp [intOf]; omega⟩
            · have hyy : y = 2 := by omega
              subst hyy
              rw [if_neg (by omega)] at hq
              subst hq
              have hr1' : p = rowI [] (ks.drop (j + 1)) i := hr1
              have HR := Lib.hid hr1'
              clear hr1 hr1' hy hy2
              go_wp2_with fail
              refine (in_any _ _ _ _).mono ?_
              rintro e w1 ⟨rfl, rfl⟩
              rw [U0.out]
              go_wp2_with fail
              exact ⟨⟨j + 1, by omega, by go_num, Lib.hid ⟨HR.out, HX.out _ (below_alloc1 _ _)⟩⟩, by simp [intOf]; omega⟩
        · have hjn2 : j = nk := by omega
          subst hjn2
          have hd : ks.drop j = [] := List.drop_of_length_le (by rw [HM.out]; exact Nat.le_refl _)
          rw [hd] at hr1
          have hr1' : p = 0 := hr1
          subst hr1'
          have hI := HI.out
          rw [if_pos rfl] at hI
          have p0 := (hr4 0 _ rfl).1
          have HR : Hid (r = fnsI nf i j lk 0 (fs.drop 0) ∧ FunAt wr fa fs ∧ Blk wr s0 [.slice fa nf fc, .slice ca i cc, .int .i64 lk, .slice ka j kc] ∧ Below s0 w wr) := Lib.hid ⟨hI, hr0, hr4, hr5⟩
          clear hr hr1 hr0 hr3 hr4 hr5 hd hI HI
          go_wp2_with fail
          go_loopw [83] (fun s wr => ∃ g : Nat, g ≤ nf ∧ s = .int .i64 (g : Int) ∧ Hid (r = fnsI nf i j lk g (fs.drop g) ∧ FunAt wr fa fs ∧ Blk wr s0 [.slice fa nf fc, .slice ca i cc, .int .i64 lk, .slice ka j kc] ∧ Below s0 w wr)) (fun s _ => nf - (intOf s).toNat)
          case atStart => exact ⟨0, by omega, rfl, HR⟩
          case round =>
            obtain ⟨g, hg3, rfl, hr⟩ := hrel
            obtain ⟨hr1, hr2, hr4, hr5⟩ := hr.out
            by_cases hgn : g < nf
            · have hgn' : (g : Int) < (nf : Int) := by omega
              have hgl : g < fs.length := by rw [HNF.out]; exact hgn
              rw [fnsI_drop fs g hgl] at hr1
              obtain ⟨N, hN⟩ : ∃ N, fnsI nf i j lk (g + 1) (fs.drop (g + 1)) = N := ⟨_, rfl⟩
              rw [hN] at hr1
              have HNN := Lib.hid hN
              have hfit := HFit.out fs[g] (List.getElem_mem hgl)
              obtain ⟨b, off, a', c', rfl, c0, hin3⟩ := hr2 g hgl
              obtain ⟨f, hf⟩ : ∃ x, fs[g] = x := ⟨_, rfl⟩
              rw [hf] at hr1 c0 hin3 hfit
              obtain ⟨n, hn⟩ : ∃ n, f.length = n := ⟨_, rfl⟩
              have hfun : funI nf i j lk f = if wit (n : Int) 1 64 then insF nf i j lk n 0 (f.drop 0) else (-1, 3) := by rw [← hn]; rfl
              rw [hn] at c0
              obtain ⟨u, hu⟩ : ∃ u, wit (n : Int) 1 64 = u := ⟨_, rfl⟩
              rw [hu] at hfun
              have U := Lib.hid ((inn_wit (n : Int) 1 64 65 rfl).trans hu)
              have hn64 : u = true → n ≤ 64 := fun h => by rw [← hu] at h; simp [wit] at h; omega
              have HL := Lib.hid hn
              have HFi := Lib.hid hfit
              have HF : Hid (FunAt wr (some ⟨b, off, none⟩) fs ∧ InsAt wr a' f ∧ Blk wr s0 [.slice (some ⟨b, off, none⟩) nf fc, .slice ca i cc, .int .i64 lk, .slice ka j kc] ∧ Below s0 w wr) := Lib.hid ⟨hr2, hin3, hr4, hr5⟩
              clear hr hr2 hr4 hr5 hgl hN hfit hf hn hu hin3
              cases u
              · rw [if_neg (by simp)] at hfun
                rw [hfun] at hr1
                simp at hr1
                subst hr1
                clear hfun hn64
                go_wp2_with fail
                refine (in_any _ _ _ _).mono ?_
                rintro e w1 ⟨rfl, rfl⟩
                rw [U.out]
                go_wp2_with fail
                go_ret3
                exact ⟨rfl, HW.out ▸ HF.out.2.2.2⟩
              · have hn64 := hn64 rfl
                rw [if_pos rfl] at hfun
                rw [hfun] at hr1
                have HR : Hid (r = (if (insF nf i j lk n 0 (f.drop 0)).2 = 0 then N else ((g : Int), insF nf i j lk n 0 (f.drop 0))) ∧ FunAt wr (some ⟨b, off, none⟩) fs ∧ InsAt wr a' f ∧ Blk wr s0 [.slice (some ⟨b, off, none⟩) nf fc, .slice ca i cc, .int .i64 lk, .slice ka j kc] ∧ Below s0 w wr) := Lib.hid ⟨hr1, HF.out⟩
                clear hfun hr1
                go_wp2_with fail
                refine (in_any _ _ _ _).mono ?_
                rintro e w1 ⟨rfl, rfl⟩
                rw [U.out]
                go_wp2_with fail
                go_loopw [95] (fun s wr => ∃ k : Nat, k ≤ n ∧ s = .int .i64 (k : Int) ∧ Hid (r = (if (insF nf i j lk n k (f.drop k)).2 = 0 then N else ((g : Int), insF nf i j lk n k (f.drop k))) ∧ FunAt wr (some ⟨b, off, none⟩) fs ∧ InsAt wr a' f ∧ Blk wr s0 [.slice (some ⟨b, off, none⟩) nf fc, .slice ca i cc, .int .i64 lk, .slice ka j kc] ∧ Below s0 w wr)) (fun s _ => n - (intOf s).toNat)
                case atStart => exact ⟨0, by omega, rfl, HR⟩
                case round =>
                  obtain ⟨k, hk3, rfl, hr⟩ := hrel
                  obtain ⟨hr1, hr2, hr3, hr4, hr5⟩ := hr.out
                  by_cases hkn : k < n
                  · have hkn' : (k : Int) < (n : Int) := by omega
                    have hkl : k < f.length := by rw [HL.out]; exact hkn
                    rw [insF_drop f k hkl] at hr1
                    have hx64 := HFi.out f[k] (List.getElem_mem hkl)
                    obtain ⟨b2, off2, rfl, d0, d1, d2, d3⟩ := hr3 k hkl
                    obtain ⟨x, hx⟩ : ∃ x, f[k] = x := ⟨_, rfl⟩
                    rw [hx] at hr1 d0 d1 d2 d3 hx64
                    obtain ⟨o, xa, xb, xc⟩ := x
                    simp only at d0 d1 d2 d3 hx64
                    obtain ⟨e0, he0⟩ : ∃ e0, insI nf i j lk n (o, xa, xb, xc) = e0 := ⟨_, rfl⟩
                    rw [he0] at hr1
                    have p0 := (hr4 0 _ rfl).1
                    have p1 := (hr4 1 _ rfl).1
                    have p2 := (hr4 2 _ rfl).1
                    have p3 := (hr4 3 _ rfl).1
                    have hsn : s0 < wr.heap.size := hr4.lt (by simp)
                    have HX : Hid (∀ w', Below wr.heap.size wr w' → FunAt w' (some ⟨b, off, none⟩) fs ∧ InsAt w' (some ⟨b2, off2, none⟩) f ∧ Blk w' s0 [.slice (some ⟨b, off, none⟩) nf fc, .slice ca i cc, .int .i64 lk, .slice ka j kc] ∧ Below s0 w w') := Lib.hid fun w' hb => ⟨hr2.below hb, hr3.below hb, hr4.below hb, hr5.trans (hb.mono (Nat.le_of_lt hsn))⟩
                    have HR := Lib.hid hr1
                    have HE := Lib.hid he0
                    have HB := Lib.hid hx64
                    clear hr hr1 hr2 hr3 hr4 hr5 hkl hx he0 hx64
                    go_wp2_with fail
                    refine (HG.out _ n _ o xa xb xc _ HB.out (by omega) (by omega) (by omega) (by omega)).mono ?_
                    rintro e w5 ⟨rfl, hb5⟩
                    rw [HE.out]
                    have HF := Lib.hid (HX.out _ (below_on (below_alloc1 _ _) hb5))
                    have hR := HR.out
                    clear hb5
                    by_cases h0 : e0 = 0
                    · rw [if_pos h0] at hR
                      subst h0
                      have hR := Lib.hid hR
                      go_wp2_with fail
                      exact ⟨⟨k + 1, by omega, by go_num, Lib.hid ⟨hR.out, HF.out⟩⟩, by simp [intOf]; omega⟩
                    · rw [if_neg h0] at hR
                      simp only at hR
                      rw [if_neg h0] at hR
                      subst hR
                      go_wp2_with fail
                      go_ret3
                      exact ⟨rfl, HW.out ▸ HF.out.2.2.2⟩
                  · have hkn2 : k = n := by omega
                    subst hkn2
                    have hd : f.drop k = [] := List.drop_of_length_le (by rw [HL.out]; exact Nat.le_refl _)
                    rw [hd] at hr1
                    have hr1' : r = N := hr1
                    have HR : Hid (r = fnsI nf i j lk (g + 1) (fs.drop (g + 1)) ∧ FunAt wr (some ⟨b, off, none⟩) fs ∧ Blk wr s0 [.slice (some ⟨b, off, none⟩) nf fc, .slice ca i cc, .int .i64 lk, .slice ka j kc] ∧ Below s0 w wr) := Lib.hid ⟨hr1'.trans HNN.out.symm, hr2, hr4, hr5⟩
                    clear hr hr1 hr1' hr2 hr3 hr4 hr5 hd
                    go_wp2_with fail
                    exact ⟨⟨g + 1, by omega, by go_num, HR⟩, by simp [intOf]; omega⟩
            · have hgn2 : g = nf := by omega
              subst hgn2
              have hr1' : r = (0, 0, 0) := by rw [hr1, ← HNF.out, List.drop_length]; rfl
              subst hr1'
              have HF := Lib.hid hr5
              clear hr hr1 hr2 hr4 hr5
              go_wp2_with fail
              go_ret3
              exact ⟨rfl, HW.out ▸ HF.out⟩
end Go.Proofs.YtdeilfnfpgjnnaaDoor
