/-
  The walk of the law SourcePlays.
-/
import Derived.Test.YtkjhaofodlpnmaaW17Ply1
import Derived.Deep.CutBlock
import Derived.Deep.DeepCutAuto
open Go Go.RowKit
set_option linter.unusedVariables false
namespace Go.Proofs.Ytkjhaofodlpnmaa.sourcePlays
def kdOf (tp : Bool) : Nat := if tp then 1 else 0
/-- What the loop keeps. -/
def St (w wr : World) (p bx bs : Nat) (L : List Rec) (N : List Nat) (tp on : Bool) (k : Nat) (wd : Int) : Prop :=
  ∃ (t : List Rec) (X : RSrc) (rs : Rows17) (na : Option Addr) (nc : Nat) (ta : Option Addr) (tc : Nat) (ka : Option Addr) (kc : Nat) (seen : List Rec),
    Own w wr [PoolG rs, CelA bx (rcells X na nc ta tc ka kc), SrcA p (kdOf tp) ⟨L, N, t⟩ (eyeV on bs), EyeA bs seen] ∧ RefC w rs X na nc ta tc ka kc ∧ Plain L N t X tp ∧ t.length ≤ k ∧
      (on = true → ∃ wn : Nat, wd = (wn : Int) ∧ wn ≤ t.length ∧ seen = t.drop wn) ∧ (on = false → seen = [])
/-- .. at its start. -/
def Init (w wr : World) (p bx : Nat) (L : List Rec) (N : List Nat) (tp : Bool) : Prop :=
  ∃ (X : RSrc) (rs : Rows17) (na : Option Addr) (nc : Nat) (ta : Option Addr) (tc : Nat),
    Own w wr [PoolG rs, CelA bx (rcells X na nc ta tc none 0), SrcA p (kdOf tp) ⟨L, N, []⟩ .nilFunc] ∧ RefC w rs X na nc ta tc none 0 ∧ Plain L N [] X tp
set_option maxRecDepth 100000 in
set_option maxHeartbeats 8000000 in
theorem walk (a0 : Option Addr) (len0 cap0 : Nat) (z0 : List Int) (a1 : Option Addr) (len1 cap1 : Nat) (l1 : List Rec) (a2 : Bool) (a3 : Option Addr) (len3 cap3 : Nat) (l3 : List Ac2) (a4 : Int) (w : World) (w0 : IsRow .u64 w a0 len0 cap0 z0) (w1 : IsRecs w a1 len1 cap1 l1) (w3 : IsActs2 w a3 len3 cap3 l3) (w4 : (Lit.int .i64 a4).wf = true) :
    Calls Try.prog 3 #[.slice a0 len0 cap0, .slice a1 len1 cap1, .bool a2, .slice a3 len3 cap3, .int .i64 a4] w fun e w' => e = .returned (.bool true) ∧ Below w.heap.size w w' := by
  obtain ⟨rfl, hc0, hm0, hat0, hu0⟩ := w1
  obtain ⟨l, rfl, hlc, hcl, hlu, hn0⟩ := nums_of w0
  obtain ⟨-, hcm1, -, -⟩ := w0.cells
  obtain ⟨rfl, hc2, hm2, hat, hok⟩ := w3
  have hfr := bounds_i64 w4
  clear w0 w4
  have hsome := fun w' (hb : Below w.heap.size w w') => some_own a1 cap1 l1 w' (by omega) (hat0.below hb) hu0
  have HSOME := Lib.hid hsome
  have HAT := Lib.hid hat
  have HOK := Lib.hid hok
  unfold maxLen at hm2 hcm1
  obtain ⟨m, hm⟩ : ∃ m : Nat, m = min l.length 40 := ⟨_, rfl⟩
  have hmif : (if 40 < (l.length : Int) then (40 : Int) else (l.length : Int)) = (m : Int) := by split <;> omega
  have hml : m ≤ l.length := by omega
  have hm40 : m ≤ 40 := by omega
  have hNl : (l.take m).length = m := by rw [List.length_take]; omega
  have hN : OldN w a0 (l.take m) := OldN.of (by
    intro j v hj
    refine hcl j v ?_
    unfold numc at hj ⊢
    rw [List.getElem?_map, List.getElem?_take] at hj
    rw [List.getElem?_map]
    split at hj
    · exact hj
    · simp at hj)
  have hNu : ∀ y ∈ l.take m, y < 18446744073709551616 := fun y hy => hlu y (List.mem_of_mem_take hy)
  have hsl := fun w => slice_head (P := Try.prog) (t := 22) w Try.underlying22 (fun w => by first | rfl | kernel_rfl) a0 l.length cap0 m (by omega)
  have hm0' : a0 = none → m = 0 ∧ cap0 = 0 := fun h => by obtain ⟨h1, h2⟩ := hn0 h; omega
  have HM0 := Lib.hid hm0'
  generalize hNN : l.take m = N at *
  have HN := Lib.hid hN
  have HNL := Lib.hid hNl
  have HNU := Lib.hid hNu
  obtain ⟨n1, hn1⟩ : ∃ n1, n1 = l3.length := ⟨_, rfl⟩
  obtain ⟨nr, hnr⟩ : ∃ nr, nr = l1.length := ⟨_, rfl⟩
  obtain ⟨nl, hnl⟩ : ∃ nl, nl = l.length := ⟨_, rfl⟩
  rw [← hn1] at hc2 ⊢
  rw [← hnr] at HSOME ⊢
  rw [← hnl] at hlc hmif hml hsl ⊢
  have HN1 := Lib.hid hn1
  have HFR := Lib.hid hfr
  have hmc : m ≤ cap0 := by omega
  have HMC := Lib.hid hmc
  clear hsome hat hok hn1 hnr hnl hN hNl hNu hNN hm0' hn0 hlu hcl hat0 hu0 hc0 hm hm0 hfr hmc
  go_enter Try.func3, Try.ntmps3
  go_wp2_with fail
  refine (awake17_any _).mono ?_
  rintro e w3 ⟨rfl, hb⟩
  have HB := Lib.hid hb
  clear hb
  go_wp2_with fail
  refine (HSOME.out _ HB.out).mono ?_
  rintro r w4 ⟨sa, sc, rfl, hown, hb4⟩
  obtain ⟨sa', sc', hse, hrow, hfr⟩ := RowG.of_own hown
  simp only [Value.slice.injEq, true_and] at hse
  obtain ⟨rfl, rfl⟩ := hse
  have hLl := someL_len l1
  have hLo := someL_ok l1
  generalize someL l1 = L at *
  have HLO := Lib.hid hLo
  have HB4 := Lib.hid (below_on HB.out hb4)
  have HROW := Lib.hid hrow
  clear hown hfr hrow hLo HSOME hb4
  obtain ⟨nL, hnL⟩ : ∃ nL, nL = L.length := ⟨_, rfl⟩
  have HNL' := Lib.hid hnL
  have hon := onew_any (Own.nil (w0 := w) HB4.out) a0 cap0 N (HN.out.at HB4.out) (by rw [HNL.out]; exact HM0.out) (by rw [HNL.out]; omega)
  rw [HNL.out] at hon
  rw [← hnL] at hLl ⊢
  have HON := Lib.hid hon
  clear hon hnL
  go_wp2_with fail
  refine HON.out.mono ?_
  rintro r w5 ⟨p0, rfl, o5, hb5⟩
  have h6 := o5.alloc (rcells ⟨N, [], false, []⟩ a0 cap0 none 0 none 0) 31 (b := w5.heap.size) rfl
  unfold rcells at h6
  simp only [List.length_nil] at h6
  rw [HNL.out] at h6
  have HO6 := Lib.hid h6
  have HB6 := Lib.hid (below_on hb5 (below_alloc1 w5 (.cells #[.slice a0 m cap0, .slice none 0 0, .bool false, .bool false, .slice none 0 0] 31)))
  clear h6 o5 hb5 HON
  go_upto_if 38 with fail
  generalize w5.alloc (.cells #[.slice a0 m cap0, .slice none 0 0, .bool false, .bool false, .slice none 0 0] 31) = W6 at *
  generalize w5.heap.size = bx at *
  obtain ⟨LL, hLL⟩ : ∃ LL, LL = if a2 then L else [] := ⟨_, rfl⟩
  obtain ⟨NN, hNN⟩ : ∃ NN, NN = if a2 then [] else N := ⟨_, rfl⟩
  have HLL := Lib.hid hLL
  have HNN := Lib.hid hNN
  clear hLL hNN
  go_cut [12] (fun c wx => ∃ p, c = .pointer (some ⟨p, 0, none⟩) ∧ Hid (Init w wx p bx LL NN a2))
  case first =>
    cases a2 with
    | false =>
      have hin : Init w W6 p0 bx LL NN false := by
        rw [HLL.out, HNN.out]
        simp only [Bool.false_eq_true, if_false]
        have h7 := (HO6.out.add (Below.refl _ _) (A := PoolG [(none, [])]) (F := []) ⟨by simp, fun r hr => by
          simp at hr; subst hr
          exact ⟨fun x hx => by simp [blk] at hx, CellsAt.nil _ _⟩⟩ (by simp))
        refine ⟨⟨N, [], false, []⟩, _, a0, cap0, none, 0, by unfold rcells; rw [HNL.out]; exact h7, ⟨HN.out, by rw [HNL.out]; exact HMC.out, by simp [recCells], by simp, by simp [recCells], by simp⟩, rfl, rfl, (fun h => by cases h), fun _ => ⟨rfl, rfl, rfl, by simp⟩⟩
      have HIN := Lib.hid hin
      clear hin HO6 HB6
      go_wp2_with fail
      go_meet
      exact ⟨p0, rfl, HIN⟩
    | true =>
      have hbw : Below w4.heap.size w4 W6 := HB6.out
      have htn := tnew_any HO6.out sa sc L (HROW.out.cells.below hbw) (nil_noneG HROW.out) (by have := HNL'.out; omega)
      rw [← HNL'.out] at htn
      have HTN := Lib.hid htn
      have htold := fun w' (hb : Below w4.heap.size w4 w') => told_any sa sc L w' (by have := HNL'.out; omega) (cells_recs (HROW.out.cells.below hb))
      rw [← HNL'.out] at htold
      have HTOLD := Lib.hid htold
      clear htn htold hbw
      go_wp2_with fail
      refine HTN.out.mono ?_
      rintro r w7 ⟨p1, rfl, o7, hb7⟩
      have HO7 := Lib.hid o7
      have HB7 := Lib.hid (below_on HB6.out hb7)
      clear o7 hb7 HTN HO6
      go_wp2_with fail
      refine (HTOLD.out _ HB7.out).mono ?_
      rintro r w8 ⟨ta, tc, rfl, k1, k2, k3⟩
      have h8 := HO7.out.add k3 (A := PoolG [(ta, recCells L), (none, [])]) (F := blk ta) ⟨by rw [HNL'.out] at k1; exact k1.lt, fun r hr => by
        simp at hr
        rcases hr with rfl | rfl
        · exact ⟨fun x hx => hx, k1.cells⟩
        · exact ⟨fun x hx => by simp [blk] at hx, CellsAt.nil _ _⟩⟩ k2
      have h9 := (((((h8.pick 2 rfl).set 0 (.slice none 0 0)).set 1 (.slice ta nL tc)).set 2 (.bool true)).set 3 (.bool false)).set 4 (.slice none 0 0)
      have htc := k1.2.1
      have hin : Init w (((((w8.setCell ⟨bx, 0, none⟩ (.slice none 0 0)).setCell ⟨bx, 1, none⟩ (.slice ta nL tc)).setCell ⟨bx, 2, none⟩ (.bool true)).setCell ⟨bx, 3, none⟩ (.bool false)).setCell ⟨bx, 4, none⟩ (.slice none 0 0)) p1 bx LL NN true := by
        rw [HLL.out, HNN.out]
        simp only [if_true]
        refine ⟨⟨[], L, true, []⟩, _, none, 0, ta, tc, by unfold rcells; rw [← HNL'.out]; exact ((h9.pick 3 rfl).drop).pick 1 rfl, ⟨.inl rfl, by simp, by simp, by have := HNL'.out; simp; omega, by simp [recCells], by simp⟩, rfl, rfl, fun _ => ⟨rfl, rfl, rfl, by simp⟩, fun h => by cases h⟩
      have HIN := Lib.hid hin
      obtain ⟨y0, f0⟩ := h8.cel 2 rfl 0 _ rfl
      obtain ⟨y1, f1⟩ := h8.cel 2 rfl 1 _ rfl
      obtain ⟨y2, f2⟩ := h8.cel 2 rfl 2 _ rfl
      obtain ⟨y3, f3⟩ := h8.cel 2 rfl 3 _ rfl
      obtain ⟨y4, f4⟩ := h8.cel 2 rfl 4 _ rfl
      clear hin h8 h9 k1 k2 k3 HTOLD HO7 HB7 HB6
      go_wp2_with fail
      go_meet
      exact ⟨p1, rfl, HIN⟩
  case rest =>
    obtain ⟨p, rfl, hin⟩ := hcut
    obtain ⟨X, rs, na, nc, ta, tc, ho, hX, hP⟩ := hin.out
    have hst : ∀ wx b, b = wc.heap.size + 1 → wx = ((wc.alloc (.cells #[] 37)).alloc (.cells #[.slice (some ⟨wc.heap.size, 0, none⟩) 0 0] 26)) → St w wx p bx b LL NN a2 false 0 0 := by
      intro wx b hb hx
      subst hx
      have h1 := ho.add (below_alloc1 wc (.cells #[] 37)) (A := RowGA 2 (some ⟨wc.heap.size, 0, none⟩) 0 0 (recCells [])) (F := [wc.heap.size]) ⟨rfl, RowG.zero (by simp)⟩ (by simp)
      have h2 := h1.alloc [.slice (some ⟨wc.heap.size, 0, none⟩) 0 0] 26 (b := b) (by rw [hb]; simp)
      have h3 : Own w _ (EyeA b [] :: _) := Own.eyeBack (seen := []) h2
      exact ⟨[], X, rs, na, nc, ta, tc, none, 0, [], ((h3.pick 3 rfl).pick 3 rfl).pick 3 rfl, hX, hP, by simp, (fun h => by cases h), fun _ => rfl⟩
    have HST := Lib.hid (hst _ _ rfl rfl)
    clear hst ho hX hP hin HO6 HB6
    go_wp2_with fail
    generalize (wc.alloc (.cells #[] 37)).alloc (.cells #[.slice (some ⟨wc.heap.size, 0, none⟩) 0 0] 26) = W9 at *
    generalize wc.heap.size + 1 = bs at *
    go_loopw [15, 16] (fun d c wr => ∃ (k : Nat) (wd : Int), k ≤ 40 ∧ k ≤ n1 ∧ c = .int .i64 k ∧ d = .int .i64 wd ∧ Hid (St w wr p bx bs LL NN a2 (decide (0 ≤ a4 ∧ a4 < (k : Int))) k wd)) (fun _ c _ => 40 - (intOf c).toNat)
    case atStart =>
      have e : decide (0 ≤ a4 ∧ a4 < ((0 : Nat) : Int)) = false := decide_eq_false (by omega)
      exact ⟨0, 0, by omega, by omega, rfl, rfl, by rw [e]; exact HST⟩
    case round =>
      obtain ⟨k, wd, hk40, hkn, rfl, rfl, hr⟩ := hrel
      clear HST
      by_cases hlt : k < n1 ∧ k < 40
      · obtain ⟨h1, h2⟩ := hlt
        obtain ⟨t, X, rs, na, nc, xa, xc, ka, kc, seen, ho, hX, hP, htl, hs1, hs0⟩ := hr.out
        have HX := Lib.hid hX
        have HP := Lib.hid hP
        have HTL := Lib.hid htl
        have HO := Lib.hid ho
        have HS := Lib.hid (And.intro hs1 hs0)
        obtain ⟨g4, -⟩ := ho.cel 1 rfl 4 _ rfl
        clear ho hX hP htl hs1 hs0 hr
        obtain ⟨on2, hon2⟩ : ∃ o, o = decide (0 ≤ a4 ∧ a4 < ((k + 1 : Nat) : Int)) := ⟨_, rfl⟩
        have HON2 := Lib.hid hon2
        clear hon2
        go_upto_if 57 with fail
        go_cut [15] (fun d wx => ∃ wd' : Int, d = .int .i64 wd' ∧ Hid (Own w wx [PoolG rs, CelA bx (rcells X na nc xa xc ka kc), SrcA p (kdOf a2) ⟨LL, NN, t⟩ (eyeV on2 bs), EyeA bs seen] ∧ (on2 = true → ∃ wn : Nat, wd' = (wn : Int) ∧ wn ≤ t.length ∧ seen = t.drop wn) ∧ (on2 = false → seen = [])))
        case first =>
          by_cases hq : (k : Int) = a4
          · have hmf : ∀ (fn : Fn) (first cap : Array Value) (w : World), (Instr.makeFunc fn first cap).run Try.prog w = .ok (.func fn first cap) w := fun _ _ _ _ => rfl
            have e0 : decide (0 ≤ a4 ∧ a4 < (k : Int)) = false := decide_eq_false (by omega)
            have e1 : on2 = true := by rw [HON2.out]; exact decide_eq_true (by omega)
            rw [e0] at HO HS
            subst e1
            have hwt := swatch_any 10 #[.pointer (some ⟨bs, 0, none⟩)] (HO.out.pick 2 rfl)
            have HWT := Lib.hid hwt
            have hseen := HS.out.2 rfl
            have HSE := Lib.hid hseen
            have htk : X.taken.length = t.length := by rw [HP.out.1]
            have HTK := Lib.hid htk
            clear hwt hseen htk e0
            have hqq : ((k : Int) == a4) = true := by simp [hq]
            have HQ := Lib.hid hq
            clear hq
            go_wp2_with fail
            refine HWT.out.mono ?_
            rintro r w5 ⟨rfl, ho⟩
            have HEND : Hid (Own w w5 [PoolG rs, CelA bx (rcells X na nc xa xc ka kc), SrcA p (kdOf a2) ⟨LL, NN, t⟩ (eyeV true bs), EyeA bs seen] ∧ (true = true → ∃ wn : Nat, (X.taken.length : Int) = (wn : Int) ∧ wn ≤ t.length ∧ seen = t.drop wn) ∧ (true = false → seen = [])) :=
              Lib.hid ⟨(ho.pick 2 rfl).pick 2 rfl, fun _ => ⟨t.length, by rw [HTK.out], Nat.le_refl _, by rw [HSE.out]; simp⟩, fun h => by cases h⟩
            clear ho HWT HO HS
            go_wp2_with fail
            go_meet
            exact ⟨_, rfl, HEND⟩
          · have hqq : ((k : Int) == a4) = false := by simp [hq]
            have e1 : decide (0 ≤ a4 ∧ a4 < (k : Int)) = on2 := by
              rw [HON2.out]; apply decide_eq_decide.2; constructor <;> (intro h; omega)
            rw [e1] at HO HS
            have HEND := Lib.hid (And.intro HO.out (And.intro HS.out.1 HS.out.2))
            clear e1 HS HO hq
            go_wp2_with fail
            go_meet
            exact ⟨_, rfl, HEND⟩
        case rest =>
          obtain ⟨wd', rfl, hh⟩ := hcut
          obtain ⟨ho, hs1, hs0⟩ := hh.out
          have hsn : seen.length ≤ t.length := by
            cases hon : on2 with
            | true => obtain ⟨wn, -, -, h⟩ := hs1 hon; rw [h, List.length_drop]; omega
            | false => rw [hs0 hon]; simp
          have HSN := Lib.hid hsn
          have HS2 := Lib.hid (And.intro hs1 hs0)
          have HO2 := Lib.hid ho
          clear ho hs1 hs0 hh hsn HO HS
          obtain ⟨ab, ao, rfl, ga, gb⟩ := HAT.out k (by have := HN1.out; omega)
          have hkok := HOK.out _ (List.getElem_mem (by have := HN1.out; omega : k < l3.length))
          generalize l3[k]'(by have := HN1.out; omega) = q at ga gb hkok
          obtain ⟨qk, qn⟩ := q
          simp only at ga gb hkok
          obtain ⟨-, -, hq3⟩ := hkok
          have hfit := fun w' => fit_any w' qk qn (by omega)
          have HFIT := Lib.hid hfit
          have hbw := HO2.out.bel
          have ga' := cell_below ga hbw
          have gb' := cell_below gb hbw
          clear hfit ga gb hq3 hbw g4
          go_wp2_with fail
          refine (HFIT.out _).mono ?_
          rintro r w4 ⟨rfl, hb4⟩
          generalize hfn : fitN qn = fn
          have hfl : fn ≤ 1099511627776 := by rw [← hfn]; exact fitN_le qn
          generalize fitK qk = fk at *
          have hLL : (∀ r ∈ LL, r.2 < 18446744073709551616) ∧ (∀ y ∈ NN, y < 18446744073709551616) ∧ LL.length + NN.length ≤ 80 ∧ Src.fits ⟨LL, NN, t⟩ (kdOf a2) := by
            have e1 := HNL'.out
            have e2 := HNL.out
            rw [HLL.out, HNN.out]
            cases a2 with
            | true => exact ⟨fun r hr => by have := (HLO.out r (by simpa using hr)).2.2; omega, by simp, by simp; omega, by simp [Src.fits, kdOf]⟩
            | false => exact ⟨by simp, fun y hy => HNU.out y (by simpa using hy), by simp; omega, by simp [Src.fits, kdOf]⟩
          have HLLN := Lib.hid hLL
          have hfine : Src.fine ⟨LL, NN, t⟩ (kdOf a2) := by
            have := HP.out.left
            exact ⟨⟨hLL.1, hLL.2.1⟩, hLL.2.2.2, by have := hLL.2.2.1; simp only [Src.many]; omega, by simp only at this ⊢; omega, by have := HTL.out; simp only; omega⟩
          have hd := ldrawe_any (((HO2.out.step hb4).pick 3 rfl).pick 3 rfl) hfine (by have := HSN.out; have := HTL.out; omega) fk fn (by omega)
          have HD := Lib.hid hd
          clear hd hb4 hfn hfine HFIT ga' gb' hLL HO2
          go_wp2_with fail
          refine HD.out.mono ?_
          rintro r w5 ⟨S', v, e, u, hl, rfl, o5⟩
          obtain ⟨t', rfl, htl', ⟨dd, hdd⟩, hP', hv, he, hu2, hu0⟩ := HP.out.step hl
          have hse : seenBy on2 seen ⟨LL, NN, t⟩ ⟨LL, NN, t'⟩ = if on2 then seen ++ t'.drop t.length else seen := rfl
          rw [hse] at o5
          have hnx : (on2 = true → ∃ wn : Nat, wd' = (wn : Int) ∧ wn ≤ t'.length ∧ (if on2 then seen ++ t'.drop t.length else seen) = t'.drop wn) ∧ (on2 = false → (if on2 then seen ++ t'.drop t.length else seen) = []) := by
            refine ⟨fun h => ?_, fun h => ?_⟩
            · obtain ⟨wn, c1, c2, c3⟩ := HS2.out.1 h
              refine ⟨wn, c1, by rw [hdd, List.length_append]; omega, ?_⟩
              rw [if_pos h, c3, hdd, List.drop_append_of_le_length c2]; simp
            · rw [if_neg (by simp [h])]; exact HS2.out.2 h
          generalize (if on2 then seen ++ t'.drop t.length else seen) = seen' at o5 hnx
          obtain ⟨u0, u1, u2, u3, u4, hu⟩ : ∃ u0 u1 u2 u3 u4, u = uv u0 u1 u2 u3 u4 := by
            by_cases h : e = 2
            · obtain ⟨r, tl, _, h⟩ := hu2 h; exact ⟨_, _, _, _, _, h⟩
            · exact ⟨0, 0, 0, 0, 0, hu0 h⟩
          subst hu
          have o6 := o5.alloc (uv u0 u1 u2 u3 u4) 44 (b := w5.heap.size) rfl
          have HO6 : Hid (Own w (w5.alloc (.cells (uv u0 u1 u2 u3 u4).toArray 44)) [PoolG rs, CelA bx (rcells X na nc xa xc ka kc), CelA w5.heap.size (uv u0 u1 u2 u3 u4), SrcA p (kdOf a2) ⟨LL, NN, t'⟩ (eyeV on2 bs), EyeA bs seen']) := Lib.hid ((o6.pick 4 rfl).pick 4 rfl)
          have HNX := Lib.hid hnx
          have HP2 := Lib.hid hP'
          have HVE := Lib.hid (And.intro hv he)
          have HU := Lib.hid (And.intro hu2 hu0)
          have HTL2 := Lib.hid htl'
          clear o5 o6 hl HD hse hnx hP' hv he hu2 hu0 htl' hdd HS2 HSN
          unfold uv at HO6 ⊢
          go_upto_region 18 with fail
          generalize w5.alloc (.cells #[.int .i64 u0, .int .i64 u1, .int .i64 u2, .int .i64 u3, .int .u64 u4] 44) = W6 at *
          generalize w5.heap.size = bu at *
          obtain ⟨g0, -⟩ := HO6.out.cel 1 rfl 0 _ rfl
          obtain ⟨g1, -⟩ := HO6.out.cel 1 rfl 1 _ rfl
          obtain ⟨g2, -⟩ := HO6.out.cel 1 rfl 2 _ rfl
          obtain ⟨g3, -⟩ := HO6.out.cel 1 rfl 3 _ rfl
          obtain ⟨g4, -⟩ := HO6.out.cel 1 rfl 4 _ rfl
          have hrd := rdraw_any W6 X na xa ka nc xc kc (HX.out.rows HO6.out 0 rfl) (by
              obtain ⟨c1, c2, c3, c4⟩ := HP.out
              obtain ⟨d1, d2, -⟩ := HLLN.out
              cases a2 with
              | true =>
                obtain ⟨_, k2, k3, _⟩ := c3 rfl
                exact ⟨fun r hr => d1 r (by rw [k3] at hr; exact List.mem_of_mem_drop hr), fun y hy => by rw [k2] at hy; exact absurd hy (by simp)⟩
              | false =>
                obtain ⟨_, k2, k3, _⟩ := c4 rfl
                exact ⟨fun r hr => by rw [k2] at hr; exact absurd hr (by simp), fun y hy => d2 y (by rw [k3] at hy; exact List.mem_of_mem_drop hy)⟩) (by
              rw [HP.out.1]; have := HTL.out; omega) fk fn (by omega)
          have HRD := Lib.hid hrd
          unfold rval at HRD
          clear hrd
          go_wp2_with fail
          refine HRD.out.mono ?_
          intro r w7 hpost
          obtain ⟨rs', na', nc', ta', tc', ka', kc', rfl, o7, hsub, hX'⟩ := HX.out.after HO6.out hpost
          rw [← HVE.out.1, ← HVE.out.2]
          have o8 := o7.alloc (rcells (rdraw X fk fn).1 na' nc' ta' tc' ka' kc') 31 (b := w7.heap.size) rfl
          have HX2 := Lib.hid hX'
          unfold rval
          generalize (rdraw X fk fn).1 = X' at *
          have HO8 : Hid (Own w (w7.alloc (.cells (rcells X' na' nc' ta' tc' ka' kc').toArray 31)) [PoolG rs', CelA bx (rcells X na nc xa xc ka kc), CelA bu [.int .i64 u0, .int .i64 u1, .int .i64 u2, .int .i64 u3, .int .u64 u4], SrcA p (kdOf a2) ⟨LL, NN, t'⟩ (eyeV on2 bs), EyeA bs seen', CelA w7.heap.size (rcells X' na' nc' ta' tc' ka' kc')]) := Lib.hid (((((o8.pick 5 rfl).pick 5 rfl).pick 5 rfl).pick 5 rfl).pick 5 rfl)
          clear o8 o7 hpost hX' HRD HVE HO6 g0 g1 g2 g3 g4
          unfold rcells at HO8
          have hxt : X'.taken = t' := HP2.out.1
          rw [hxt] at HO8 ⊢
          have hleft := HP2.out.left
          have hrows : CellsAt (w7.alloc (.cells #[.slice na' X'.nums.length nc', .slice ta' X'.tape.length tc', .bool X'.is, .bool false, .slice ka' t'.length kc'] 31)) ka' (recCells t') := by
            have := (HO8.out.poolGGet 0 rfl HX2.out.2.2.2.2.1).1
            simp only at this
            rw [hxt] at this
            exact this
          have HROWS := Lib.hid hrows
          have HXT := Lib.hid hxt
          clear hrows hxt
          go_upto_region 19 with fail
          generalize w7.alloc (.cells #[.slice na' X'.nums.length nc', .slice ta' X'.tape.length tc', .bool X'.is, .bool false, .slice ka' t'.length kc'] 31) = W8 at *
          generalize w7.heap.size = bw at *
          have htlen : t'.length ≤ 41 := by have := HTL2.out; have := HTL.out; omega
          have htaken := fun wx (hb : Below W8.heap.size W8 wx) => staken_any ((HO8.out.pick 3 rfl).step hb) (by simp only; omega)
          simp only at htaken
          have HTAKEN := Lib.hid htaken
          have hlf := fun wx (hb : Below W8.heap.size W8 wx) => sleft_any ((HO8.out.pick 3 rfl).step hb) (by have := HLLN.out.2.2.1; simp only [Src.many]; omega) (by simp only at hleft ⊢; omega)
          have el : ((Src.many ⟨LL, NN, t'⟩ - (Src.taken ⟨LL, NN, t'⟩).length : Nat) : Int) = (X'.tape.length : Int) + (X'.nums.length : Int) := by simp only at hleft ⊢; omega
          rw [el] at hlf
          have hws : IntKind.i64.wrap ((X'.tape.length : Int) + (X'.nums.length : Int)) = (X'.tape.length : Int) + (X'.nums.length : Int) := by
            have := HLLN.out.2.2.1
            simp only [Src.many] at hleft
            rw [IntKind.wrap_i64]; omega
          have HLEFT := Lib.hid hlf
          have HTLEN := Lib.hid htlen
          clear htaken hlf el hleft htlen
          obtain ⟨c0, -⟩ := HO8.out.cel 5 rfl 0 _ rfl
          obtain ⟨c1, -⟩ := HO8.out.cel 5 rfl 1 _ rfl
          obtain ⟨c4, -⟩ := HO8.out.cel 5 rfl 4 _ rfl
          have SCB : Hid (∀ wx, Below W8.heap.size W8 wx → (fun wx => wx.cell? ⟨bw, 0, none⟩ = some (.slice na' X'.nums.length nc') ∧ wx.cell? ⟨bw, 1, none⟩ = some (.slice ta' X'.tape.length tc') ∧ wx.cell? ⟨bw, 4, none⟩ = some (.slice ka' t'.length kc')) wx) := Lib.hid (fun wx hb => ⟨cell_below c0 hb, cell_below c1 hb, cell_below c4 hb⟩)
          clear c0 c1 c4
          refine wp_region_lexH (fun wx => wx.cell? ⟨bw, 0, none⟩ = some (.slice na' X'.nums.length nc') ∧ wx.cell? ⟨bw, 1, none⟩ = some (.slice ta' X'.tape.length tc') ∧ wx.cell? ⟨bw, 4, none⟩ = some (.slice ka' t'.length kc')) 28 (Array.replicate 28 false) (by kernel_rfl) (by kernel_rfl) ?_
          have b0 : Below W8.heap.size W8 W8.drew := below_drew1 W8
          generalize W8.drew = wd at *
          refine wpAnyH_seg 0 10 _ #[true, true, true, true, true, true, true, true, true, true, false, false, false, false, false, false, false, false, false, false, false, false, false, false, false, false, false, false] 18 (by kernel_rfl) noPanic_put (SCB.out _ b0) (by kernel_rfl) ?_
          simp only [List.take_succ_cons, List.take_zero, List.drop_zero]
          repeat (first
            | (refine wpSegH_no (by rfl) ?_; simp only [Act.put, List.setIfInBounds_toArray, List.set_cons_zero, List.set_cons_succ])
            | (refine wpSegH_yes (by rfl) ?_; apply Exists.intro; apply And.intro; (· (intro wx hS; (try dsimp only at hS); go_simp; first | done | with_reducible rfl)); simp only [Act.put, List.setIfInBounds_toArray, List.set_cons_zero, List.set_cons_succ]))
          refine wpSegH_nil ?_
          refine wpAnyH_seg 11 2 _ #[true, true, true, true, true, true, true, true, true, true, false, true, true, false, false, false, false, false, false, false, false, false, false, false, false, false, false, false] 16 (by kernel_rfl) noPanic_put (SCB.out _ b0) (by kernel_rfl) ?_
          simp only [List.take_succ_cons, List.take_zero, List.drop_succ_cons, List.drop_zero]
          repeat (first
            | (refine wpSegH_no (by rfl) ?_; simp only [Act.put, List.setIfInBounds_toArray, List.set_cons_zero, List.set_cons_succ])
            | (refine wpSegH_yes (by rfl) ?_; apply Exists.intro; apply And.intro; (· (intro wx hS; (try dsimp only at hS); go_simp; first | done | with_reducible rfl)); simp only [Act.put, List.setIfInBounds_toArray, List.set_cons_zero, List.set_cons_succ]))
          refine wpSegH_nil ?_
          refine wpAnyH_one 10 _ #[true, true, true, true, true, true, true, true, true, true, true, true, true, false, false, false, false, false, false, false, false, false, false, false, false, false, false, false] 15 (by kernel_rfl) (fun K hK => ?_)
          have HKK := Lib.hid hK
          clear hK
          simp only [List.drop_succ_cons, List.drop_zero]
          refine headH_mk (by rfl) ?_
          go_simp
          refine (HTAKEN.out _ b0).mono ?_
          rintro r w10 ⟨ra, rc, rfl, q1, q2, hb1⟩
          have b1 : Below W8.heap.size W8 w10 := below_on b0 hb1
          refine HKK.out _ _ (SCB.out _ b1) ?_
          clear HKK K
          refine wpAnyH_one 13 _ #[true, true, true, true, true, true, true, true, true, true, true, true, true, true, false, false, false, false, false, false, false, false, false, false, false, false, false, false] 14 (by kernel_rfl) (fun K hK => ?_)
          have HKK := Lib.hid hK
          clear hK
          simp only [List.drop_succ_cons, List.drop_zero]
          refine headH_mk (by rfl) ?_
          go_simp
          refine (are_eq ra ka' rc kc' t' w10 (by have := HTLEN.out; omega) (cells_recs q1.cells) (cells_recs (HROWS.out.below b1))).mono ?_
          rintro r w11 ⟨rfl, hb2⟩
          have b2 : Below W8.heap.size W8 w11 := below_on b1 hb2
          refine HKK.out _ _ (SCB.out _ b2) ?_
          clear HKK K
          refine wpAnyH_seg 14 4 _ #[true, true, true, true, true, true, true, true, true, true, true, true, true, true, true, true, true, true, false, false, false, false, false, false, false, false, false, false] 10 (by kernel_rfl) noPanic_put (SCB.out _ b2) (by kernel_rfl) ?_
          simp only [List.take_succ_cons, List.take_zero, List.drop_succ_cons, List.drop_zero]
          repeat (first
            | (refine wpSegH_no (by rfl) ?_; simp only [Act.put, List.setIfInBounds_toArray, List.set_cons_zero, List.set_cons_succ])
            | (refine wpSegH_yes (by rfl) ?_; apply Exists.intro; apply And.intro; (· (intro wx hS; (try dsimp only at hS); go_simp; first | done | with_reducible rfl)); simp only [Act.put, List.setIfInBounds_toArray, List.set_cons_zero, List.set_cons_succ]))
          refine wpSegH_nil ?_
          refine wpAnyH_seg 19 7 _ #[true, true, true, true, true, true, true, true, true, true, true, true, true, true, true, true, true, true, false, true, true, true, true, true, true, true, false, false] 3 (by kernel_rfl) noPanic_put (SCB.out _ b2) (by kernel_rfl) ?_
          simp only [List.take_succ_cons, List.take_zero, List.drop_succ_cons, List.drop_zero]
          repeat (first
            | (refine wpSegH_no (by rfl) ?_; simp only [Act.put, List.setIfInBounds_toArray, List.set_cons_zero, List.set_cons_succ])
            | (refine wpSegH_yes (by rfl) ?_; apply Exists.intro; apply And.intro; (· (intro wx hS; (try dsimp only at hS); go_simp; first | done | with_reducible rfl)); simp only [Act.put, List.setIfInBounds_toArray, List.set_cons_zero, List.set_cons_succ]))
          refine wpSegH_nil ?_
          refine wpAnyH_one 18 _ #[true, true, true, true, true, true, true, true, true, true, true, true, true, true, true, true, true, true, true, true, true, true, true, true, true, true, false, false] 2 (by kernel_rfl) (fun K hK => ?_)
          have HKK := Lib.hid hK
          clear hK
          simp only [List.drop_succ_cons, List.drop_zero]
          refine headH_mk (by rfl) ?_
          go_simp
          refine (HLEFT.out _ b2).mono ?_
          rintro r w12 ⟨rfl, m12, rfl⟩
          have b3 : Below W8.heap.size W8 (w11.drewN m12) := below_drewN b2 m12
          refine HKK.out _ _ (SCB.out _ b3) ?_
          clear HKK K
          refine wpAnyH_seg 26 2 _ #[true, true, true, true, true, true, true, true, true, true, true, true, true, true, true, true, true, true, true, true, true, true, true, true, true, true, true, true] 0 (by kernel_rfl) noPanic_put (SCB.out _ b3) (by kernel_rfl) ?_
          simp only [List.take_succ_cons, List.take_zero, List.drop_succ_cons, List.drop_zero]
          repeat (first
            | (refine wpSegH_no (by rfl) ?_; simp only [Act.put, List.setIfInBounds_toArray, List.set_cons_zero, List.set_cons_succ])
            | (refine wpSegH_yes (by rfl) ?_; apply Exists.intro; apply And.intro; (· (intro wx hS; (try dsimp only at hS); go_simp; first | done | with_reducible rfl)); simp only [Act.put, List.setIfInBounds_toArray, List.set_cons_zero, List.set_cons_succ]))
          refine wpSegH_nil ?_
          refine wpAnyH_done (by kernel_rfl) (NoPanic.normal ?_) _
          have HO9 := Lib.hid (HO8.out.step b3)
          generalize w11.drewN m12 = W9' at *
          clear HO8 HROWS HTAKEN HLEFT SCB b0 b1 b2 b3 q1 q2 hb1 hb2
          go_upto_region 21 with fail
          obtain ⟨z0, -⟩ := HO9.out.cel 2 rfl 0 _ rfl
          obtain ⟨z1, -⟩ := HO9.out.cel 2 rfl 1 _ rfl
          obtain ⟨z2, -⟩ := HO9.out.cel 2 rfl 2 _ rfl
          obtain ⟨z3, -⟩ := HO9.out.cel 2 rfl 3 _ rfl
          obtain ⟨z4, -⟩ := HO9.out.cel 2 rfl 4 _ rfl
          obtain ⟨c1, -⟩ := HO9.out.cel 5 rfl 1 _ rfl
          obtain ⟨c4, -⟩ := HO9.out.cel 5 rfl 4 _ rfl
          have hfin : ∀ wx, Below W9'.heap.size W9' wx → St w (((((wx.setCell ⟨bx, 0, none⟩ (.slice na' X'.nums.length nc')).setCell ⟨bx, 1, none⟩ (.slice ta' X'.tape.length tc')).setCell ⟨bx, 2, none⟩ (.bool X'.is)).setCell ⟨bx, 3, none⟩ (.bool false)).setCell ⟨bx, 4, none⟩ (.slice ka' t'.length kc')) p bx bs LL NN a2 (decide (0 ≤ a4 ∧ a4 < ((k + 1 : Nat) : Int))) (k + 1) wd' := by
            intro wx hb
            rw [← HON2.out]
            have h1 := (((HO9.out.step hb).pick 5 rfl).drop.pick 2 rfl).drop.pick 1 rfl
            have h2 := ((((h1.set 0 (.slice na' X'.nums.length nc')).set 1 (.slice ta' X'.tape.length tc')).set 2 (.bool X'.is)).set 3 (.bool false)).set 4 (.slice ka' t'.length kc')
            refine ⟨t', X', rs', na', nc', ta', tc', ka', kc', seen', ?_, HX2.out, HP2.out, ?_, HNX.out.1, HNX.out.2⟩
            · unfold rcells
              rw [HXT.out]
              exact h2.pick 1 rfl
            · have := HTL2.out; have := HTL.out; omega
          have HFIN := Lib.hid hfin
          clear hfin
          by_cases he : e = 2
          · obtain ⟨⟨t0, tv⟩, tl, htp, huu⟩ := HU.out.1 he
            simp only [uv, List.cons.injEq, Value.int.injEq, true_and, and_true] at huu
            obtain ⟨q0, q1, q2, q3, q4⟩ := huu
            subst u0 u1 u2 u3 u4
            have htrow := (HO9.out.poolGGet 0 rfl HX2.out.2.2.1).1
            simp only at htrow
            obtain ⟨rb, ro, rfl, e0, e1⟩ := rec_at htrow 0 (by rw [htp]; simp)
            simp only [htp, List.getElem_cons_zero, Nat.zero_mul, Nat.add_zero] at e0 e1
            have hpos : 0 < X'.tape.length := by rw [htp]; simp
            generalize X'.tape.length = tlen at *
            have hnq : ∀ w, (binOp .neq 37 (.agg #[.int .i64 t0, .int .u64 (tv : Int)]) (.agg #[.int .i64 t0, .int .u64 (tv : Int)])).run Try.prog w = .ok (.bool false) w := fun _ => by
              simp [go_sem]
            have hee : (e == 2) = true := by simp [he]
            have hcn : (if fn < 1 then 1 else fn) = (cnt fn : Int) := by unfold cnt; split <;> omega
            have SCB : Hid (∀ wx, Below W9'.heap.size W9' wx → (fun wx => wx.cell? ⟨bu, 0, none⟩ = some (.int .i64 (t'.length : Int)) ∧ wx.cell? ⟨bu, 1, none⟩ = some (.int .i64 fk) ∧ wx.cell? ⟨bu, 2, none⟩ = some (.int .i64 (cnt fn : Int)) ∧ wx.cell? ⟨bu, 3, none⟩ = some (.int .i64 t0) ∧ wx.cell? ⟨bu, 4, none⟩ = some (.int .u64 (tv : Int)) ∧ wx.cell? ⟨bw, 1, none⟩ = some (.slice (some ⟨rb, ro, none⟩) tlen tc') ∧ wx.cell? ⟨bw, 4, none⟩ = some (.slice ka' t'.length kc') ∧ wx.cell? ⟨rb, ro, none⟩ = some (.int .i64 t0) ∧ wx.cell? ⟨rb, ro + 1, none⟩ = some (.int .u64 (tv : Int))) wx) := Lib.hid (fun wx hb => ⟨cell_below z0 hb, cell_below z1 hb, cell_below z2 hb, cell_below z3 hb, cell_below z4 hb, cell_below c1 hb, cell_below c4 hb, cell_below e0 hb, cell_below e1 hb⟩)
            clear z0 z1 z2 z3 z4 c1 c4 e0 e1 htrow HU
            refine wp_region_lexH (fun wx => wx.cell? ⟨bu, 0, none⟩ = some (.int .i64 (t'.length : Int)) ∧ wx.cell? ⟨bu, 1, none⟩ = some (.int .i64 fk) ∧ wx.cell? ⟨bu, 2, none⟩ = some (.int .i64 (cnt fn : Int)) ∧ wx.cell? ⟨bu, 3, none⟩ = some (.int .i64 t0) ∧ wx.cell? ⟨bu, 4, none⟩ = some (.int .u64 (tv : Int)) ∧ wx.cell? ⟨bw, 1, none⟩ = some (.slice (some ⟨rb, ro, none⟩) tlen tc') ∧ wx.cell? ⟨bw, 4, none⟩ = some (.slice ka' t'.length kc') ∧ wx.cell? ⟨rb, ro, none⟩ = some (.int .i64 t0) ∧ wx.cell? ⟨rb, ro + 1, none⟩ = some (.int .u64 (tv : Int))) 41 (Array.replicate 41 false) (by kernel_rfl) (by kernel_rfl) ?_
            have b0 : Below W9'.heap.size W9' W9'.drew := below_drew1 W9'
            generalize W9'.drew = wd2 at *
            refine wpAnyH_seg 0 20 _ #[true, true, true, true, true, true, true, true, true, true, true, true, true, true, true, true, true, true, true, true, false, false, false, false, false, false, false, false, false, false, false, false, false, false, false, false, false, false, false, false, false] 21 (by kernel_rfl) noPanic_put (SCB.out _ b0) (by kernel_rfl) ?_
            simp only [List.take_succ_cons, List.take_zero, List.drop_zero]
            repeat (first
              | (refine wpSegH_no (by rfl) ?_; simp only [Act.put, List.setIfInBounds_toArray, List.set_cons_zero, List.set_cons_succ])
              | (refine wpSegH_yes (by rfl) ?_; apply Exists.intro; apply And.intro; (· (intro wx hS; (try dsimp only at hS); go_simp; first | done | with_reducible rfl)); simp only [Act.put, List.setIfInBounds_toArray, List.set_cons_zero, List.set_cons_succ]))
            refine wpSegH_nil ?_
            try rw [hcn]
            refine wpAnyH_seg 20 21 _ #[true, true, true, true, true, true, true, true, true, true, true, true, true, true, true, true, true, true, true, true, true, true, true, true, true, true, true, true, true, true, true, true, true, true, true, true, true, true, true, true, true] 0 (by kernel_rfl) noPanic_put (SCB.out _ b0) (by kernel_rfl) ?_
            simp only [List.take_succ_cons, List.take_zero, List.drop_succ_cons, List.drop_zero]
            repeat (first
              | (refine wpSegH_no (by rfl) ?_; simp only [Act.put, List.setIfInBounds_toArray, List.set_cons_zero, List.set_cons_succ])
              | (refine wpSegH_yes (by rfl) ?_; apply Exists.intro; apply And.intro; (· (intro wx hS; (try dsimp only at hS); go_simp; first | done | with_reducible rfl)); simp only [Act.put, List.setIfInBounds_toArray, List.set_cons_zero, List.set_cons_succ]))
            refine wpSegH_nil ?_
            refine wpAnyH_done (by kernel_rfl) (NoPanic.normal ?_) _
            have HO10 := Lib.hid (HO9.out.step b0)
            have HREL := Lib.hid (HFIN.out _ b0)
            clear HO9 SCB b0 HFIN hcn hnq
            go_upto_region 23 with fail
            obtain ⟨c0, -⟩ := HO10.out.cel 5 rfl 0 _ rfl
            obtain ⟨c1, -⟩ := HO10.out.cel 5 rfl 1 _ rfl
            obtain ⟨c2, -⟩ := HO10.out.cel 5 rfl 2 _ rfl
            obtain ⟨c3, -⟩ := HO10.out.cel 5 rfl 3 _ rfl
            obtain ⟨c4, -⟩ := HO10.out.cel 5 rfl 4 _ rfl
            obtain ⟨y0, f0⟩ := HO10.out.cel 1 rfl 0 _ rfl
            obtain ⟨y1, f1⟩ := HO10.out.cel 1 rfl 1 _ rfl
            obtain ⟨y2, f2⟩ := HO10.out.cel 1 rfl 2 _ rfl
            obtain ⟨y3, f3⟩ := HO10.out.cel 1 rfl 3 _ rfl
            obtain ⟨y4, f4⟩ := HO10.out.cel 1 rfl 4 _ rfl
            clear HO10
            go_wp2_with fail
            exact ⟨⟨k + 1, wd', by omega, by omega, by go_num, rfl, HREL⟩, by simp [intOf]; omega⟩
          · have huu := HU.out.2 he
            simp only [uv, uz, List.cons.injEq, Value.int.injEq, true_and, and_true] at huu
            obtain ⟨q0, q1, q2, q3, q4⟩ := huu
            subst u0 u1 u2 u3 u4
            have hee : (e == 2) = false := by simp [he]
            have hnn : (e != 2) = true := by simp [he]
            have SCB : Hid (∀ wx, Below W9'.heap.size W9' wx → (fun wx => wx.cell? ⟨bu, 0, none⟩ = some (.int .i64 0) ∧ wx.cell? ⟨bu, 1, none⟩ = some (.int .i64 0) ∧ wx.cell? ⟨bu, 2, none⟩ = some (.int .i64 0) ∧ wx.cell? ⟨bu, 3, none⟩ = some (.int .i64 0) ∧ wx.cell? ⟨bu, 4, none⟩ = some (.int .u64 0)) wx) := Lib.hid (fun wx hb => ⟨cell_below z0 hb, cell_below z1 hb, cell_below z2 hb, cell_below z3 hb, cell_below z4 hb⟩)
            clear z0 z1 z2 z3 z4 c1 c4 HU
            refine wp_region_lexH (fun wx => wx.cell? ⟨bu, 0, none⟩ = some (.int .i64 0) ∧ wx.cell? ⟨bu, 1, none⟩ = some (.int .i64 0) ∧ wx.cell? ⟨bu, 2, none⟩ = some (.int .i64 0) ∧ wx.cell? ⟨bu, 3, none⟩ = some (.int .i64 0) ∧ wx.cell? ⟨bu, 4, none⟩ = some (.int .u64 0)) 41 (Array.replicate 41 false) (by kernel_rfl) (by kernel_rfl) ?_
            have b0 : Below W9'.heap.size W9' W9'.drew := below_drew1 W9'
            generalize W9'.drew = wd2 at *
            refine wpAnyH_seg 0 41 _ #[true, true, true, true, true, true, true, true, true, true, true, true, true, true, true, true, true, true, true, true, true, true, true, true, true, true, true, true, true, true, true, true, true, true, true, true, true, true, true, true, true] 0 (by kernel_rfl) noPanic_put (SCB.out _ b0) (by kernel_rfl) ?_
            simp only [List.take_succ_cons, List.take_zero, List.drop_zero]
            repeat (first
              | (refine wpSegH_no (by rfl) ?_; simp only [Act.put, List.setIfInBounds_toArray, List.set_cons_zero, List.set_cons_succ])
              | (refine wpSegH_yes (by rfl) ?_; apply Exists.intro; apply And.intro; (· (intro wx hS; (try dsimp only at hS); go_simp; first | done | with_reducible rfl)); simp only [Act.put, List.setIfInBounds_toArray, List.set_cons_zero, List.set_cons_succ]))
            refine wpSegH_nil ?_
            refine wpAnyH_done (by kernel_rfl) (NoPanic.normal ?_) _
            have HO10 := Lib.hid (HO9.out.step b0)
            have HREL := Lib.hid (HFIN.out _ b0)
            clear HO9 SCB b0 HFIN
            go_upto_region 23 with fail
            obtain ⟨c0, -⟩ := HO10.out.cel 5 rfl 0 _ rfl
            obtain ⟨c1, -⟩ := HO10.out.cel 5 rfl 1 _ rfl
            obtain ⟨c2, -⟩ := HO10.out.cel 5 rfl 2 _ rfl
            obtain ⟨c3, -⟩ := HO10.out.cel 5 rfl 3 _ rfl
            obtain ⟨c4, -⟩ := HO10.out.cel 5 rfl 4 _ rfl
            obtain ⟨y0, f0⟩ := HO10.out.cel 1 rfl 0 _ rfl
            obtain ⟨y1, f1⟩ := HO10.out.cel 1 rfl 1 _ rfl
            obtain ⟨y2, f2⟩ := HO10.out.cel 1 rfl 2 _ rfl
            obtain ⟨y3, f3⟩ := HO10.out.cel 1 rfl 3 _ rfl
            obtain ⟨y4, f4⟩ := HO10.out.cel 1 rfl 4 _ rfl
            clear HO10
            go_wp2_with fail
            exact ⟨⟨k + 1, wd', by omega, by omega, by go_num, rfl, HREL⟩, by simp [intOf]; omega⟩
      · have hk : (if 40 < (n1 : Int) then (40 : Int) else (n1 : Int)) = (k : Int) := by split <;> omega
        obtain ⟨t, X, rs, na, nc, xa, xc, ka, kc, seen, ho, hX, hP, htl, hs1, hs0⟩ := hr.out
        by_cases ha : a4 < 0
        · have HB9 := Lib.hid ho.bel
          clear ho hX hP htl hs1 hs0 hr
          go_upto_region 24 with fail
          all_goals
            refine wp_region_lexH (fun wx => True) 19 (Array.replicate 19 false) (by kernel_rfl) (by kernel_rfl) ?_
            have b0 : Below w.heap.size w wr.drew := below_on HB9.out (below_drew1 wr)
            generalize wr.drew = wd2 at *
            refine wpAnyH_seg 0 19 _ #[true, true, true, true, true, true, true, true, true, true, true, true, true, true, true, true, true, true, true] 0 (by kernel_rfl) noPanic_put (trivial) (by kernel_rfl) ?_
            simp only [List.take_succ_cons, List.take_zero, List.drop_zero]
            repeat (first
              | (refine wpSegH_no (by rfl) ?_; simp only [Act.put, List.setIfInBounds_toArray, List.set_cons_zero, List.set_cons_succ])
              | (refine wpSegH_yes (by rfl) ?_; apply Exists.intro; apply And.intro; (· (intro wx hS; (try dsimp only at hS); go_simp; first | done | with_reducible rfl)); simp only [Act.put, List.setIfInBounds_toArray, List.set_cons_zero, List.set_cons_succ]))
            refine wpSegH_nil ?_
            refine wpAnyH_done (by kernel_rfl) (NoPanic.normal ?_) _
            go_wp2
            go_ret
            exact ⟨rfl, b0⟩
        · by_cases hb : (k : Int) ≤ a4
          · have HB9 := Lib.hid ho.bel
            clear ho hX hP htl hs1 hs0 hr
            go_upto_region 24 with fail
            all_goals
              refine wp_region_lexH (fun wx => True) 19 (Array.replicate 19 false) (by kernel_rfl) (by kernel_rfl) ?_
              have b0 : Below w.heap.size w wr.drew := below_on HB9.out (below_drew1 wr)
              generalize wr.drew = wd2 at *
              refine wpAnyH_seg 0 7 _ #[true, true, true, true, true, true, true, false, false, false, false, false, false, false, false, false, false, false, false] 12 (by kernel_rfl) noPanic_put (trivial) (by kernel_rfl) ?_
              simp only [List.take_succ_cons, List.take_zero, List.drop_zero]
              repeat (first
                | (refine wpSegH_no (by rfl) ?_; simp only [Act.put, List.setIfInBounds_toArray, List.set_cons_zero, List.set_cons_succ])
                | (refine wpSegH_yes (by rfl) ?_; apply Exists.intro; apply And.intro; (· (intro wx hS; (try dsimp only at hS); go_simp; first | done | with_reducible rfl)); simp only [Act.put, List.setIfInBounds_toArray, List.set_cons_zero, List.set_cons_succ]))
              refine wpSegH_nil ?_
              try rw [hk]
              refine wpAnyH_seg 7 12 _ #[true, true, true, true, true, true, true, true, true, true, true, true, true, true, true, true, true, true, true] 0 (by kernel_rfl) noPanic_put (trivial) (by kernel_rfl) ?_
              simp only [List.take_succ_cons, List.take_zero, List.drop_succ_cons, List.drop_zero]
              repeat (first
                | (refine wpSegH_no (by rfl) ?_; simp only [Act.put, List.setIfInBounds_toArray, List.set_cons_zero, List.set_cons_succ])
                | (refine wpSegH_yes (by rfl) ?_; apply Exists.intro; apply And.intro; (· (intro wx hS; (try dsimp only at hS); go_simp; first | done | with_reducible rfl)); simp only [Act.put, List.setIfInBounds_toArray, List.set_cons_zero, List.set_cons_succ]))
              refine wpSegH_nil ?_
              refine wpAnyH_done (by kernel_rfl) (NoPanic.normal ?_) _
              go_wp2
              go_ret
              exact ⟨rfl, b0⟩
          · have hon : decide (0 ≤ a4 ∧ a4 < (k : Int)) = true := decide_eq_true (by omega)
            rw [hon] at ho hs1
            obtain ⟨wn, rfl, hwn, hsn⟩ := hs1 rfl
            have htk : X.taken = t := hP.1
            have hkc : t.length ≤ kc := by rw [← htk]; exact hX.2.2.2.2.2
            have hrows : CellsAt wr ka (recCells t) := by
              have := (ho.poolGGet 0 rfl hX.2.2.2.2.1).1
              simp only [htk] at this
              exact this
            obtain ⟨sa2, sc2, h2⟩ := (ho.pick 3 rfl).eye
            obtain ⟨c0, -⟩ := h2.cel 0 rfl 0 _ rfl
            have hrow := (h2.rowG 1 rfl).cells
            obtain ⟨c4, -⟩ := ho.cel 1 rfl 4 _ rfl
            rw [htk] at c4
            obtain ⟨a', c', hsf, hcf⟩ := recs_from (P := Try.prog) (t := 23) Try.underlying23 (fun w => by first | rfl | kernel_rfl) hrows hwn hkc
            rw [← hsn] at hsf hcf
            have hsl : seen.length ≤ 1000 := by rw [hsn, List.length_drop]; omega
            have SCB : Hid (∀ wx, Below wr.heap.size wr wx → (fun wx => wx.cell? ⟨bs, 0, none⟩ = some (.slice sa2 seen.length sc2) ∧ wx.cell? ⟨bx, 4, none⟩ = some (.slice ka t.length kc)) wx) := Lib.hid (fun wx hb => ⟨cell_below c0 hb, cell_below c4 hb⟩)
            have HR1 := Lib.hid (And.intro hrow (And.intro hcf hsl))
            have HB9 := Lib.hid ho.bel
            clear ho hX hP htl hs1 hs0 hr h2 hrows hwn hsn htk hkc c0 c4 hrow hcf hsl hon
            go_upto_region 24 with fail
            all_goals
              refine wp_region_lexH (fun wx => wx.cell? ⟨bs, 0, none⟩ = some (.slice sa2 seen.length sc2) ∧ wx.cell? ⟨bx, 4, none⟩ = some (.slice ka t.length kc)) 19 (Array.replicate 19 false) (by kernel_rfl) (by kernel_rfl) ?_
              have b0 : Below wr.heap.size wr wr.drew := below_drew1 wr
              generalize wr.drew = wd2 at *
              refine wpAnyH_seg 0 7 _ #[true, true, true, true, true, true, true, false, false, false, false, false, false, false, false, false, false, false, false] 12 (by kernel_rfl) noPanic_put (SCB.out _ b0) (by kernel_rfl) ?_
              simp only [List.take_succ_cons, List.take_zero, List.drop_zero]
              repeat (first
                | (refine wpSegH_no (by rfl) ?_; simp only [Act.put, List.setIfInBounds_toArray, List.set_cons_zero, List.set_cons_succ])
                | (refine wpSegH_yes (by rfl) ?_; apply Exists.intro; apply And.intro; (· (intro wx hS; (try dsimp only at hS); go_simp; first | done | with_reducible rfl)); simp only [Act.put, List.setIfInBounds_toArray, List.set_cons_zero, List.set_cons_succ]))
              refine wpSegH_nil ?_
              try rw [hk]
              refine wpAnyH_seg 7 8 _ #[true, true, true, true, true, true, true, true, true, true, true, true, true, true, true, false, false, false, false] 4 (by kernel_rfl) noPanic_put (SCB.out _ b0) (by kernel_rfl) ?_
              simp only [List.take_succ_cons, List.take_zero, List.drop_succ_cons, List.drop_zero]
              repeat (first
                | (refine wpSegH_no (by rfl) ?_; simp only [Act.put, List.setIfInBounds_toArray, List.set_cons_zero, List.set_cons_succ])
                | (refine wpSegH_yes (by rfl) ?_; apply Exists.intro; apply And.intro; (· (intro wx hS; (try dsimp only at hS); go_simp; first | done | with_reducible rfl)); simp only [Act.put, List.setIfInBounds_toArray, List.set_cons_zero, List.set_cons_succ]))
              refine wpSegH_nil ?_
              refine wpAnyH_one 15 _ #[true, true, true, true, true, true, true, true, true, true, true, true, true, true, true, true, false, false, false] 3 (by kernel_rfl) (fun K hK => ?_)
              have HKK := Lib.hid hK
              clear hK
              simp only [List.drop_succ_cons, List.drop_zero]
              refine headH_mk (by rfl) ?_
              go_simp
              refine (are_eq sa2 a' sc2 c' seen wd2 HR1.out.2.2 (cells_recs (HR1.out.1.below b0)) (cells_recs (HR1.out.2.1.below b0))).mono ?_
              rintro r w11 ⟨rfl, hb2⟩
              have b2 : Below wr.heap.size wr w11 := below_on b0 hb2
              refine HKK.out _ _ (SCB.out _ b2) ?_
              clear HKK K
              refine wpAnyH_seg 16 3 _ #[true, true, true, true, true, true, true, true, true, true, true, true, true, true, true, true, true, true, true] 0 (by kernel_rfl) noPanic_put (SCB.out _ b2) (by kernel_rfl) ?_
              simp only [List.take_succ_cons, List.take_zero, List.drop_succ_cons, List.drop_zero]
              repeat (first
                | (refine wpSegH_no (by rfl) ?_; simp only [Act.put, List.setIfInBounds_toArray, List.set_cons_zero, List.set_cons_succ])
                | (refine wpSegH_yes (by rfl) ?_; apply Exists.intro; apply And.intro; (· (intro wx hS; (try dsimp only at hS); go_simp; first | done | with_reducible rfl)); simp only [Act.put, List.setIfInBounds_toArray, List.set_cons_zero, List.set_cons_succ]))
              refine wpSegH_nil ?_
              refine wpAnyH_done (by kernel_rfl) (NoPanic.normal ?_) _
              have b3 : Below w.heap.size w w11 := below_on HB9.out b2
              go_wp2
              go_ret
              exact ⟨rfl, b3⟩
end Go.Proofs.Ytkjhaofodlpnmaa.sourcePlays
