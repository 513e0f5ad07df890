/-
  The walk of the law SourceChains.
-/
import Derived.Test.YtnmkkeifdfhpfaaW17Chn2
open Go Go.RowKit
set_option linter.unusedVariables false
namespace Go.Proofs.Ytnmkkeifdfhpfaa.sourceChains
/-- What the loop keeps. -/
def St (w wr : World) (p bx bz : Nat) (L : List Rec) (N : List Nat) (k : Nat) : Prop :=
  ∃ (t : List Rec) (X Y : RSrc) (rs : Rows17) (na : Option Addr) (nc : Nat) (ta : Option Addr) (tc : Nat) (ka : Option Addr) (kc : Nat) (mb : Option Addr) (mc : Nat) (tb : Option Addr) (td : Nat) (kb : Option Addr) (kd : Nat),
    Own w wr [PoolG rs, CelA bx (rcells X na nc ta tc ka kc), CelA bz (rcells Y mb mc tb td kb kd), SrcA p 2 ⟨L, N, t⟩ .nilFunc] ∧ RefC w rs X na nc ta tc ka kc ∧ RefC w rs Y mb mc tb td kb kd ∧ Chained L N t X Y ∧ t.length ≤ k
/-- .. behind a draw: what it came to stands in a box of its own. -/
def St2 (w wr : World) (p bx bz bu : Nat) (L : List Rec) (N : List Nat) (k : Nat) (e : Int) (t : List Rec) (X Y : RSrc) (rs : Rows17) (na : Option Addr) (nc : Nat) (ta : Option Addr) (tc : Nat) (ka : Option Addr) (kc : Nat) (mb : Option Addr) (mc : Nat) (tb : Option Addr) (td : Nat) (kb : Option Addr) (kd : Nat) (a0 a1 a2 a3 a4 : Int) : Prop :=
    Own w wr [PoolG rs, CelA bx (rcells X na nc ta tc ka kc), CelA bz (rcells Y mb mc tb td kb kd), CelA bu (uv a0 a1 a2 a3 a4), SrcA p 2 ⟨L, N, t⟩ .nilFunc] ∧ RefC w rs X na nc ta tc ka kc ∧ RefC w rs Y mb mc tb td kb kd ∧ Chained L N t X Y ∧ t.length ≤ k + 1 ∧ (e = 2 → a0 = (X.taken.length : Int))
set_option maxRecDepth 100000 in
set_option maxHeartbeats 1000000 in
theorem walk (a0 : Option Addr) (len0 cap0 : Nat) (l0 : List Rec) (a1 : Option Addr) (len1 cap1 : Nat) (z1 : List Int) (a2 : Option Addr) (len2 cap2 : Nat) (l2 : List Ac2) (w : World) (w0 : IsRecs w a0 len0 cap0 l0) (w1 : IsRow .u64 w a1 len1 cap1 z1) (w2 : IsActs2 w a2 len2 cap2 l2) :
    Calls Try.prog 6 #[.slice a0 len0 cap0, .slice a1 len1 cap1, .slice a2 len2 cap2] w fun e w' => e = .returned (.bool true) ∧ Below w.heap.size w w' := by
  obtain ⟨rfl, hc0, hm0, hat0, hu0⟩ := w0
  obtain ⟨l, rfl, hlc, hcl, hlu, hn0⟩ := nums_of w1
  obtain ⟨-, hcm1, -, -⟩ := w1.cells
  obtain ⟨rfl, hc2, hm2, hat, hok⟩ := w2
  clear w1
  have hsome := fun w' (hb : Below w.heap.size w w') => some_own a0 cap0 l0 w' (by omega) (hat0.below hb) hu0
  have HSOME := Lib.hid hsome
  have HAT := Lib.hid hat
  have HOK := Lib.hid hok
  unfold maxLen at hm2 hcm1
  obtain ⟨m, hm⟩ : ∃ m : Nat, m = min l.length 40 := ⟨_, rfl⟩
  have hmif : (if 40 < (l.length : Int) then (40 : Int) else (l.length : Int)) = (m : Int) := by split <;> omega
  have hml : m ≤ l.length := by omega
  have hm40 : m ≤ 40 := by omega
  have hNl : (l.take m).length = m := by rw [List.length_take]; omega
  have hN : OldN w a1 (l.take m) := OldN.of (by
    intro j v hj
    refine hcl j v ?_
    unfold numc at hj ⊢
    rw [List.getElem?_map, List.getElem?_take] at hj
    rw [List.getElem?_map]
    split at hj
    · exact hj
    · simp at hj)
  have hNu : ∀ y ∈ l.take m, y < 18446744073709551616 := fun y hy => hlu y (List.mem_of_mem_take hy)
  have hsl := fun w => slice_head (P := Try.prog) (t := 22) w Try.underlying22 (fun w => by first | rfl | kernel_rfl) a1 l.length cap1 m (by omega)
  have hm0' : a1 = none → m = 0 ∧ cap1 = 0 := fun h => by obtain ⟨h1, h2⟩ := hn0 h; omega
  have HM0 := Lib.hid hm0'
  generalize hNN : l.take m = N at *
  have HN := Lib.hid hN
  have HNL := Lib.hid hNl
  have HNU := Lib.hid hNu
  obtain ⟨n1, hn1⟩ : ∃ n1, n1 = l2.length := ⟨_, rfl⟩
  obtain ⟨nr, hnr⟩ : ∃ nr, nr = l0.length := ⟨_, rfl⟩
  obtain ⟨nl, hnl⟩ : ∃ nl, nl = l.length := ⟨_, rfl⟩
  rw [← hn1] at hc2 ⊢
  rw [← hnr] at HSOME ⊢
  rw [← hnl] at hlc hmif hml hsl ⊢
  have HN1 := Lib.hid hn1
  clear hsome hat hok hn1 hnr hnl hN hNl hNu hNN hm0' hn0 hlu hcl hat0 hu0 hc0 hm hm0
  go_enter Try.func6, Try.ntmps6
  go_wp2_with fail
  refine (awake17_any _).mono ?_
  rintro e w3 ⟨rfl, hb⟩
  have HB := Lib.hid hb
  clear hb
  go_wp2_with fail
  refine (HSOME.out _ HB.out).mono ?_
  rintro r w4 ⟨sa, sc, rfl, hown, hb4⟩
  obtain ⟨sa', sc', hse, hrow, hfr⟩ := RowG.of_own hown
  simp only [Value.slice.injEq, true_and] at hse
  obtain ⟨rfl, rfl⟩ := hse
  have hLl := someL_len l0
  have hLo := someL_ok l0
  generalize someL l0 = L at *
  have HLO := Lib.hid hLo
  have HB4 := Lib.hid (below_on HB.out hb4)
  have HROW := Lib.hid hrow
  clear hown hfr hrow hLo HSOME hb4
  obtain ⟨nL, hnL⟩ : ∃ nL, nL = L.length := ⟨_, rfl⟩
  have HNL' := Lib.hid hnL
  have hch := hnew_any (Own.nil (w0 := w) HB4.out) sa sc L HROW.out.cells (nil_noneG HROW.out) (by omega) a1 cap1 N (HN.out.at HB4.out) (by rw [HNL.out]; exact HM0.out) (by rw [HNL.out]; omega)
  rw [HNL.out] at hch
  rw [← hnL] at hch hLl ⊢
  have HCH := Lib.hid hch
  clear hch hnL
  go_wp2_with fail
  refine HCH.out.mono ?_
  rintro r w5 ⟨p, rfl, o5, hb5⟩
  have htold := fun w' (hb : Below w4.heap.size w4 w') => told_any sa sc L w' (by have := HNL'.out; omega) (cells_recs (HROW.out.cells.below hb))
  rw [← HNL'.out] at htold
  have HTOLD := Lib.hid htold
  have HB5 := Lib.hid hb5
  have HO5 := Lib.hid o5
  clear htold o5 hb5 HCH
  go_wp2_with fail
  refine (HTOLD.out _ HB5.out).mono ?_
  rintro r w6 ⟨ta, tc, rfl, k1, k2, k3⟩
  have hst : St w ((w6.alloc (.cells (rcells ⟨[], L, true, []⟩ none 0 ta tc none 0).toArray 31)).alloc (.cells (rcells ⟨N, [], false, []⟩ a1 cap1 none 0 none 0).toArray 31)) p w6.heap.size (w6.heap.size + 1) L N 0 := by
    have h1 := HO5.out.add k3 (A := PoolG [(ta, recCells L), (none, [])]) (F := blk ta) ⟨by rw [HNL'.out] at k1; exact k1.lt, fun r hr => by
      simp at hr
      rcases hr with rfl | rfl
      · exact ⟨fun x hx => hx, k1.cells⟩
      · exact ⟨fun x hx => by simp [blk] at hx, CellsAt.nil _ _⟩⟩ k2
    have h2 := ((h1.alloc (rcells ⟨[], L, true, []⟩ none 0 ta tc none 0) 31 (b := w6.heap.size) rfl).alloc (rcells ⟨N, [], false, []⟩ a1 cap1 none 0 none 0) 31 (b := w6.heap.size + 1) (by simp))
    have htc := k1.2.1
    refine ⟨[], ⟨[], L, true, []⟩, ⟨N, [], false, []⟩, _, none, 0, ta, tc, none, 0, a1, cap1, none, 0, none, 0, (h2.pick 1 rfl).pick 2 rfl, ⟨.inl rfl, by simp, by simp, by have := HNL'.out; simp; omega, by simp [recCells], by simp⟩, ⟨HN.out, by have := HNL.out; simp; omega, by simp [recCells], by simp, by simp [recCells], by simp⟩, chained0 L N, by simp⟩
  have HST := Lib.hid hst
  unfold rcells at HST
  simp only [List.length_nil] at HST
  rw [← HNL'.out, HNL.out] at HST
  clear hst k1 k2 k3 HTOLD HO5 HB5 HROW HB4 HB
  go_wp2_with fail
  generalize w6.heap.size = bx at *
  generalize bx + 1 = bz at *
  go_loopw [11] (fun c wr => ∃ k : Nat, k ≤ 40 ∧ c = .int .i64 k ∧ Hid (St w wr p bx bz L N k)) (fun c _ => 40 - (intOf c).toNat)
  case atStart => exact ⟨0, by omega, rfl, HST⟩
  case round =>
    obtain ⟨k, hk40, rfl, hr⟩ := hrel
    clear HST
    by_cases hlt : k < n1 ∧ k < 40
    · obtain ⟨h1, h2⟩ := hlt
      obtain ⟨t, X, Y, rs, na, nc, xa, xc, ka, kc, mb, mc, tb, td, kb, kd, ho, hX, hY, hC, htl⟩ := hr.out
      obtain ⟨ab, ao, rfl, ga, gb⟩ := HAT.out k (by have := HN1.out; omega)
      have hkok := HOK.out _ (List.getElem_mem (by have := HN1.out; omega : k < l2.length))
      generalize l2[k]'(by have := HN1.out; omega) = q at ga gb hkok
      obtain ⟨qk, qn⟩ := q
      simp only at ga gb hkok
      obtain ⟨-, -, hq3⟩ := hkok
      have hfit := fun w' => fit_any w' qk qn (by omega)
      have HFIT := Lib.hid hfit
      have hbw := ho.bel
      have ga' := cell_below ga hbw
      have gb' := cell_below gb hbw
      have HO := Lib.hid ho
      have HX := Lib.hid hX
      have HY := Lib.hid hY
      have HC := Lib.hid hC
      have HTL := Lib.hid htl
      clear hfit ga gb hq3 hr hbw ho hX hY hC htl
      go_wp2_with fail
      refine (HFIT.out _).mono ?_
      rintro r w4 ⟨rfl, hb4⟩
      generalize hfn : fitN qn = fn
      have hfl : fn ≤ 1099511627776 := by rw [← hfn]; exact fitN_le qn
      generalize fitK qk = fk at *
      have hfine : Src.fine ⟨L, N, t⟩ 2 := by
        obtain ⟨c1, c2, c3, c4, c5, c6, -⟩ := HC.out
        have e1 := HNL'.out
        have e2 := HNL.out
        have e3 := HTL.out
        have e4 : t.length = X.taken.length + Y.taken.length := by rw [c1, List.length_append]
        exact ⟨⟨fun r hr => by have := (HLO.out r hr).2.2; omega, HNU.out⟩, ⟨by simp, by simp⟩, by simp only [Src.many]; omega, by simp only [Src.many]; omega, by simp only; omega⟩
      have hd := ldraw_any ((HO.out.pick 3 rfl).step hb4) hfine fk fn (by omega)
      have HD := Lib.hid hd
      clear hd hb4 hfn hfine HFIT ga' gb' HO
      go_wp2_with fail
      refine HD.out.mono ?_
      rintro r w5 ⟨S', v, e, u, hl, rfl, o5⟩
      obtain ⟨t', rfl, htl', hcs⟩ := HC.out.step hl
      have HCS := Lib.hid hcs
      have hu : ∃ a0 a1 a2 a3 a4, u = uv a0 a1 a2 a3 a4 := by
        rcases hcs with ⟨_, _, _, _, _, h⟩ | ⟨_, _, _, _, _, h⟩ <;> exact h
      obtain ⟨a0, a1, a2, a3, a4, rfl⟩ := hu
      have o6 := o5.alloc (uv a0 a1 a2 a3 a4) 44 (b := w5.heap.size) rfl
      have HO6 : Hid (Own w (w5.alloc (.cells (uv a0 a1 a2 a3 a4).toArray 44)) [PoolG rs, CelA bx (rcells X na nc xa xc ka kc), CelA bz (rcells Y mb mc tb td kb kd), CelA w5.heap.size (uv a0 a1 a2 a3 a4), SrcA p 2 ⟨L, N, t'⟩ .nilFunc]) := Lib.hid (((((o6.pick 1 rfl).pick 1 rfl).pick 4 rfl).pick 4 rfl).pick 4 rfl)
      clear o5 o6 hcs hl HD
      unfold uv at HO6 ⊢
      go_upto_region 13 with fail
      generalize w5.alloc (.cells #[.int .i64 a0, .int .i64 a1, .int .i64 a2, .int .i64 a3, .int .u64 a4] 44) = W6 at *
      generalize w5.heap.size = bu at *
      have HVE := Lib.hid (And.intro htl' hfl)
      clear htl'
      obtain ⟨g1, -⟩ := HO6.out.cel 1 rfl 1 _ rfl
      go_upto_if 65 with fail
      go_cut [17, 18] (fun c d wx => c = .int .i64 v ∧ d = .int .i64 e ∧ Hid (∃ (X' Y' : RSrc) (rs' : Rows17) (na : Option Addr) (nc : Nat) (ta : Option Addr) (tc : Nat) (ka : Option Addr) (kc : Nat) (mb : Option Addr) (mc : Nat) (tb : Option Addr) (td : Nat) (kb : Option Addr) (kd : Nat), St2 w wx p bx bz bu L N k e t' X' Y' rs' na nc ta tc ka kc mb mc tb td kb kd a0 a1 a2 a3 a4))
      case first =>
        rcases HCS.out with ⟨hne, hC', hv, he, hu2, -⟩ | ⟨hne, hC', hv, he, hu2, -⟩
        · obtain ⟨g0, -⟩ := HO6.out.cel 1 rfl 0 _ rfl
          obtain ⟨g2, -⟩ := HO6.out.cel 1 rfl 2 _ rfl
          obtain ⟨g3, -⟩ := HO6.out.cel 1 rfl 3 _ rfl
          obtain ⟨g4, -⟩ := HO6.out.cel 1 rfl 4 _ rfl
          have hpos : 0 < X.tape.length := List.length_pos_iff.2 hne
          have hrd := rdraw_any W6 X na xa ka nc xc kc (HX.out.rows HO6.out 0 rfl) ⟨fun r hr => by
              obtain ⟨_, _, c3, -⟩ := HC.out
              rw [c3] at hr
              have := (HLO.out r (List.mem_of_mem_drop hr)).2.2
              omega, fun y hy => by
              obtain ⟨_, _, _, _, _, _, c7, -⟩ := HC.out
              rw [c7] at hy; exact absurd hy (by simp)⟩ (by
              obtain ⟨c1, -⟩ := HC.out
              have := congrArg List.length c1
              rw [List.length_append] at this
              have := HTL.out
              omega) fk fn (by omega)
          have HRD := Lib.hid hrd
          have HC2 := Lib.hid (And.intro hC' (And.intro hv (And.intro he hu2)))
          unfold rval at HRD
          clear hrd hC' hv he hu2 hne HCS
          go_wp2_with fail
          refine HRD.out.mono ?_
          intro r w7 hpost
          obtain ⟨rs', na', nc', ta', tc', ka', kc', rfl, o7, hsub, hX'⟩ := HX.out.after HO6.out hpost
          obtain ⟨hC', hv, he, hu2⟩ := HC2.out
          have o8 := (((((o7.pick 1 rfl).set 0 (.slice na' (rdraw X fk fn).1.nums.length nc')).set 1 (.slice ta' (rdraw X fk fn).1.tape.length tc')).set 2 (.bool (rdraw X fk fn).1.is)).set 3 (.bool false)).set 4 (.slice ka' (rdraw X fk fn).1.taken.length kc')
          obtain ⟨y0, f0⟩ := o7.cel 1 rfl 0 _ rfl
          obtain ⟨y1, f1⟩ := o7.cel 1 rfl 1 _ rfl
          obtain ⟨y2, f2⟩ := o7.cel 1 rfl 2 _ rfl
          obtain ⟨y3, f3⟩ := o7.cel 1 rfl 3 _ rfl
          obtain ⟨y4, f4⟩ := o7.cel 1 rfl 4 _ rfl
          have HEND : Hid (∃ (X' Y' : RSrc) (rs' : Rows17) (na : Option Addr) (nc : Nat) (ta : Option Addr) (tc : Nat) (ka : Option Addr) (kc : Nat) (mb : Option Addr) (mc : Nat) (tb : Option Addr) (td : Nat) (kb : Option Addr) (kd : Nat), St2 w (((((w7.setCell ⟨bx, 0, none⟩ (.slice na' (rdraw X fk fn).1.nums.length nc')).setCell ⟨bx, 1, none⟩ (.slice ta' (rdraw X fk fn).1.tape.length tc')).setCell ⟨bx, 2, none⟩ (.bool (rdraw X fk fn).1.is)).setCell ⟨bx, 3, none⟩ (.bool false)).setCell ⟨bx, 4, none⟩ (.slice ka' (rdraw X fk fn).1.taken.length kc')) p bx bz bu L N k e t' X' Y' rs' na nc ta tc ka kc mb mc tb td kb kd a0 a1 a2 a3 a4) :=
            Lib.hid ⟨(rdraw X fk fn).1, Y, rs', na', nc', ta', tc', ka', kc', mb, mc, tb, td, kb, kd, o8.pick 1 rfl, hX', HY.out.more hsub, hC', by have := HVE.out.1; have := HTL.out; omega, fun h2 => by
              obtain ⟨b1, b2, b3, b4, hh⟩ := hu2 h2
              unfold uv at hh
              simp at hh
              exact hh.1⟩
          have HVV := Lib.hid (And.intro hv he)
          clear o8 o7 hpost hX' hsub hC' hu2 HRD HC2 hv he g0 g1 g2 g3 g4
          unfold rval
          generalize rdraw X fk fn = RD at *
          go_wp2_with fail
          go_meet
          exact ⟨by rw [HVV.out.1], by rw [HVV.out.2], HEND⟩
        · obtain ⟨g0, -⟩ := HO6.out.cel 2 rfl 0 _ rfl
          obtain ⟨g1, -⟩ := HO6.out.cel 2 rfl 1 _ rfl
          obtain ⟨g2, -⟩ := HO6.out.cel 2 rfl 2 _ rfl
          obtain ⟨g3, -⟩ := HO6.out.cel 2 rfl 3 _ rfl
          obtain ⟨g4, -⟩ := HO6.out.cel 2 rfl 4 _ rfl
          have hpos : ¬ 0 < X.tape.length := by rw [hne]; simp
          have hrd := rdraw_any W6 Y mb tb kb mc td kd (HY.out.rows HO6.out 0 rfl) ⟨fun r hr => by
              obtain ⟨_, _, _, _, _, _, _, c8, -⟩ := HC.out
              rw [c8] at hr; exact absurd hr (by simp), fun y hy => by
              obtain ⟨_, _, _, _, _, c6, -⟩ := HC.out
              rw [c6] at hy
              exact HNU.out y (List.mem_of_mem_drop hy)⟩ (by
              obtain ⟨c1, -⟩ := HC.out
              have := congrArg List.length c1
              rw [List.length_append] at this
              have := HTL.out
              omega) fk fn (by omega)
          have HRD := Lib.hid hrd
          have HC2 := Lib.hid (And.intro hC' (And.intro hv (And.intro he hu2)))
          unfold rval at HRD
          clear hrd hC' hv he hu2 hne HCS
          go_wp2_with fail
          refine HRD.out.mono ?_
          intro r w7 hpost
          obtain ⟨rs', na', nc', ta', tc', ka', kc', rfl, o7, hsub, hX'⟩ := HY.out.after HO6.out hpost
          obtain ⟨hC', hv, he, hu2⟩ := HC2.out
          have o8 := (((((o7.pick 2 rfl).set 0 (.slice na' (rdraw Y fk fn).1.nums.length nc')).set 1 (.slice ta' (rdraw Y fk fn).1.tape.length tc')).set 2 (.bool (rdraw Y fk fn).1.is)).set 3 (.bool false)).set 4 (.slice ka' (rdraw Y fk fn).1.taken.length kc')
          obtain ⟨y0, f0⟩ := o7.cel 2 rfl 0 _ rfl
          obtain ⟨y1, f1⟩ := o7.cel 2 rfl 1 _ rfl
          obtain ⟨y2, f2⟩ := o7.cel 2 rfl 2 _ rfl
          obtain ⟨y3, f3⟩ := o7.cel 2 rfl 3 _ rfl
          obtain ⟨y4, f4⟩ := o7.cel 2 rfl 4 _ rfl
          have HEND : Hid (∃ (X' Y' : RSrc) (rs' : Rows17) (na : Option Addr) (nc : Nat) (ta : Option Addr) (tc : Nat) (ka : Option Addr) (kc : Nat) (mb : Option Addr) (mc : Nat) (tb : Option Addr) (td : Nat) (kb : Option Addr) (kd : Nat), St2 w (((((w7.setCell ⟨bz, 0, none⟩ (.slice na' (rdraw Y fk fn).1.nums.length nc')).setCell ⟨bz, 1, none⟩ (.slice ta' (rdraw Y fk fn).1.tape.length tc')).setCell ⟨bz, 2, none⟩ (.bool (rdraw Y fk fn).1.is)).setCell ⟨bz, 3, none⟩ (.bool false)).setCell ⟨bz, 4, none⟩ (.slice ka' (rdraw Y fk fn).1.taken.length kc')) p bx bz bu L N k e t' X' Y' rs' na nc ta tc ka kc mb mc tb td kb kd a0 a1 a2 a3 a4) :=
            Lib.hid ⟨X, (rdraw Y fk fn).1, rs', na, nc, xa, xc, ka, kc, na', nc', ta', tc', ka', kc', ((o8.pick 1 rfl).pick 2 rfl).pick 1 rfl, HX.out.more hsub, hX', hC', by have := HVE.out.1; have := HTL.out; omega, fun h2 => absurd h2 hu2⟩
          have HVV := Lib.hid (And.intro hv he)
          clear o8 o7 hpost hX' hsub hC' hu2 HRD HC2 hv he g0 g1 g2 g3 g4
          unfold rval
          generalize rdraw Y fk fn = RD at *
          go_wp2_with fail
          go_meet
          exact ⟨by rw [HVV.out.1], by rw [HVV.out.2], HEND⟩
      case rest =>
        obtain ⟨rfl, rfl, hh⟩ := hcut
        obtain ⟨X', Y', rs', na, nc, ta', tc', ka, kc, mb, mc, tb, td, kb, kd, ho, hX, hY, hC, htl, he2⟩ := hh.out
        have HO := Lib.hid ho
        have HX2 := Lib.hid hX
        have HY2 := Lib.hid hY
        have HC2 := Lib.hid hC
        have HTL2 := Lib.hid htl
        have htk : t'.length = X'.taken.length + Y'.taken.length := by rw [hC.1, List.length_append]
        have hrows : (∀ wx, Below wc.heap.size wc wx → CellsAt wx ka (recCells X'.taken)) ∧ ∀ wx, Below wc.heap.size wc wx → CellsAt wx kb (recCells Y'.taken) := ⟨fun wx hb => (ho.poolGGet 0 rfl hX.2.2.2.2.1).1.below hb, fun wx hb => (ho.poolGGet 0 rfl hY.2.2.2.2.1).1.below hb⟩
        have HROWS := Lib.hid hrows
        have hleft := fun wx (hb : Below wc.heap.size wc wx) => sleft_any ((ho.pick 4 rfl).step hb) (by
          have e1 := HNL'.out
          have e2 := HNL.out
          simp only [Src.many]; omega) (by
          obtain ⟨c1, c2, c3, c4, c5, c6, -⟩ := hC
          simp only [Src.many]; omega)
        have el : ((Src.many ⟨L, N, t'⟩ - (Src.taken ⟨L, N, t'⟩).length : Nat) : Int) = (X'.tape.length : Int) + (Y'.nums.length : Int) := by
          obtain ⟨c1, c2, c3, c4, c5, c6, -⟩ := hC
          simp only [Src.many]; omega
        rw [el] at hleft
        have hws : IntKind.i64.wrap ((X'.tape.length : Int) + (Y'.nums.length : Int)) = (X'.tape.length : Int) + (Y'.nums.length : Int) := by
          obtain ⟨c1, c2, c3, c4, c5, c6, -⟩ := hC
          have e1 := HNL'.out
          have e2 := HNL.out
          rw [IntKind.wrap_i64]; omega
        have htaken := fun wx (hb : Below wc.heap.size wc wx) => staken_any ((ho.pick 4 rfl).step hb) (by simp only; omega)
        have HLEFT := Lib.hid hleft
        have HTAKEN := Lib.hid htaken
        have hlen : (recCells X'.taken).length = X'.taken.length * 2 ∧ (recCells Y'.taken).length = Y'.taken.length * 2 ∧ X'.taken.length + Y'.taken.length ≤ 41 := ⟨recCells_len _, recCells_len _, by omega⟩
        have HLEN := Lib.hid hlen
        have HTK := Lib.hid htk
        obtain ⟨g1, -⟩ := ho.cel 1 rfl 1 _ rfl
        obtain ⟨g4, -⟩ := ho.cel 1 rfl 4 _ rfl
        obtain ⟨q0, -⟩ := ho.cel 2 rfl 0 _ rfl
        obtain ⟨q4, -⟩ := ho.cel 2 rfl 4 _ rfl
        obtain ⟨p0, -⟩ := ho.cel 3 rfl 0 _ rfl
        clear ho hX hY hC htl htk hrows hleft el htaken hlen hh HCS HO6 HX HY HC HTL HVE
        generalize hxl : X'.tape.length = xl at *
        generalize hxk : X'.taken.length = xk at *
        generalize hyl : Y'.nums.length = yl at *
        generalize hyk : Y'.taken.length = yk at *
        have HNAMES := Lib.hid (And.intro hxl (And.intro hxk (And.intro hyl hyk)))
        clear hxl hxk hyl hyk
        have SCB : Hid (∀ wx, Below wc.heap.size wc wx → (fun wx => wx.cell? ⟨bx, 1, none⟩ = some (.slice ta' xl tc') ∧ wx.cell? ⟨bx, 4, none⟩ = some (.slice ka xk kc) ∧ wx.cell? ⟨bz, 0, none⟩ = some (.slice mb yl mc) ∧ wx.cell? ⟨bz, 4, none⟩ = some (.slice kb yk kd) ∧ wx.cell? ⟨bu, 0, none⟩ = some (.int .i64 a0)) wx) := Lib.hid (fun wx hb => ⟨cell_below g1 hb, cell_below g4 hb, cell_below q0 hb, cell_below q4 hb, cell_below p0 hb⟩)
        have HE2 := Lib.hid he2
        clear he2
        obtain ⟨i0, hi0, hz0, hz1, hz2⟩ := info_parts info_rrec
        have Hi := Lib.hid hi0; clear hi0
        have Hz0 := Lib.hid hz0; clear hz0
        have Hz1 := Lib.hid hz1; clear hz1
        have Hz2 := Lib.hid hz2; clear hz2
        clear g1 g4 q0 q4 p0
        go_upto_region 16 with fail
        by_cases hq : e = 2
        · have ha0 := HE2.out hq
          subst hq
          subst ha0
          clear HE2
          refine wp_region_lexH (fun wx => wx.cell? ⟨bx, 1, none⟩ = some (.slice ta' xl tc') ∧ wx.cell? ⟨bx, 4, none⟩ = some (.slice ka xk kc) ∧ wx.cell? ⟨bz, 0, none⟩ = some (.slice mb yl mc) ∧ wx.cell? ⟨bz, 4, none⟩ = some (.slice kb yk kd) ∧ wx.cell? ⟨bu, 0, none⟩ = some (.int .i64 (xk : Int))) 45 (Array.replicate 45 false) (by kernel_rfl) (by kernel_rfl) ?_
          have b0 : Below wc.heap.size wc wc.drew := below_drew1 wc
          generalize wc.drew = wd at *
          refine wpAnyH_seg 0 10 _ #[true, true, true, true, true, true, true, true, true, true, false, false, false, false, false, false, false, false, false, false, false, false, false, false, false, false, false, false, false, false, false, false, false, false, false, false, false, false, false, false, false, false, false, false, false] 35 (by kernel_rfl) noPanic_put (SCB.out _ b0) (by kernel_rfl) ?_
          simp only [List.take_succ_cons, List.take_zero, List.drop_zero]
          repeat (first
            | (refine wpSegH_no (by rfl) ?_; simp only [Act.put, List.setIfInBounds_toArray, List.set_cons_zero, List.set_cons_succ])
            | (refine wpSegH_yes (by rfl) ?_; apply Exists.intro; apply And.intro; (· (intro wx hS; (try dsimp only at hS); go_simp; first | done | with_reducible rfl)); simp only [Act.put, List.setIfInBounds_toArray, List.set_cons_zero, List.set_cons_succ]))
          refine wpSegH_nil ?_
          refine wpAnyH_seg 11 7 _ #[true, true, true, true, true, true, true, true, true, true, false, true, true, true, true, true, true, true, false, false, false, false, false, false, false, false, false, false, false, false, false, false, false, false, false, false, false, false, false, false, false, false, false, false, false] 28 (by kernel_rfl) noPanic_put (SCB.out _ b0) (by kernel_rfl) ?_
          simp only [List.take_succ_cons, List.take_zero, List.drop_succ_cons, List.drop_zero]
          repeat (first
            | (refine wpSegH_no (by rfl) ?_; simp only [Act.put, List.setIfInBounds_toArray, List.set_cons_zero, List.set_cons_succ])
            | (refine wpSegH_yes (by rfl) ?_; apply Exists.intro; apply And.intro; (· (intro wx hS; (try dsimp only at hS); go_simp; first | done | with_reducible rfl)); simp only [Act.put, List.setIfInBounds_toArray, List.set_cons_zero, List.set_cons_succ]))
          refine wpSegH_nil ?_
          refine wpAnyH_one 10 _ #[true, true, true, true, true, true, true, true, true, true, true, true, true, true, true, true, true, true, false, false, false, false, false, false, false, false, false, false, false, false, false, false, false, false, false, false, false, false, false, false, false, false, false, false, false] 27 (by kernel_rfl) (fun K hK => ?_)
          have HKK := Lib.hid hK
          clear hK
          simp only [List.drop_succ_cons, List.drop_zero]
          refine headH_mk (by rfl) ?_
          go_simp
          refine (HLEFT.out _ b0).mono ?_
          rintro r w1 ⟨rfl, m1, rfl⟩
          have b1 : Below wc.heap.size wc (wd.drewN m1) := below_drewN b0 m1
          generalize wd.drewN m1 = w1 at *
          refine HKK.out _ _ (SCB.out _ b1) ?_
          clear HKK K
          refine wpAnyH_seg 18 4 _ #[true, true, true, true, true, true, true, true, true, true, true, true, true, true, true, true, true, true, true, true, true, true, false, false, false, false, false, false, false, false, false, false, false, false, false, false, false, false, false, false, false, false, false, false, false] 23 (by kernel_rfl) noPanic_put (SCB.out _ b1) (by kernel_rfl) ?_
          simp only [List.take_succ_cons, List.take_zero, List.drop_succ_cons, List.drop_zero]
          repeat (first
            | (refine wpSegH_no (by rfl) ?_; simp only [Act.put, List.setIfInBounds_toArray, List.set_cons_zero, List.set_cons_succ])
            | (refine wpSegH_yes (by rfl) ?_; apply Exists.intro; apply And.intro; (· (intro wx hS; (try dsimp only at hS); go_simp; first | done | with_reducible rfl)); simp only [Act.put, List.setIfInBounds_toArray, List.set_cons_zero, List.set_cons_succ]))
          refine wpSegH_nil ?_
          refine wpAnyH_seg 24 2 _ #[true, true, true, true, true, true, true, true, true, true, true, true, true, true, true, true, true, true, true, true, true, true, false, false, true, true, false, false, false, false, false, false, false, false, false, false, false, false, false, false, false, false, false, false, false] 21 (by kernel_rfl) noPanic_put (SCB.out _ b1) (by kernel_rfl) ?_
          simp only [List.take_succ_cons, List.take_zero, List.drop_succ_cons, List.drop_zero]
          repeat (first
            | (refine wpSegH_no (by rfl) ?_; simp only [Act.put, List.setIfInBounds_toArray, List.set_cons_zero, List.set_cons_succ])
            | (refine wpSegH_yes (by rfl) ?_; apply Exists.intro; apply And.intro; (· (intro wx hS; (try dsimp only at hS); go_simp; first | done | with_reducible rfl)); simp only [Act.put, List.setIfInBounds_toArray, List.set_cons_zero, List.set_cons_succ]))
          refine wpSegH_nil ?_
          refine wpAnyH_seg 27 2 _ #[true, true, true, true, true, true, true, true, true, true, true, true, true, true, true, true, true, true, true, true, true, true, false, false, true, true, false, true, true, false, false, false, false, false, false, false, false, false, false, false, false, false, false, false, false] 19 (by kernel_rfl) noPanic_put (SCB.out _ b1) (by kernel_rfl) ?_
          simp only [List.take_succ_cons, List.take_zero, List.drop_succ_cons, List.drop_zero]
          repeat (first
            | (refine wpSegH_no (by rfl) ?_; simp only [Act.put, List.setIfInBounds_toArray, List.set_cons_zero, List.set_cons_succ])
            | (refine wpSegH_yes (by rfl) ?_; apply Exists.intro; apply And.intro; (· (intro wx hS; (try dsimp only at hS); go_simp; first | done | with_reducible rfl)); simp only [Act.put, List.setIfInBounds_toArray, List.set_cons_zero, List.set_cons_succ]))
          refine wpSegH_nil ?_
          refine wpAnyH_two 22 23 _ #[true, true, true, true, true, true, true, true, true, true, true, true, true, true, true, true, true, true, true, true, true, true, true, false, true, true, false, true, true, false, false, false, false, false, false, false, false, false, false, false, false, false, false, false, false] #[true, true, true, true, true, true, true, true, true, true, true, true, true, true, true, true, true, true, true, true, true, true, false, true, true, true, false, true, true, false, false, false, false, false, false, false, false, false, false, false, false, false, false, false, false] 18 (by kernel_rfl) (fun K hK => ?_) (fun K hK => ?_)
          · skip
            have HKK := Lib.hid hK
            clear hK
            simp only [List.drop_succ_cons, List.drop_zero]
            refine headH_mk (by rfl) ?_
            go_simp
            refine (HTAKEN.out _ b1).mono ?_
            rintro r w2 ⟨ra, rc, rfl, k2, f2, hb2⟩
            have b2 : Below wc.heap.size wc w2 := below_on b1 hb2
            refine HKK.out _ _ (SCB.out _ b2) ?_
            clear HKK K
            have b3 : Below wc.heap.size wc (w2.alloc (.cells #[] 52)) := below_on b2 (below_alloc1 _ _)
            have hT : CellsAt (w2.alloc (.cells #[] 52)) ra (recCells t') := k2.cells.below (below_alloc1 _ _)
            have hTg : w2.heap.size ∉ blk ra := fun hc => by have := k2.lt _ hc; omega
            have hTl : ∀ x ∈ blk ra, x < (w2.alloc (.cells #[] 52)).heap.size := fun x hx => by have := k2.lt x hx; simp; omega
            have GH : w2.heap.size < (w2.alloc (.cells #[] 52)).heap.size := by simp
            have GW : wc.heap.size ≤ w2.heap.size := b2.size
            refine wpAnyH_one 23 _ #[true, true, true, true, true, true, true, true, true, true, true, true, true, true, true, true, true, true, true, true, true, true, true, true, true, true, false, true, true, false, false, false, false, false, false, false, false, false, false, false, false, false, false, false, false] 17 (by kernel_rfl) (fun K hK => ?_)
            have HKK := Lib.hid hK
            clear hK
            simp only [List.drop_succ_cons, List.drop_zero]
            refine headH_mk (by rfl) ?_
            go_simp
            refine HKK.out _ _ (SCB.out _ b3) ?_
            clear HKK K
            clear k2 f2 hb2
            generalize w2.alloc (.cells #[] 52) = w3 at *
            generalize w2.heap.size = g3 at *
            refine wpAnyH_one 26 _ #[true, true, true, true, true, true, true, true, true, true, true, true, true, true, true, true, true, true, true, true, true, true, true, true, true, true, true, true, true, false, false, false, false, false, false, false, false, false, false, false, false, false, false, false, false] 16 (by kernel_rfl) (fun K hK => ?_)
            have HKK := Lib.hid hK
            clear hK
            simp only [List.drop_succ_cons, List.drop_zero]
            refine headH_mk (by rfl) ?_
            refine wp_append_rowG (n := 0) (m := xk) (cs := []) (ds := recCells X'.taken) _ _ 23 (by rfl) 52 i0 _ Try.underlying23 Hi.out Hz0.out Hz1.out Hz2.out rfl (by omega) (by omega) (by rfl) (by rfl) (RowG.zero GH) (HROWS.out.1 _ b3) HLEN.out.1 (recc_one _) (by have := HLEN.out.2.2; omega) ?_
            intro e4 c4 w4 k4 ch4 f4
            have b4 : Below wc.heap.size wc w4 := Chg.below b3 ch4 (fun x hx => by simp [blk] at hx; omega)
            have h4 : ∀ x ∈ blk e4, wc.heap.size ≤ x := fun x hx => by
              have := b3.size
              rcases f4 x hx with h | h
              · simp [blk] at h; omega
              · omega
            have hT4 : CellsAt w4 ra (recCells t') := hT.chg ch4 (fun x hx hc => by simp [blk] at hc; subst hc; exact hTg hx)
            have hT4l : ∀ x ∈ blk ra, x < w4.heap.size := fun x hx => by have := hTl x hx; have := ch4.size; omega
            have hT4d : ∀ x ∈ blk ra, x ∉ blk e4 := fun x hx hc => by
              rcases f4 x hc with h | h
              · simp [blk] at h; subst h; exact hTg hx
              · have := hTl x hx; omega
            refine HKK.out _ _ (SCB.out _ b4) ?_
            clear HKK K
            refine wpAnyH_one 29 _ #[true, true, true, true, true, true, true, true, true, true, true, true, true, true, true, true, true, true, true, true, true, true, true, true, true, true, true, true, true, true, false, false, false, false, false, false, false, false, false, false, false, false, false, false, false] 15 (by kernel_rfl) (fun K hK => ?_)
            have HKK := Lib.hid hK
            clear hK
            simp only [List.drop_succ_cons, List.drop_zero]
            refine headH_mk (by rfl) ?_
            refine wp_append_rowG (n := 0 + xk) (m := yk) (cs := [] ++ recCells X'.taken) (ds := recCells Y'.taken) _ _ 23 (by rfl) 52 i0 _ Try.underlying23 Hi.out Hz0.out Hz1.out Hz2.out rfl (by omega) (by omega) (by rfl) (by rfl) k4 (HROWS.out.2 _ b4) HLEN.out.2.1 (recc_one _) (by have := HLEN.out.2.2; omega) ?_
            intro e5 c5 w5 k5 ch5 f5
            have b5 : Below wc.heap.size wc w5 := Chg.below b4 ch5 h4
            have hT5 : CellsAt w5 ra (recCells t') := hT4.chg ch5 hT4d
            refine HKK.out _ _ (SCB.out _ b5) ?_
            clear HKK K
            refine wpAnyH_one 30 _ #[true, true, true, true, true, true, true, true, true, true, true, true, true, true, true, true, true, true, true, true, true, true, true, true, true, true, true, true, true, true, true, false, false, false, false, false, false, false, false, false, false, false, false, false, false] 14 (by kernel_rfl) (fun K hK => ?_)
            have HKK := Lib.hid hK
            clear hK
            simp only [List.drop_succ_cons, List.drop_zero]
            refine headH_mk (by rfl) ?_
            go_simp
            have hre : [] ++ recCells X'.taken ++ recCells Y'.taken = recCells t' := by rw [HC2.out.1]; unfold recCells; simp
            have hlt5 : xk + yk = t'.length := HTK.out.symm
            rw [show 0 + xk + yk = t'.length by omega, hre] at k5
            rw [hlt5]
            refine (are_eq ra e5 rc c5 t' w5 (by have := HLEN.out.2.2; omega) (cells_recs hT5) (cells_recs k5.cells)).mono ?_
            rintro r w6 ⟨rfl, hb6⟩
            have b6 : Below wc.heap.size wc w6 := below_on b5 hb6
            refine HKK.out _ _ (SCB.out _ b6) ?_
            clear HKK K
            refine wpAnyH_seg 31 14 _ #[true, true, true, true, true, true, true, true, true, true, true, true, true, true, true, true, true, true, true, true, true, true, true, true, true, true, true, true, true, true, true, true, true, true, true, true, true, true, true, true, true, true, true, true, true] 0 (by kernel_rfl) noPanic_put (SCB.out _ b6) (by kernel_rfl) ?_
            simp only [List.take_succ_cons, List.take_zero, List.drop_succ_cons, List.drop_zero]
            repeat (first
              | (refine wpSegH_no (by rfl) ?_; simp only [Act.put, List.setIfInBounds_toArray, List.set_cons_zero, List.set_cons_succ])
              | (refine wpSegH_yes (by rfl) ?_; apply Exists.intro; apply And.intro; (· (intro wx hS; (try dsimp only at hS); go_simp; first | done | with_reducible rfl)); simp only [Act.put, List.setIfInBounds_toArray, List.set_cons_zero, List.set_cons_succ]))
            refine wpSegH_nil ?_
            refine wpAnyH_done (by kernel_rfl) (NoPanic.normal ?_) _
            have HREL : Hid (St w w6 p bx bz L N (k + 1)) := Lib.hid ⟨t', X', Y', rs', na, nc, ta', tc', ka, kc, mb, mc, tb, td, kb, kd, (((((HO.out.step b6).pick 3 rfl).drop))), HX2.out, HY2.out, HC2.out, HTL2.out⟩
            clear b6 b5 b4 b3 k5 k4 ch4 ch5 f4 f5 hT5 hT4 hT hre hlt5 hb6
            go_wp2
            exact ⟨⟨k + 1, by omega, by go_num, HREL⟩, by simp [intOf]; omega⟩
          · skip
            have b2 : Below wc.heap.size wc (w1.alloc (.cells #[] 52)) := below_on b1 (below_alloc1 _ _)
            have GH2 : w1.heap.size < (w1.alloc (.cells #[] 52)).heap.size := by simp
            have GW : wc.heap.size ≤ w1.heap.size := b1.size
            have HKK := Lib.hid hK
            clear hK
            simp only [List.drop_succ_cons, List.drop_zero]
            refine headH_mk (by rfl) ?_
            go_simp
            refine HKK.out _ _ (SCB.out _ b2) ?_
            clear HKK K
            generalize w1.alloc (.cells #[] 52) = w2 at *
            generalize w1.heap.size = g3 at *
            refine wpAnyH_one 22 _ #[true, true, true, true, true, true, true, true, true, true, true, true, true, true, true, true, true, true, true, true, true, true, true, true, true, true, false, true, true, false, false, false, false, false, false, false, false, false, false, false, false, false, false, false, false] 17 (by kernel_rfl) (fun K hK => ?_)
            have HKK := Lib.hid hK
            clear hK
            simp only [List.drop_succ_cons, List.drop_zero]
            refine headH_mk (by rfl) ?_
            go_simp
            refine (HTAKEN.out _ b2).mono ?_
            rintro r w3 ⟨ra, rc, rfl, k2, f2, hb2⟩
            have b3 : Below wc.heap.size wc w3 := below_on b2 hb2
            have hT : CellsAt w3 ra (recCells t') := k2.cells
            have hTg : g3 ∉ blk ra := fun hc => by have := f2 _ hc; omega
            have hTl : ∀ x ∈ blk ra, x < w3.heap.size := k2.lt
            have GH : g3 < w3.heap.size := Nat.lt_of_lt_of_le GH2 hb2.size
            refine HKK.out _ _ (SCB.out _ b3) ?_
            clear HKK K
            clear k2 f2 hb2
            refine wpAnyH_one 26 _ #[true, true, true, true, true, true, true, true, true, true, true, true, true, true, true, true, true, true, true, true, true, true, true, true, true, true, true, true, true, false, false, false, false, false, false, false, false, false, false, false, false, false, false, false, false] 16 (by kernel_rfl) (fun K hK => ?_)
            have HKK := Lib.hid hK
            clear hK
            simp only [List.drop_succ_cons, List.drop_zero]
            refine headH_mk (by rfl) ?_
            refine wp_append_rowG (n := 0) (m := xk) (cs := []) (ds := recCells X'.taken) _ _ 23 (by rfl) 52 i0 _ Try.underlying23 Hi.out Hz0.out Hz1.out Hz2.out rfl (by omega) (by omega) (by rfl) (by rfl) (RowG.zero GH) (HROWS.out.1 _ b3) HLEN.out.1 (recc_one _) (by have := HLEN.out.2.2; omega) ?_
            intro e4 c4 w4 k4 ch4 f4
            have b4 : Below wc.heap.size wc w4 := Chg.below b3 ch4 (fun x hx => by simp [blk] at hx; omega)
            have h4 : ∀ x ∈ blk e4, wc.heap.size ≤ x := fun x hx => by
              have := b3.size
              rcases f4 x hx with h | h
              · simp [blk] at h; omega
              · omega
            have hT4 : CellsAt w4 ra (recCells t') := hT.chg ch4 (fun x hx hc => by simp [blk] at hc; subst hc; exact hTg hx)
            have hT4l : ∀ x ∈ blk ra, x < w4.heap.size := fun x hx => by have := hTl x hx; have := ch4.size; omega
            have hT4d : ∀ x ∈ blk ra, x ∉ blk e4 := fun x hx hc => by
              rcases f4 x hc with h | h
              · simp [blk] at h; subst h; exact hTg hx
              · have := hTl x hx; omega
            refine HKK.out _ _ (SCB.out _ b4) ?_
            clear HKK K
            refine wpAnyH_one 29 _ #[true, true, true, true, true, true, true, true, true, true, true, true, true, true, true, true, true, true, true, true, true, true, true, true, true, true, true, true, true, true, false, false, false, false, false, false, false, false, false, false, false, false, false, false, false] 15 (by kernel_rfl) (fun K hK => ?_)
            have HKK := Lib.hid hK
            clear hK
            simp only [List.drop_succ_cons, List.drop_zero]
            refine headH_mk (by rfl) ?_
            refine wp_append_rowG (n := 0 + xk) (m := yk) (cs := [] ++ recCells X'.taken) (ds := recCells Y'.taken) _ _ 23 (by rfl) 52 i0 _ Try.underlying23 Hi.out Hz0.out Hz1.out Hz2.out rfl (by omega) (by omega) (by rfl) (by rfl) k4 (HROWS.out.2 _ b4) HLEN.out.2.1 (recc_one _) (by have := HLEN.out.2.2; omega) ?_
            intro e5 c5 w5 k5 ch5 f5
            have b5 : Below wc.heap.size wc w5 := Chg.below b4 ch5 h4
            have hT5 : CellsAt w5 ra (recCells t') := hT4.chg ch5 hT4d
            refine HKK.out _ _ (SCB.out _ b5) ?_
            clear HKK K
            refine wpAnyH_one 30 _ #[true, true, true, true, true, true, true, true, true, true, true, true, true, true, true, true, true, true, true, true, true, true, true, true, true, true, true, true, true, true, true, false, false, false, false, false, false, false, false, false, false, false, false, false, false] 14 (by kernel_rfl) (fun K hK => ?_)
            have HKK := Lib.hid hK
            clear hK
            simp only [List.drop_succ_cons, List.drop_zero]
            refine headH_mk (by rfl) ?_
            go_simp
            have hre : [] ++ recCells X'.taken ++ recCells Y'.taken = recCells t' := by rw [HC2.out.1]; unfold recCells; simp
            have hlt5 : xk + yk = t'.length := HTK.out.symm
            rw [show 0 + xk + yk = t'.length by omega, hre] at k5
            rw [hlt5]
            refine (are_eq ra e5 rc c5 t' w5 (by have := HLEN.out.2.2; omega) (cells_recs hT5) (cells_recs k5.cells)).mono ?_
            rintro r w6 ⟨rfl, hb6⟩
            have b6 : Below wc.heap.size wc w6 := below_on b5 hb6
            refine HKK.out _ _ (SCB.out _ b6) ?_
            clear HKK K
            refine wpAnyH_seg 31 14 _ #[true, true, true, true, true, true, true, true, true, true, true, true, true, true, true, true, true, true, true, true, true, true, true, true, true, true, true, true, true, true, true, true, true, true, true, true, true, true, true, true, true, true, true, true, true] 0 (by kernel_rfl) noPanic_put (SCB.out _ b6) (by kernel_rfl) ?_
            simp only [List.take_succ_cons, List.take_zero, List.drop_succ_cons, List.drop_zero]
            repeat (first
              | (refine wpSegH_no (by rfl) ?_; simp only [Act.put, List.setIfInBounds_toArray, List.set_cons_zero, List.set_cons_succ])
              | (refine wpSegH_yes (by rfl) ?_; apply Exists.intro; apply And.intro; (· (intro wx hS; (try dsimp only at hS); go_simp; first | done | with_reducible rfl)); simp only [Act.put, List.setIfInBounds_toArray, List.set_cons_zero, List.set_cons_succ]))
            refine wpSegH_nil ?_
            refine wpAnyH_done (by kernel_rfl) (NoPanic.normal ?_) _
            have HREL : Hid (St w w6 p bx bz L N (k + 1)) := Lib.hid ⟨t', X', Y', rs', na, nc, ta', tc', ka, kc, mb, mc, tb, td, kb, kd, (((((HO.out.step b6).pick 3 rfl).drop))), HX2.out, HY2.out, HC2.out, HTL2.out⟩
            clear b6 b5 b4 b3 k5 k4 ch4 ch5 f4 f5 hT5 hT4 hT hre hlt5 hb6
            go_wp2
            exact ⟨⟨k + 1, by omega, by go_num, HREL⟩, by simp [intOf]; omega⟩
        · have hq2 : (e == 2) = false := by simp [hq]
          clear HE2 hq
          refine wp_region_lexH (fun wx => wx.cell? ⟨bx, 1, none⟩ = some (.slice ta' xl tc') ∧ wx.cell? ⟨bx, 4, none⟩ = some (.slice ka xk kc) ∧ wx.cell? ⟨bz, 0, none⟩ = some (.slice mb yl mc) ∧ wx.cell? ⟨bz, 4, none⟩ = some (.slice kb yk kd) ∧ wx.cell? ⟨bu, 0, none⟩ = some (.int .i64 a0)) 45 (Array.replicate 45 false) (by kernel_rfl) (by kernel_rfl) ?_
          have b0 : Below wc.heap.size wc wc.drew := below_drew1 wc
          generalize wc.drew = wd at *
          refine wpAnyH_seg 0 10 _ #[true, true, true, true, true, true, true, true, true, true, false, false, false, false, false, false, false, false, false, false, false, false, false, false, false, false, false, false, false, false, false, false, false, false, false, false, false, false, false, false, false, false, false, false, false] 35 (by kernel_rfl) noPanic_put (SCB.out _ b0) (by kernel_rfl) ?_
          simp only [List.take_succ_cons, List.take_zero, List.drop_zero]
          repeat (first
            | (refine wpSegH_no (by rfl) ?_; simp only [Act.put, List.setIfInBounds_toArray, List.set_cons_zero, List.set_cons_succ])
            | (refine wpSegH_yes (by rfl) ?_; apply Exists.intro; apply And.intro; (· (intro wx hS; (try dsimp only at hS); go_simp; first | done | with_reducible rfl)); simp only [Act.put, List.setIfInBounds_toArray, List.set_cons_zero, List.set_cons_succ]))
          refine wpSegH_nil ?_
          refine wpAnyH_seg 11 7 _ #[true, true, true, true, true, true, true, true, true, true, false, true, true, true, true, true, true, true, false, false, false, false, false, false, false, false, false, false, false, false, false, false, false, false, false, false, false, false, false, false, false, false, false, false, false] 28 (by kernel_rfl) noPanic_put (SCB.out _ b0) (by kernel_rfl) ?_
          simp only [List.take_succ_cons, List.take_zero, List.drop_succ_cons, List.drop_zero]
          repeat (first
            | (refine wpSegH_no (by rfl) ?_; simp only [Act.put, List.setIfInBounds_toArray, List.set_cons_zero, List.set_cons_succ])
            | (refine wpSegH_yes (by rfl) ?_; apply Exists.intro; apply And.intro; (· (intro wx hS; (try dsimp only at hS); go_simp; first | done | with_reducible rfl)); simp only [Act.put, List.setIfInBounds_toArray, List.set_cons_zero, List.set_cons_succ]))
          refine wpSegH_nil ?_
          refine wpAnyH_one 10 _ #[true, true, true, true, true, true, true, true, true, true, true, true, true, true, true, true, true, true, false, false, false, false, false, false, false, false, false, false, false, false, false, false, false, false, false, false, false, false, false, false, false, false, false, false, false] 27 (by kernel_rfl) (fun K hK => ?_)
          have HKK := Lib.hid hK
          clear hK
          simp only [List.drop_succ_cons, List.drop_zero]
          refine headH_mk (by rfl) ?_
          go_simp
          refine (HLEFT.out _ b0).mono ?_
          rintro r w1 ⟨rfl, m1, rfl⟩
          have b1 : Below wc.heap.size wc (wd.drewN m1) := below_drewN b0 m1
          generalize wd.drewN m1 = w1 at *
          refine HKK.out _ _ (SCB.out _ b1) ?_
          clear HKK K
          refine wpAnyH_seg 18 4 _ #[true, true, true, true, true, true, true, true, true, true, true, true, true, true, true, true, true, true, true, true, true, true, false, false, false, false, false, false, false, false, false, false, false, false, false, false, false, false, false, false, false, false, false, false, false] 23 (by kernel_rfl) noPanic_put (SCB.out _ b1) (by kernel_rfl) ?_
          simp only [List.take_succ_cons, List.take_zero, List.drop_succ_cons, List.drop_zero]
          repeat (first
            | (refine wpSegH_no (by rfl) ?_; simp only [Act.put, List.setIfInBounds_toArray, List.set_cons_zero, List.set_cons_succ])
            | (refine wpSegH_yes (by rfl) ?_; apply Exists.intro; apply And.intro; (· (intro wx hS; (try dsimp only at hS); go_simp; first | done | with_reducible rfl)); simp only [Act.put, List.setIfInBounds_toArray, List.set_cons_zero, List.set_cons_succ]))
          refine wpSegH_nil ?_
          refine wpAnyH_seg 24 2 _ #[true, true, true, true, true, true, true, true, true, true, true, true, true, true, true, true, true, true, true, true, true, true, false, false, true, true, false, false, false, false, false, false, false, false, false, false, false, false, false, false, false, false, false, false, false] 21 (by kernel_rfl) noPanic_put (SCB.out _ b1) (by kernel_rfl) ?_
          simp only [List.take_succ_cons, List.take_zero, List.drop_succ_cons, List.drop_zero]
          repeat (first
            | (refine wpSegH_no (by rfl) ?_; simp only [Act.put, List.setIfInBounds_toArray, List.set_cons_zero, List.set_cons_succ])
            | (refine wpSegH_yes (by rfl) ?_; apply Exists.intro; apply And.intro; (· (intro wx hS; (try dsimp only at hS); go_simp; first | done | with_reducible rfl)); simp only [Act.put, List.setIfInBounds_toArray, List.set_cons_zero, List.set_cons_succ]))
          refine wpSegH_nil ?_
          refine wpAnyH_seg 27 2 _ #[true, true, true, true, true, true, true, true, true, true, true, true, true, true, true, true, true, true, true, true, true, true, false, false, true, true, false, true, true, false, false, false, false, false, false, false, false, false, false, false, false, false, false, false, false] 19 (by kernel_rfl) noPanic_put (SCB.out _ b1) (by kernel_rfl) ?_
          simp only [List.take_succ_cons, List.take_zero, List.drop_succ_cons, List.drop_zero]
          repeat (first
            | (refine wpSegH_no (by rfl) ?_; simp only [Act.put, List.setIfInBounds_toArray, List.set_cons_zero, List.set_cons_succ])
            | (refine wpSegH_yes (by rfl) ?_; apply Exists.intro; apply And.intro; (· (intro wx hS; (try dsimp only at hS); go_simp; first | done | with_reducible rfl)); simp only [Act.put, List.setIfInBounds_toArray, List.set_cons_zero, List.set_cons_succ]))
          refine wpSegH_nil ?_
          refine wpAnyH_two 22 23 _ #[true, true, true, true, true, true, true, true, true, true, true, true, true, true, true, true, true, true, true, true, true, true, true, false, true, true, false, true, true, false, false, false, false, false, false, false, false, false, false, false, false, false, false, false, false] #[true, true, true, true, true, true, true, true, true, true, true, true, true, true, true, true, true, true, true, true, true, true, false, true, true, true, false, true, true, false, false, false, false, false, false, false, false, false, false, false, false, false, false, false, false] 18 (by kernel_rfl) (fun K hK => ?_) (fun K hK => ?_)
          · skip
            have HKK := Lib.hid hK
            clear hK
            simp only [List.drop_succ_cons, List.drop_zero]
            refine headH_mk (by rfl) ?_
            go_simp
            refine (HTAKEN.out _ b1).mono ?_
            rintro r w2 ⟨ra, rc, rfl, k2, f2, hb2⟩
            have b2 : Below wc.heap.size wc w2 := below_on b1 hb2
            refine HKK.out _ _ (SCB.out _ b2) ?_
            clear HKK K
            have b3 : Below wc.heap.size wc (w2.alloc (.cells #[] 52)) := below_on b2 (below_alloc1 _ _)
            have hT : CellsAt (w2.alloc (.cells #[] 52)) ra (recCells t') := k2.cells.below (below_alloc1 _ _)
            have hTg : w2.heap.size ∉ blk ra := fun hc => by have := k2.lt _ hc; omega
            have hTl : ∀ x ∈ blk ra, x < (w2.alloc (.cells #[] 52)).heap.size := fun x hx => by have := k2.lt x hx; simp; omega
            have GH : w2.heap.size < (w2.alloc (.cells #[] 52)).heap.size := by simp
            have GW : wc.heap.size ≤ w2.heap.size := b2.size
            refine wpAnyH_one 23 _ #[true, true, true, true, true, true, true, true, true, true, true, true, true, true, true, true, true, true, true, true, true, true, true, true, true, true, false, true, true, false, false, false, false, false, false, false, false, false, false, false, false, false, false, false, false] 17 (by kernel_rfl) (fun K hK => ?_)
            have HKK := Lib.hid hK
            clear hK
            simp only [List.drop_succ_cons, List.drop_zero]
            refine headH_mk (by rfl) ?_
            go_simp
            refine HKK.out _ _ (SCB.out _ b3) ?_
            clear HKK K
            clear k2 f2 hb2
            generalize w2.alloc (.cells #[] 52) = w3 at *
            generalize w2.heap.size = g3 at *
            refine wpAnyH_one 26 _ #[true, true, true, true, true, true, true, true, true, true, true, true, true, true, true, true, true, true, true, true, true, true, true, true, true, true, true, true, true, false, false, false, false, false, false, false, false, false, false, false, false, false, false, false, false] 16 (by kernel_rfl) (fun K hK => ?_)
            have HKK := Lib.hid hK
            clear hK
            simp only [List.drop_succ_cons, List.drop_zero]
            refine headH_mk (by rfl) ?_
            refine wp_append_rowG (n := 0) (m := xk) (cs := []) (ds := recCells X'.taken) _ _ 23 (by rfl) 52 i0 _ Try.underlying23 Hi.out Hz0.out Hz1.out Hz2.out rfl (by omega) (by omega) (by rfl) (by rfl) (RowG.zero GH) (HROWS.out.1 _ b3) HLEN.out.1 (recc_one _) (by have := HLEN.out.2.2; omega) ?_
            intro e4 c4 w4 k4 ch4 f4
            have b4 : Below wc.heap.size wc w4 := Chg.below b3 ch4 (fun x hx => by simp [blk] at hx; omega)
            have h4 : ∀ x ∈ blk e4, wc.heap.size ≤ x := fun x hx => by
              have := b3.size
              rcases f4 x hx with h | h
              · simp [blk] at h; omega
              · omega
            have hT4 : CellsAt w4 ra (recCells t') := hT.chg ch4 (fun x hx hc => by simp [blk] at hc; subst hc; exact hTg hx)
            have hT4l : ∀ x ∈ blk ra, x < w4.heap.size := fun x hx => by have := hTl x hx; have := ch4.size; omega
            have hT4d : ∀ x ∈ blk ra, x ∉ blk e4 := fun x hx hc => by
              rcases f4 x hc with h | h
              · simp [blk] at h; subst h; exact hTg hx
              · have := hTl x hx; omega
            refine HKK.out _ _ (SCB.out _ b4) ?_
            clear HKK K
            refine wpAnyH_one 29 _ #[true, true, true, true, true, true, true, true, true, true, true, true, true, true, true, true, true, true, true, true, true, true, true, true, true, true, true, true, true, true, false, false, false, false, false, false, false, false, false, false, false, false, false, false, false] 15 (by kernel_rfl) (fun K hK => ?_)
            have HKK := Lib.hid hK
            clear hK
            simp only [List.drop_succ_cons, List.drop_zero]
            refine headH_mk (by rfl) ?_
            refine wp_append_rowG (n := 0 + xk) (m := yk) (cs := [] ++ recCells X'.taken) (ds := recCells Y'.taken) _ _ 23 (by rfl) 52 i0 _ Try.underlying23 Hi.out Hz0.out Hz1.out Hz2.out rfl (by omega) (by omega) (by rfl) (by rfl) k4 (HROWS.out.2 _ b4) HLEN.out.2.1 (recc_one _) (by have := HLEN.out.2.2; omega) ?_
            intro e5 c5 w5 k5 ch5 f5
            have b5 : Below wc.heap.size wc w5 := Chg.below b4 ch5 h4
            have hT5 : CellsAt w5 ra (recCells t') := hT4.chg ch5 hT4d
            refine HKK.out _ _ (SCB.out _ b5) ?_
            clear HKK K
            refine wpAnyH_one 30 _ #[true, true, true, true, true, true, true, true, true, true, true, true, true, true, true, true, true, true, true, true, true, true, true, true, true, true, true, true, true, true, true, false, false, false, false, false, false, false, false, false, false, false, false, false, false] 14 (by kernel_rfl) (fun K hK => ?_)
            have HKK := Lib.hid hK
            clear hK
            simp only [List.drop_succ_cons, List.drop_zero]
            refine headH_mk (by rfl) ?_
            go_simp
            have hre : [] ++ recCells X'.taken ++ recCells Y'.taken = recCells t' := by rw [HC2.out.1]; unfold recCells; simp
            have hlt5 : xk + yk = t'.length := HTK.out.symm
            rw [show 0 + xk + yk = t'.length by omega, hre] at k5
            rw [hlt5]
            refine (are_eq ra e5 rc c5 t' w5 (by have := HLEN.out.2.2; omega) (cells_recs hT5) (cells_recs k5.cells)).mono ?_
            rintro r w6 ⟨rfl, hb6⟩
            have b6 : Below wc.heap.size wc w6 := below_on b5 hb6
            refine HKK.out _ _ (SCB.out _ b6) ?_
            clear HKK K
            refine wpAnyH_seg 31 14 _ #[true, true, true, true, true, true, true, true, true, true, true, true, true, true, true, true, true, true, true, true, true, true, true, true, true, true, true, true, true, true, true, true, true, true, true, true, true, true, true, true, true, true, true, true, true] 0 (by kernel_rfl) noPanic_put (SCB.out _ b6) (by kernel_rfl) ?_
            simp only [List.take_succ_cons, List.take_zero, List.drop_succ_cons, List.drop_zero]
            repeat (first
              | (refine wpSegH_no (by rfl) ?_; simp only [Act.put, List.setIfInBounds_toArray, List.set_cons_zero, List.set_cons_succ])
              | (refine wpSegH_yes (by rfl) ?_; apply Exists.intro; apply And.intro; (· (intro wx hS; (try dsimp only at hS); go_simp; first | done | with_reducible rfl)); simp only [Act.put, List.setIfInBounds_toArray, List.set_cons_zero, List.set_cons_succ]))
            refine wpSegH_nil ?_
            refine wpAnyH_done (by kernel_rfl) (NoPanic.normal ?_) _
            have HREL : Hid (St w w6 p bx bz L N (k + 1)) := Lib.hid ⟨t', X', Y', rs', na, nc, ta', tc', ka, kc, mb, mc, tb, td, kb, kd, (((((HO.out.step b6).pick 3 rfl).drop))), HX2.out, HY2.out, HC2.out, HTL2.out⟩
            clear b6 b5 b4 b3 k5 k4 ch4 ch5 f4 f5 hT5 hT4 hT hre hlt5 hb6
            go_wp2
            exact ⟨⟨k + 1, by omega, by go_num, HREL⟩, by simp [intOf]; omega⟩
          · skip
            have b2 : Below wc.heap.size wc (w1.alloc (.cells #[] 52)) := below_on b1 (below_alloc1 _ _)
            have GH2 : w1.heap.size < (w1.alloc (.cells #[] 52)).heap.size := by simp
            have GW : wc.heap.size ≤ w1.heap.size := b1.size
            have HKK := Lib.hid hK
            clear hK
            simp only [List.drop_succ_cons, List.drop_zero]
            refine headH_mk (by rfl) ?_
            go_simp
            refine HKK.out _ _ (SCB.out _ b2) ?_
            clear HKK K
            generalize w1.alloc (.cells #[] 52) = w2 at *
            generalize w1.heap.size = g3 at *
            refine wpAnyH_one 22 _ #[true, true, true, true, true, true, true, true, true, true, true, true, true, true, true, true, true, true, true, true, true, true, true, true, true, true, false, true, true, false, false, false, false, false, false, false, false, false, false, false, false, false, false, false, false] 17 (by kernel_rfl) (fun K hK => ?_)
            have HKK := Lib.hid hK
            clear hK
            simp only [List.drop_succ_cons, List.drop_zero]
            refine headH_mk (by rfl) ?_
            go_simp
            refine (HTAKEN.out _ b2).mono ?_
            rintro r w3 ⟨ra, rc, rfl, k2, f2, hb2⟩
            have b3 : Below wc.heap.size wc w3 := below_on b2 hb2
            have hT : CellsAt w3 ra (recCells t') := k2.cells
            have hTg : g3 ∉ blk ra := fun hc => by have := f2 _ hc; omega
            have hTl : ∀ x ∈ blk ra, x < w3.heap.size := k2.lt
            have GH : g3 < w3.heap.size := Nat.lt_of_lt_of_le GH2 hb2.size
            refine HKK.out _ _ (SCB.out _ b3) ?_
            clear HKK K
            clear k2 f2 hb2
            refine wpAnyH_one 26 _ #[true, true, true, true, true, true, true, true, true, true, true, true, true, true, true, true, true, true, true, true, true, true, true, true, true, true, true, true, true, false, false, false, false, false, false, false, false, false, false, false, false, false, false, false, false] 16 (by kernel_rfl) (fun K hK => ?_)
            have HKK := Lib.hid hK
            clear hK
            simp only [List.drop_succ_cons, List.drop_zero]
            refine headH_mk (by rfl) ?_
            refine wp_append_rowG (n := 0) (m := xk) (cs := []) (ds := recCells X'.taken) _ _ 23 (by rfl) 52 i0 _ Try.underlying23 Hi.out Hz0.out Hz1.out Hz2.out rfl (by omega) (by omega) (by rfl) (by rfl) (RowG.zero GH) (HROWS.out.1 _ b3) HLEN.out.1 (recc_one _) (by have := HLEN.out.2.2; omega) ?_
            intro e4 c4 w4 k4 ch4 f4
            have b4 : Below wc.heap.size wc w4 := Chg.below b3 ch4 (fun x hx => by simp [blk] at hx; omega)
            have h4 : ∀ x ∈ blk e4, wc.heap.size ≤ x := fun x hx => by
              have := b3.size
              rcases f4 x hx with h | h
              · simp [blk] at h; omega
              · omega
            have hT4 : CellsAt w4 ra (recCells t') := hT.chg ch4 (fun x hx hc => by simp [blk] at hc; subst hc; exact hTg hx)
            have hT4l : ∀ x ∈ blk ra, x < w4.heap.size := fun x hx => by have := hTl x hx; have := ch4.size; omega
            have hT4d : ∀ x ∈ blk ra, x ∉ blk e4 := fun x hx hc => by
              rcases f4 x hc with h | h
              · simp [blk] at h; subst h; exact hTg hx
              · have := hTl x hx; omega
            refine HKK.out _ _ (SCB.out _ b4) ?_
            clear HKK K
            refine wpAnyH_one 29 _ #[true, true, true, true, true, true, true, true, true, true, true, true, true, true, true, true, true, true, true, true, true, true, true, true, true, true, true, true, true, true, false, false, false, false, false, false, false, false, false, false, false, false, false, false, false] 15 (by kernel_rfl) (fun K hK => ?_)
            have HKK := Lib.hid hK
            clear hK
            simp only [List.drop_succ_cons, List.drop_zero]
            refine headH_mk (by rfl) ?_
            refine wp_append_rowG (n := 0 + xk) (m := yk) (cs := [] ++ recCells X'.taken) (ds := recCells Y'.taken) _ _ 23 (by rfl) 52 i0 _ Try.underlying23 Hi.out Hz0.out Hz1.out Hz2.out rfl (by omega) (by omega) (by rfl) (by rfl) k4 (HROWS.out.2 _ b4) HLEN.out.2.1 (recc_one _) (by have := HLEN.out.2.2; omega) ?_
            intro e5 c5 w5 k5 ch5 f5
            have b5 : Below wc.heap.size wc w5 := Chg.below b4 ch5 h4
            have hT5 : CellsAt w5 ra (recCells t') := hT4.chg ch5 hT4d
            refine HKK.out _ _ (SCB.out _ b5) ?_
            clear HKK K
            refine wpAnyH_one 30 _ #[true, true, true, true, true, true, true, true, true, true, true, true, true, true, true, true, true, true, true, true, true, true, true, true, true, true, true, true, true, true, true, false, false, false, false, false, false, false, false, false, false, false, false, false, false] 14 (by kernel_rfl) (fun K hK => ?_)
            have HKK := Lib.hid hK
            clear hK
            simp only [List.drop_succ_cons, List.drop_zero]
            refine headH_mk (by rfl) ?_
            go_simp
            have hre : [] ++ recCells X'.taken ++ recCells Y'.taken = recCells t' := by rw [HC2.out.1]; unfold recCells; simp
            have hlt5 : xk + yk = t'.length := HTK.out.symm
            rw [show 0 + xk + yk = t'.length by omega, hre] at k5
            rw [hlt5]
            refine (are_eq ra e5 rc c5 t' w5 (by have := HLEN.out.2.2; omega) (cells_recs hT5) (cells_recs k5.cells)).mono ?_
            rintro r w6 ⟨rfl, hb6⟩
            have b6 : Below wc.heap.size wc w6 := below_on b5 hb6
            refine HKK.out _ _ (SCB.out _ b6) ?_
            clear HKK K
            refine wpAnyH_seg 31 14 _ #[true, true, true, true, true, true, true, true, true, true, true, true, true, true, true, true, true, true, true, true, true, true, true, true, true, true, true, true, true, true, true, true, true, true, true, true, true, true, true, true, true, true, true, true, true] 0 (by kernel_rfl) noPanic_put (SCB.out _ b6) (by kernel_rfl) ?_
            simp only [List.take_succ_cons, List.take_zero, List.drop_succ_cons, List.drop_zero]
            repeat (first
              | (refine wpSegH_no (by rfl) ?_; simp only [Act.put, List.setIfInBounds_toArray, List.set_cons_zero, List.set_cons_succ])
              | (refine wpSegH_yes (by rfl) ?_; apply Exists.intro; apply And.intro; (· (intro wx hS; (try dsimp only at hS); go_simp; first | done | with_reducible rfl)); simp only [Act.put, List.setIfInBounds_toArray, List.set_cons_zero, List.set_cons_succ]))
            refine wpSegH_nil ?_
            refine wpAnyH_done (by kernel_rfl) (NoPanic.normal ?_) _
            have HREL : Hid (St w w6 p bx bz L N (k + 1)) := Lib.hid ⟨t', X', Y', rs', na, nc, ta', tc', ka, kc, mb, mc, tb, td, kb, kd, (((((HO.out.step b6).pick 3 rfl).drop))), HX2.out, HY2.out, HC2.out, HTL2.out⟩
            clear b6 b5 b4 b3 k5 k4 ch4 ch5 f4 f5 hT5 hT4 hT hre hlt5 hb6
            go_wp2
            exact ⟨⟨k + 1, by omega, by go_num, HREL⟩, by simp [intOf]; omega⟩
    · obtain ⟨t, X, Y, rs, na, nc, xa, xc, ka, kc, mb, mc, tb, td, kb, kd, ho, -⟩ := hr.out
      have HBE := Lib.hid ho.bel
      clear hr ho
      have hcase : (¬ k < n1) ∨ (k < n1 ∧ ¬ k < 40) := by omega
      clear hlt
      rcases hcase with z1 | ⟨z1, z2⟩
      all_goals
        go_wp2
        go_ret
        exact ⟨rfl, HBE.out⟩
end Go.Proofs.Ytnmkkeifdfhpfaa.sourceChains
