/-
  The walk of the program's check of all.
-/
import Derived.Test.YtdeilfnfpgjnnaaDoorWCode4
open Go Go.RowKit
set_option linter.unusedVariables false
namespace Go.Proofs.YtdeilfnfpgjnnaaDoor
/-- All functions: the first that may not be. -/
def fnsI (nf nc nk : Nat) (lk : Int) : Nat → List (List In4) → Int × Int × Int
  | _, [] => (0, 0, 0)
  | i, f :: l => if (funI nf nc nk lk f).2 = 0 then fnsI nf nc nk lk (i + 1) l else (i, funI nf nc nk lk f)
/-- What the answer is: the function, the instruction, the error's number (0: it may be). -/
def chkI (d : PD) : Int × Int × Int := if parI d.fs.length d.cs d.lk d.ks = 0 then fnsI d.fs.length d.cs.length d.ks.length d.lk 0 d.fs else (-1, -1, parI d.fs.length d.cs d.lk d.ks)
theorem fnsI_drop {nf nc nk : Nat} {lk : Int} (l : List (List In4)) (i : Nat) (h : i < l.length) : fnsI nf nc nk lk i (l.drop i) = if (funI nf nc nk lk l[i]).2 = 0 then fnsI nf nc nk lk (i + 1) (l.drop (i + 1)) else ((i : Int), funI nf nc nk lk l[i]) := by
  rw [List.drop_eq_getElem_cons h]; rfl
theorem parI_zero {nf : Nat} {cs : List Int} {lk : Int} {ks : List Ca3} (h : parI nf cs lk ks = 0) : 1 ≤ nf ∧ nf ≤ 16 ∧ cs.length ≤ 8 ∧ ks.length ≤ 32 ∧ 0 ≤ lk ∧ lk ≤ 8 ∧ cs.all (fun r => wit r 0 16) = true ∧ ks.all (casI cs.length) = true := by
  unfold parI at h
  split at h
  · rename_i h1
    split at h
    · rename_i h2
      simp only [Bool.and_eq_true, decide_eq_true_eq, wit] at h1
      rw [Bool.and_eq_true] at h2
      exact ⟨by omega, by omega, by omega, by omega, by omega, by omega, h2.1, h2.2⟩
    · simp at h
  · simp at h
/-- A program's value in memory. -/
def PAt (w : World) (fa ca ka : Option Addr) (d : PD) : Prop := FunAt w fa d.fs ∧ IntsAt w ca d.cs ∧ CasAt w ka d.ks
theorem PAt.below {w w' : World} {fa ca ka : Option Addr} {d : PD} (h : PAt w fa ca ka d) (hb : Below w.heap.size w w') : PAt w' fa ca ka d := ⟨h.1.below hb, h.2.1.below hb, h.2.2.below hb⟩
theorem results_cell_tmp {P : Program} {fn : Func} {p t : Tmp} {ty : TypeId} {v : Value} {w w' : World} (h : fn.results = #[.cell p ty, .tmp t]) (tmps : Array Value) (a : Addr) (hp : tmps.getD p undef = .pointer (some a)) (hl : (loadVar ty a).run P w = .ok v w') :
    (results fn tmps).run P w = .ok (.tuple #[v, tmps.getD t undef]) w' := by
  have hp' : tmps[p]?.getD undef = .pointer (some a) := by simpa using hp
  simp [results, h, hp', asAddr, hl]
theorem fault_get {w : World} {b : Nat} {x y z : Int} (h : Blk w b [.int .i64 x, .int .i64 y, .int .i64 z]) : (loadVar 71 ⟨b, 0, none⟩).run Tryd.prog w = .ok (.agg #[.int .i64 x, .int .i64 y, .int .i64 z]) w := by
  have e0 := (h 0 _ rfl).1
  have e1 := (h 1 _ rfl).1
  have e2 := (h 2 _ rfl).1
  simp [go_sem, e0, e1, e2]
set_option maxRecDepth 100000 in
set_option maxHeartbeats 4000000 in
theorem check_any (fa : Option Addr) (fc : Nat) (ca : Option Addr) (cc : Nat) (ka : Option Addr) (kc : Nat) (d : PD) (w : World) (hg : ShAt w) (hp : PAt w fa ca ka d) :
    Calls Tryd.prog 20 #[pv fa d.fs.length fc ca d.cs.length cc d.lk ka d.ks.length kc] w
      fun e w' => e = .returned (.tuple #[.agg #[.int .i64 (chkI d).1, .int .i64 (chkI d).2.1, .int .i64 (chkI d).2.2], .bool ((chkI d).2.2 == 0)]) ∧ Below w.heap.size w w' := by
  obtain ⟨fs, cs, lk, ks⟩ := d
  have hi : chkI ⟨fs, cs, lk, ks⟩ = if parI fs.length cs lk ks = 0 then fnsI fs.length cs.length ks.length lk 0 (fs.drop 0) else (-1, -1, parI fs.length cs lk ks) := rfl
  generalize chkI ⟨fs, cs, lk, ks⟩ = r at hi ⊢
  obtain ⟨hf, hc, hk⟩ := hp
  simp only at hf hc hk ⊢
  have HP := fun W hc hk => checkParts_any fa fs.length fc ca cc cs lk ka kc ks W hc hk
  have HB := fun a cap l W hg hl h1 h2 h3 h4 => checkFunc_any fa fs.length fc ca cs.length cc lk ka ks.length kc a cap l W hg hl h1 h2 h3 h4
  have hz := @parI_zero fs.length cs lk ks
  unfold pv at *
  obtain ⟨p, hp⟩ : ∃ p, parI fs.length cs lk ks = p := ⟨_, rfl⟩
  rw [hp] at hi hz
  simp only [hp] at HP
  obtain ⟨nf, hnf⟩ : ∃ n, fs.length = n := ⟨_, rfl⟩
  obtain ⟨nc, hn⟩ : ∃ n, cs.length = n := ⟨_, rfl⟩
  obtain ⟨nk, hm⟩ : ∃ n, ks.length = n := ⟨_, rfl⟩
  rw [hnf, hn, hm] at hi HB hz HP ⊢
  have HB := Lib.hid HB
  have HP := Lib.hid HP
  have HZ := Lib.hid hz
  have HNF := Lib.hid hnf
  obtain ⟨s0, hs0⟩ : ∃ s0, s0 = w.heap.size := ⟨_, rfl⟩
  have HW := Lib.hid hs0
  obtain ⟨W, hWW⟩ : ∃ W, W = ((w.alloc (.cells #[.slice fa nf fc, .slice ca nc cc, .int .i64 lk, .slice ka nk kc] 33)).alloc (.cells #[.int .i64 0, .int .i64 0, .int .i64 0] 71)) := ⟨_, rfl⟩
  have hb1 : Below w.heap.size w W := by rw [hWW]; exact (below_alloc1 _ _).alloc (by simp) _
  have hS : ShAt W ∧ FunAt W fa fs ∧ Blk W s0 [.slice fa nf fc, .slice ca nc cc, .int .i64 lk, .slice ka nk kc] ∧ Blk W (s0 + 1) [.int .i64 0, .int .i64 0, .int .i64 0] ∧ Below s0 w W := by
    refine ⟨hg.below hb1, hf.below hb1, ?_, ?_, hs0 ▸ hb1⟩
    · rw [hWW]; exact (Blk.mk _ _ _ _ hs0).below (below_alloc1 _ _)
    · rw [hWW]; exact Blk.mk _ _ _ _ (by simp [hs0])
  have HS := Lib.hid hS
  have HC := Lib.hid (hc.below hb1)
  have HK := Lib.hid (hk.below hb1)
  have HWW := Lib.hid hWW
  clear hs0 hS hg hf hc hk hnf hn hm hb1 hp hz hWW
  go_enter Tryd.func20, Tryd.ntmps20
  go_wp2_with fail
  rw [← HWW.out]
  refine (HP.out _ HC.out HK.out).mono ?_
  rintro e w1 ⟨rfl, hb1⟩
  have hs := HS.out
  by_cases hp0 : p = 0
  · rw [if_pos hp0] at hi
    have hz := HZ.out hp0
    subst hp0
    have h4 : 0 ≤ lk ∧ lk ≤ 1000 := ⟨hz.2.2.2.2.1, by have := hz.2.2.2.2.2.1; omega⟩
    have h1 : nf ≤ 1000 := by have := hz.2.1; omega
    have h2 : nc ≤ 1000 := by have := hz.2.2.1; omega
    have h3 : nk ≤ 1000 := by have := hz.2.2.2.1; omega
    have HR : Hid (r = fnsI nf nc nk lk 0 (fs.drop 0) ∧ ShAt w1 ∧ FunAt w1 fa fs ∧ Blk w1 s0 [.slice fa nf fc, .slice ca nc cc, .int .i64 lk, .slice ka nk kc] ∧ Blk w1 (s0 + 1) [.int .i64 0, .int .i64 0, .int .i64 0] ∧ Below s0 w w1) :=
      Lib.hid ⟨hi, hs.1.below hb1, hs.2.1.below hb1, hs.2.2.1.below hb1, hs.2.2.2.1.below hb1, hs.2.2.2.2.trans (hb1.mono (Nat.le_of_lt (hs.2.2.1.lt (by simp))))⟩
    have p0 := (HR.out.2.2.2.1 0 _ rfl).1
    have H4 := Lib.hid h4
    clear hi hs hb1 hz h4
    rw [← HW.out]
    go_wp2_with fail
    go_loopw [18] (fun s wr => ∃ i : Nat, i ≤ nf ∧ s = .int .i64 (i : Int) ∧ Hid (r = fnsI nf nc nk lk i (fs.drop i) ∧ ShAt wr ∧ FunAt wr fa fs ∧ Blk wr s0 [.slice fa nf fc, .slice ca nc cc, .int .i64 lk, .slice ka nk kc] ∧ Blk wr (s0 + 1) [.int .i64 0, .int .i64 0, .int .i64 0] ∧ Below s0 w wr)) (fun s _ => nf - (intOf s).toNat)
    case atStart => exact ⟨0, by omega, rfl, HR⟩
    case round =>
      obtain ⟨i, hi3, rfl, hr⟩ := hrel
      obtain ⟨hr1, hr2, hr3, hr4, hr6, hr5⟩ := hr.out
      by_cases hin : i < nf
      · have hin' : (i : Int) < (nf : Int) := by omega
        have hil : i < fs.length := by rw [HNF.out]; exact hin
        rw [fnsI_drop fs i hil] at hr1
        obtain ⟨b, off, a', c', rfl, c0, ca0⟩ := hr3 i hil
        obtain ⟨f, hf⟩ : ∃ x, fs[i] = x := ⟨_, rfl⟩
        rw [hf] at hr1 c0 ca0
        obtain ⟨n, hn⟩ : ∃ n, f.length = n := ⟨_, rfl⟩
        rw [hn] at c0
        have HC2 := HB.out a' c' f wr hr2 ca0 h1 h2 h3 H4.out
        rw [hn] at HC2
        have HC2 := Lib.hid HC2
        have HR2 := Lib.hid hr1
        have p0 := (hr4 0 _ rfl).1
        have p1 := (hr4 1 _ rfl).1
        have p2 := (hr4 2 _ rfl).1
        have p3 := (hr4 3 _ rfl).1
        have hsn : s0 < wr.heap.size := hr4.lt (by simp)
        have HX : Hid (∀ w', Below wr.heap.size wr w' → ShAt w' ∧ FunAt w' (some ⟨b, off, none⟩) fs ∧ Blk w' s0 [.slice (some ⟨b, off, none⟩) nf fc, .slice ca nc cc, .int .i64 lk, .slice ka nk kc] ∧ Blk w' (s0 + 1) [.int .i64 0, .int .i64 0, .int .i64 0] ∧ Below s0 w w') := Lib.hid fun w' hb => ⟨hr2.below hb, hr3.below hb, hr4.below hb, hr6.below hb, hr5.trans (hb.mono (Nat.le_of_lt hsn))⟩
        clear hr hr1 hr2 hr3 hr4 hr5 hr6 hf hil hn ca0
        go_wp2_with fail
        refine HC2.out.mono ?_
        rintro e w5 ⟨rfl, hb5⟩
        have HF := Lib.hid (HX.out _ hb5)
        have HR2 := HR2.out
        clear hb5
        obtain ⟨⟨e0, e1⟩, he0⟩ : ∃ e0, funI nf nc nk lk f = e0 := ⟨_, rfl⟩
        rw [he0] at HR2 ⊢
        simp only at HR2 ⊢
        by_cases h0 : e1 = 0
        · rw [if_pos h0] at HR2
          subst h0
          have HR2 := Lib.hid HR2
          clear he0
          go_wp2_with fail
          exact ⟨⟨i + 1, by omega, by go_num, Lib.hid ⟨HR2.out, HF.out⟩⟩, by simp [intOf]; omega⟩
        · rw [if_neg h0] at HR2
          subst HR2
          have hq := HF.out.2.2.2.1
          have HQ := Lib.hid hq
          obtain ⟨q0, z0⟩ := hq 0 _ rfl
          obtain ⟨q1, z1⟩ := hq 1 _ rfl
          obtain ⟨q2, z2⟩ := hq 2 _ rfl
          clear he0 hq
          go_wp2_with fail
          have e := fault_get (((HQ.out.set 0 (.int .i64 i)).set 1 (.int .i64 e0)).set 2 (.int .i64 e1))
          exact bodyPost_ret (v := .tuple #[.agg #[.int .i64 i, .int .i64 e0, .int .i64 e1], .bool false]) (results_cell_tmp Tryd.results20 _ ⟨s0 + 1, 0, none⟩ rfl e) rfl ⟨by simp [h0], HW.out ▸ ((HF.out.2.2.2.2.setCell (by simp) _).setCell (by simp) _).setCell (by simp) _⟩
      · have hin2 : i = nf := by omega
        subst hin2
        have hr1' : r = (0, 0, 0) := by rw [hr1, ← HNF.out, List.drop_length]; rfl
        subst hr1'
        have HF := Lib.hid hr5
        have HQ := Lib.hid hr6
        obtain ⟨q0, z0⟩ := hr6 0 _ rfl
        obtain ⟨q1, z1⟩ := hr6 1 _ rfl
        obtain ⟨q2, z2⟩ := hr6 2 _ rfl
        clear hr hr1 hr2 hr3 hr4 hr5 hr6
        go_wp2_with fail
        have e := fault_get (((HQ.out.set 0 (.int .i64 0)).set 1 (.int .i64 0)).set 2 (.int .i64 0))
        exact bodyPost_ret (v := .tuple #[.agg #[.int .i64 0, .int .i64 0, .int .i64 0], .bool true]) (results_cell_tmp Tryd.results20 _ ⟨s0 + 1, 0, none⟩ rfl e) rfl ⟨by simp, HW.out ▸ ((HF.out.setCell (by simp) _).setCell (by simp) _).setCell (by simp) _⟩
  · rw [if_neg hp0] at hi
    subst hi
    have hbw : Below s0 w w1 := hs.2.2.2.2.trans (hb1.mono (Nat.le_of_lt (hs.2.2.1.lt (by simp))))
    have HF := Lib.hid hbw
    have hq := hs.2.2.2.1.below hb1
    have HQ := Lib.hid hq
    obtain ⟨q0, z0⟩ := hq 0 _ rfl
    obtain ⟨q1, z1⟩ := hq 1 _ rfl
    obtain ⟨q2, z2⟩ := hq 2 _ rfl
    clear hs hb1 hbw hq
    rw [← HW.out]
    go_wp2_with fail
    have e := fault_get (((HQ.out.set 0 (.int .i64 (-1))).set 1 (.int .i64 (-1))).set 2 (.int .i64 p))
    exact bodyPost_ret (v := .tuple #[.agg #[.int .i64 (-1), .int .i64 (-1), .int .i64 p], .bool false]) (results_cell_tmp Tryd.results20 _ ⟨s0 + 1, 0, none⟩ rfl e) rfl ⟨by simp [hp0], HW.out ▸ ((HF.out.setCell (by simp) _).setCell (by simp) _).setCell (by simp) _⟩
end Go.Proofs.YtdeilfnfpgjnnaaDoor
