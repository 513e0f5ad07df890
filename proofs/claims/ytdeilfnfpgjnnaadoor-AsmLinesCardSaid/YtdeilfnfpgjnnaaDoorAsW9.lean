/-
  A line.
-/
import Derived.Test.YtdeilfnfpgjnnaaDoorAsW8
import Derived.Lib.SplitLaws
open Go Go.RowKit
set_option linter.unusedVariables false
set_option linter.unusedSimpArgs false
namespace Go.Proofs.YtdeilfnfpgjnnaaDoor
theorem strs_len (l : List By) : (strs l).length = l.length := by unfold strs; simp
theorem split_any (c : UInt8) (l : By) (w : World) (hs : l.length ≤ 100000) (hg : GlA w) :
    Calls Tryd.prog 18 #[.string (bs l), .string ⟨#[c]⟩] w fun e w' => e = .returned (.slice (some ⟨w.heap.size, 0, none⟩) (spl c l).length (spl c l).length) ∧ w' = w.alloc (.cells (strs (spl c l)).toArray 9) := by
  obtain ⟨m, hm⟩ := hg.ml
  refine (Tryd.strings_Split (bs l) ⟨#[c]⟩ m w (by rw [bs_size]; omega) hm (Nat.le_refl 1)).mono ?_
  have e1 := splitB_spl c (bs l)
  rw [bs_list] at e1
  have e2 : Lib.countB (bs l) ⟨#[c]⟩ + 1 = (spl c l).length := by
    have := Lib.splitB_all ⟨#[c]⟩ (Nat.le_refl 1) 0 _ (bs l) rfl
    rw [← this, e1, List.length_map]
  rintro e w' ⟨rfl, rfl⟩
  rw [e1, e2]
  refine ⟨rfl, ?_⟩
  unfold strs str bs
  rw [List.map_map]
  rfl
theorem under_strs : Tryd.prog.underlying 67 = some (.slice (Tryd.prog.elem 67)) := by kernel_rfl
theorem size_strs : ∀ w, (sizeOf (Tryd.prog.elem 67)).run Tryd.prog w = .ok 1 w := fun w => by kernel_rfl
theorem spl_all (c : UInt8) (l : By) (n : Nat) (h : l.length ≤ n) : (spl c l).length ≤ n + 1 ∧ ∀ x ∈ spl c l, x.length ≤ n := by
  have hl := spl_len c l
  constructor
  · have : ∀ L : List By, L.length ≤ (L.map (fun p => p.length + 1)).sum := fun L => by
      induction L with
      | nil => simp
      | cons a L ih => simp only [List.map_cons, List.sum_cons, List.length_cons]; omega
    have := this (spl c l)
    omega
  · intro x hx
    have : ∀ L : List By, x ∈ L → x.length + 1 ≤ (L.map (fun p => p.length + 1)).sum := fun L => by
      induction L with
      | nil => intro h; simp at h
      | cons a L ih =>
        intro h
        simp only [List.map_cons, List.sum_cons]
        rcases List.mem_cons.1 h with rfl | h
        · omega
        · have := ih h; omega
    have := this _ hx
    omega
def Fit (r : Rd) (n : Nat) : Prop := r.fs.length ≤ n ∧ r.cs.length ≤ n ∧ r.ks.length ≤ n ∧ ∀ f ∈ r.fs, f.length ≤ n
set_option maxRecDepth 100000 in
set_option maxHeartbeats 4000000 in
theorem line_any (b : Nat) (r : Rd) (R : List Asr) (l : By) (w0 w : World) (hl : l.length ≤ 90000) (hg : GlA w0) (h : RdAt w0 w b r R) (hr : Fit r 100000) :
    Calls Tryd.prog 19 #[.pointer (some ⟨b, 0, none⟩), .string (bs l)] w fun e w' =>
      e = .returned (.int .i64 (lineM r l).2) ∧ RdAt w0 w' b (lineM r l).1 R := by
  obtain ⟨hr1, hr2, hr3, hr4⟩ := hr
  have HSP := Lib.hid (split_any 32 l w (by omega) (hg.below h.bel))
  obtain ⟨hal, hax⟩ := spl_all 32 l 90000 hl
  obtain ⟨wd, ws, hw⟩ : ∃ wd ws, spl 32 l = wd :: ws := by
    cases hp : spl 32 l with
    | nil => exact absurd hp (spl_ne 32 l)
    | cons a b => exact ⟨a, b, rfl⟩
  have hM : lineM r l = wordM r wd ws := by unfold lineM; rw [hw]; rfl
  rw [hw] at HSP hal hax
  obtain ⟨m, hm⟩ : ∃ m, ws.length = m := ⟨_, rfl⟩
  have hwl : (wd :: ws).length = m + 1 := by rw [List.length_cons, hm]
  rw [hwl] at HSP hal
  have hws : ∀ x ∈ ws, x.length ≤ 100000 := fun x hx => by have := hax x (by simp [hx]); omega
  rw [hM]
  obtain ⟨W, hW⟩ : ∃ W, W = w.alloc (.cells (strs (wd :: ws)).toArray 9) := ⟨_, rfl⟩
  have hb : Below w.heap.size w W := by rw [hW]; exact below_alloc1 _ _
  obtain ⟨p, hp⟩ : ∃ p, p = w.heap.size := ⟨_, rfl⟩
  have hrow : RowG 1 W (some ⟨p, 0, none⟩) (m + 1) (m + 1) (strs (wd :: ws)) := by rw [hW]; exact RowG.new 1 (m + 1) w (strs (wd :: ws)) 9 (by rw [strs_len, hwl]; omega) (by unfold maxLen; omega) hp
  obtain ⟨a', ha'⟩ : ∃ a', a' = if m = 0 then (some ⟨p, 0, none⟩ : Option Addr) else some ⟨p, 1, none⟩ := ⟨_, rfl⟩
  have HA := Lib.hid ha'
  have hat : CellsAt W a' (strs ws) := fun j v hj => by
    have hjm : j < m := by have := (List.getElem?_eq_some_iff.1 hj).1; rw [strs_len, hm] at this; exact this
    have h1 : (strs (wd :: ws))[j + 1]? = some v := by unfold strs at hj ⊢; rw [List.map_cons, List.getElem?_cons_succ]; exact hj
    obtain ⟨b1, o1, e1, h2⟩ := hrow.cells (j + 1) v h1
    cases e1
    rw [ha', if_neg (by omega)]
    exact ⟨p, 1, rfl, by rw [Nat.add_comm 1 j]; simpa using h2⟩
  clear ha'
  have h2 := h.step hb
  have hbd : ∀ nq, Below W.heap.size W (W.drewN nq) := fun nq => ((Chg.refl [] W).drewN nq).to_below0
  have z0 : W.cell? ⟨p, 0, none⟩ = some (str wd) := by
    obtain ⟨b1, o1, e1, h1⟩ := hrow.cells 0 (str wd) rfl
    cases e1
    exact h1
  rw [← hW, ← hp] at HSP
  have HF : Hid (∀ nq, Calls Tryd.prog 28 #[.pointer (some ⟨b, 0, none⟩), .slice a' m m] (W.drewN nq) fun e w' => e = .returned (.int .i64 (withN r (numsM ws 0) fun _ => { r with fs := r.fs ++ [[]] }).2) ∧ RdAt w0 w' b (withN r (numsM ws 0) fun _ => { r with fs := r.fs ++ [[]] }).1 R) := Lib.hid (fun nq => by
    have := func_any b r R a' m ws w0 (W.drewN nq) (by omega) hws hg (h2.step (hbd nq)) (hat.below (hbd nq)) hr1
    rwa [hm] at this)
  have HCH : Hid (∀ nq, Calls Tryd.prog 30 #[.pointer (some ⟨b, 0, none⟩), .slice a' m m] (W.drewN nq) fun e w' => e = .returned (.int .i64 (withN r (numsM ws 1) fun x => { r with cs := r.cs ++ [x3 x 0] }).2) ∧ RdAt w0 w' b (withN r (numsM ws 1) fun x => { r with cs := r.cs ++ [x3 x 0] }).1 R) := Lib.hid (fun nq => by
    have := chan_any b r R a' m ws w0 (W.drewN nq) (by omega) hws hg (h2.step (hbd nq)) (hat.below (hbd nq)) hr2
    rwa [hm] at this)
  have HLO : Hid (∀ nq, Calls Tryd.prog 31 #[.pointer (some ⟨b, 0, none⟩), .slice a' m m] (W.drewN nq) fun e w' => e = .returned (.int .i64 (locksM r (numsM ws 1)).2) ∧ RdAt w0 w' b (locksM r (numsM ws 1)).1 R) := Lib.hid (fun nq => by
    have := locks_any b r R a' m ws w0 (W.drewN nq) (by omega) hws hg (h2.step (hbd nq)) (hat.below (hbd nq))
    rwa [hm] at this)
  have HCA : Hid (∀ nq, Calls Tryd.prog 32 #[.pointer (some ⟨b, 0, none⟩), str wd, .slice a' m m] (W.drewN nq) fun e w' => e = .returned (.int .i64 (casR r ws (opAt 0 casesL wd)).2) ∧ RdAt w0 w' b (casR r ws (opAt 0 casesL wd)).1 R) := Lib.hid (fun nq => by
    have := cas_any b r R a' m wd ws w0 (W.drewN nq) (by omega) hws hg (h2.step (hbd nq)) (hat.below (hbd nq)) hr3
    rwa [hm] at this)
  have HIN : Hid (0 < r.fs.length → ∀ nq, Calls Tryd.prog 29 #[.pointer (some ⟨b, 0, none⟩), str wd, .slice a' m m] (W.drewN nq) fun e w' => e = .returned (.int .i64 (opR r ws (opAt 0 opsL wd)).2) ∧ RdAt w0 w' b (opR r ws (opAt 0 opsL wd)).1 R) := Lib.hid (fun h0 nq => by
    have := ins_any b r R a' m wd ws w0 (W.drewN nq) (by omega) hws hg (h2.step (hbd nq)) (hat.below (hbd nq)) hr1 h0 hr4
    rwa [hm] at this)
  obtain ⟨D, hD, o⟩ := h2
  have z1 : W.cell? ⟨b, 0, none⟩ = some (.slice D.fa r.fs.length D.fc) := (o.cel 0 rfl 0 _ rfl).1
  have t1 : ((bs wd).toList == [102, 117, 110, 99]) = decide (wd = wFunc) := eq_bs wd wFunc
  have t2 : ((bs wd).toList == [99, 104, 97, 110]) = decide (wd = wChan) := eq_bs wd wChan
  have t3 : ((bs wd).toList == [108, 111, 99, 107, 115]) = decide (wd = wLocks) := eq_bs wd wLocks
  unfold str at z0 HCA HIN
  clear hax hw hM hal hm hwl hws hW hb hp hrow hat hg h hr2 hr3 hr4 hl o hD hbd
  by_cases b1 : wd = wFunc
  · have t1' : ((bs wd).toList == [102, 117, 110, 99]) = true := by rw [t1]; simpa using b1
    have e0 : wordM r wd ws = withN r (numsM ws 0) fun _ => { r with fs := r.fs ++ [[]] } := by unfold wordM; rw [if_pos b1]
    rw [e0]
    generalize (withN r (numsM ws 0) fun _ => { r with fs := r.fs ++ [[]] }) = X at *
    clear b1 t1 t2 t3 e0 HCH HLO HCA HIN
    go_enter Tryd.func19, Tryd.ntmps19
    go_wp2_with fail
    refine HSP.out.mono ?_
    rintro e w1 ⟨rfl, hw1⟩
    subst w1
    go_upto_region 2 with fail
    go_quiet (fail)
    rw [← HA.out]
    go_wp2_with fail
    refine (HF.out nq).mono ?_
    rintro e w2 ⟨rfl, hX⟩
    have HX := Lib.hid hX
    clear hX
    go_wp2_with fail
    go_ret
    exact ⟨rfl, HX.out⟩
  · have t1' : ((bs wd).toList == [102, 117, 110, 99]) = false := by rw [t1]; simpa using b1
    by_cases b2 : 0 < r.fs.length
    · have e0 : wordM r wd ws = opR r ws (opAt 0 opsL wd) := by unfold wordM; rw [if_neg b1, if_pos b2]; unfold opR; rfl
      rw [e0]
      have HIN := Lib.hid (HIN.out b2)
      generalize opR r ws (opAt 0 opsL wd) = X at *
      have b2' : decide (0 < r.fs.length) = true := by simpa using b2
      clear b1 t1 t2 t3 e0 HCH HLO HCA HF b2
      go_enter Tryd.func19, Tryd.ntmps19
      go_wp2_with fail
      refine HSP.out.mono ?_
      rintro e w1 ⟨rfl, hw1⟩
      subst w1
      go_upto_region 2 with fail
      go_quiet (fail)
      rw [← HA.out]
      go_wp2_with fail
      refine (HIN.out nq).mono ?_
      rintro e w2 ⟨rfl, hX⟩
      have HX := Lib.hid hX
      clear hX
      go_wp2_with fail
      go_ret
      exact ⟨rfl, HX.out⟩
    · have b2' : decide (0 < r.fs.length) = false := by simpa using b2
      by_cases b3 : wd = wChan
      · have t2' : ((bs wd).toList == [99, 104, 97, 110]) = true := by rw [t2]; simpa using b3
        have e0 : wordM r wd ws = withN r (numsM ws 1) fun x => { r with cs := r.cs ++ [x3 x 0] } := by unfold wordM; rw [if_neg b1, if_neg b2, if_pos b3]
        rw [e0]
        generalize (withN r (numsM ws 1) fun x => { r with cs := r.cs ++ [x3 x 0] }) = X at *
        clear b1 t1 t2 t3 e0 HIN HLO HCA HF b2 b3
        go_enter Tryd.func19, Tryd.ntmps19
        go_wp2_with fail
        refine HSP.out.mono ?_
        rintro e w1 ⟨rfl, hw1⟩
        subst w1
        go_upto_region 2 with fail
        go_quiet (fail)
        rw [← HA.out]
        go_wp2_with fail
        refine (HCH.out nq).mono ?_
        rintro e w2 ⟨rfl, hX⟩
        have HX := Lib.hid hX
        clear hX
        go_wp2_with fail
        go_ret
        exact ⟨rfl, HX.out⟩
      · have t2' : ((bs wd).toList == [99, 104, 97, 110]) = false := by rw [t2]; simpa using b3
        by_cases b4 : wd = wLocks
        · have t3' : ((bs wd).toList == [108, 111, 99, 107, 115]) = true := by rw [t3]; simpa using b4
          have e0 : wordM r wd ws = locksM r (numsM ws 1) := by unfold wordM; rw [if_neg b1, if_neg b2, if_neg b3, if_pos b4]; rfl
          rw [e0]
          generalize locksM r (numsM ws 1) = X at *
          clear b1 t1 t2 t3 e0 HIN HCH HCA HF b2 b3 b4
          go_enter Tryd.func19, Tryd.ntmps19
          go_wp2_with fail
          refine HSP.out.mono ?_
          rintro e w1 ⟨rfl, hw1⟩
          subst w1
          go_upto_region 2 with fail
          go_quiet (fail)
          rw [← HA.out]
          go_wp2_with fail
          refine (HLO.out nq).mono ?_
          rintro e w2 ⟨rfl, hX⟩
          have HX := Lib.hid hX
          clear hX
          go_wp2_with fail
          go_ret
          exact ⟨rfl, HX.out⟩
        · have t3' : ((bs wd).toList == [108, 111, 99, 107, 115]) = false := by rw [t3]; simpa using b4
          have e0 : wordM r wd ws = casR r ws (opAt 0 casesL wd) := by unfold wordM; rw [if_neg b1, if_neg b2, if_neg b3, if_neg b4]; unfold casR; rfl
          rw [e0]
          generalize casR r ws (opAt 0 casesL wd) = X at *
          clear b1 t1 t2 t3 e0 HIN HCH HLO HF b2 b3 b4
          go_enter Tryd.func19, Tryd.ntmps19
          go_wp2_with fail
          refine HSP.out.mono ?_
          rintro e w1 ⟨rfl, hw1⟩
          subst w1
          go_upto_region 2 with fail
          go_quiet (fail)
          rw [← HA.out]
          go_wp2_with fail
          refine (HCA.out nq).mono ?_
          rintro e w2 ⟨rfl, hX⟩
          have HX := Lib.hid hX
          clear hX
          go_wp2_with fail
          go_ret
          exact ⟨rfl, HX.out⟩
end Go.Proofs.YtdeilfnfpgjnnaaDoor
