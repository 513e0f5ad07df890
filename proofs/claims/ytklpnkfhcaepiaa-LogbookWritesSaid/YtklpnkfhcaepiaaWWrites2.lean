/-
  The walk of the law LogbookWrites.
-/
import Derived.Test.YtklpnkfhcaepiaaWWrites1
import Derived.Deep.AppendLies
import Derived.Deep.RegionHeld3
import Derived.Deep.DrawnRows
import Derived.RegionTactic
import Derived.ChangeAlike
import Derived.WalkSmall
import Derived.OpenShut
import Derived.Deep.DeepCutAuto
import Derived.BigQuiet
import Derived.Deep.QuietTactic
open Go Go.RowKit
set_option linter.unusedVariables false
namespace Go.Proofs.Ytklpnkfhcaepiaa.logbookWrites
attribute [local go_sem ↓] Go.wp_at_zero Go.wp_at_succ
theorem step_append_zero {P : Program} {w : World} {ops : Array Oper} {o : Oper} {a : Act} {K : Act → World → Prop} {Q : Exit → Act → World → Prop} {E : Prop} (hgd : o.guard = none) (sl x : Operand) (t : TypeId)
    (ho : o.op = .call { callee := .builtin .append, args := #[sl, x], argTypes := #[t, t] }) (base : Nat) (e : TypeId) (i : TypeInfo) (size : Nat) (ht : P.underlying t = some (.slice e)) (hi : P.info? e = some i)
    (v : Value) (n : Nat) (xs : List Value) (hs : a.eval sl = v) (hown : w.ownsRow base e size v n xs) (ao : Option Addr) (c : Nat) (hx : a.eval x = .slice ao 0 c) (h : K (a.put o.dst v) w) :
    if Region.wanted o (yielded ops a.tmps) = true then Oper.wp P o a w K Q else E := by
  have hw : Region.wanted o (yielded ops a.tmps) = true := by simp [Region.wanted, hgd]
  rw [if_pos hw]
  have hr := run_append_zero (P := P) w base t o.type e i size ht hi v n xs hown ao c
  unfold Oper.wp execOp
  simp only [ho, resolve, invoke, builtin, Sem.run_bind, Sem.run_pure, Result.andThen_ok, List.map_toArray, List.map_cons, List.map_nil, hs, hx, hr]
  exact h
set_option maxRecDepth 100000 in
theorem size_rec (w : World) : (sizeOf (Try.prog.elem 48)).run Try.prog w = .ok 2 w := by first | rfl | kernel_rfl
theorem llen_any {w0 w : World} {p pb : Nat} {s : SSt} {b : BSt} (h : Log w0 w p pb s b) :
    Calls Try.prog 35 #[.pointer (some ⟨p, 0, none⟩)] w fun e w' => e = .returned (.int .i64 (s.bs.length : Int)) ∧ w = w' := by
  obtain ⟨F, G, h1, _⟩ := h; exact slen_any p s F w h1
theorem lsafe_any {w0 w : World} {p pb : Nat} {s : SSt} {b : BSt} (h : Log w0 w p pb s b) :
    Calls Try.prog 36 #[.pointer (some ⟨p, 0, none⟩)] w fun e w' => e = .returned (.int .i64 (s.safe : Int)) ∧ w = w' := by
  obtain ⟨F, G, h1, _⟩ := h; exact ssafe_any p s F w h1
theorem lbytes_any {w0 w : World} {p pb : Nat} {s : SSt} {b : BSt} (h : Log w0 w p pb s b) :
    Calls Try.prog 30 #[.pointer (some ⟨p, 0, none⟩)] w fun e w' => e = .returned (.string ⟨s.bs.toArray⟩) ∧ w = w' := by
  obtain ⟨F, G, h1, _⟩ := h; exact sbytes_any p s F w h1
/-- Some of a slice, and of its rest. -/
def GotSome (L : List Rec) (M : Nat) (W : World) (e : Ending) (w' : World) : Prop := ∃ a' c', e = .returned (.slice a' M c') ∧ w'.ownsRow W.heap.size 56 2 (.slice a' M c') M (recCells L) ∧ Below W.heap.size W w'
/-- What stands while decisions are added. -/
def St (w0 w : World) (p pb MS i su wt fl : Nat) (l : List Rec) : Prop :=
  ∃ s b bat K, Lg w0 w p pb s b bat K ∧ bat.flatten ++ b.wait = l.take i ∧ b.size = MS ∧ b.wait.length < MS ∧ su = bat.flatten.length ∧ wt = b.wait.length ∧ (fl = 0 → ∀ x ∈ bat, x.length = MS)
theorem after_last (b : BSt) (bat : List (List Rec)) (r : Rec) : batFlush (b.after r) (batAfter b bat r) = bat ++ [b.wait ++ [r]] := by
  unfold batFlush batAfter BSt.after
  by_cases hc : b.wait.length + 1 < b.size
  · rw [if_pos hc, if_pos hc, if_neg (by simp [BSt.added])]; rfl
  · rw [if_neg hc, if_neg hc, if_pos (flushed_wait _)]
theorem St.done {w0 w : World} {p pb MS i su wt fl : Nat} {l : List Rec} {s : SSt} {b b0 : BSt} {bat : List (List Rec)} {K : List Nat} {r : Rec} (h : Lg w0 w p pb s b (bat ++ [b0.wait ++ [r]]) K) (hfl : bat.flatten ++ b0.wait = l.take i) (hr : l.take (i + 1) = l.take i ++ [r]) (hs : b.size = MS) (hMS : 1 ≤ MS) (hw : b.wait = [])
    (hsu : su = bat.flatten.length) (hwt : wt = b0.wait.length) (hall : fl = 0 → (∀ x ∈ bat, x.length = MS) ∧ wt + 1 = MS) : St w0 w p pb MS (i + 1) (su + (wt + 1)) 0 fl l ∧ b.sure = su + (wt + 1) := by
  have hlen : (bat ++ [b0.wait ++ [r]]).flatten.length = su + (wt + 1) := by rw [hsu, hwt]; simp
  refine ⟨⟨s, b, _, K, h, by rw [hw, hr, ← hfl]; simp, hs, by rw [hw, List.length_nil]; omega, hlen.symm, by rw [hw]; rfl, fun h0 x hx => ?_⟩, by rw [h.of.sure, hlen]⟩
  obtain ⟨h1, h2⟩ := hall h0
  rw [List.mem_append, List.mem_singleton] at hx
  rcases hx with hx | rfl
  · exact h1 x hx
  · rw [List.length_append, List.length_singleton, ← hwt]; exact h2
theorem sizeOf_rng (z : Int) : 1 ≤ sizeOf_ z ∧ sizeOf_ z ≤ 400 := by unfold sizeOf_; omega
set_option maxRecDepth 100000 in
set_option maxHeartbeats 2000000 in
theorem walk (a0 : Option Addr) (len0 cap0 : Nat) (l0 : List Rec) (a1 : Int) (a2 : Option Addr) (len2 cap2 : Nat) (l2 : List Bool) (w : World) (v0 : IsRecs w a0 len0 cap0 l0) (v1 : (Lit.int .i64 a1).wf = true) (v2 : IsBools w a2 len2 cap2 l2) :
    Calls Try.prog 9 #[.slice a0 len0 cap0, .int .i64 a1, .slice a2 len2 cap2] w fun e w' => e = .returned (.bool true) ∧ Below w.heap.size w w' := by
  obtain ⟨rfl, hlc, hcm, hat, hub⟩ := v0
  obtain ⟨l1, u1⟩ := bounds_i64 v1
  obtain ⟨rfl, hlc2, hcm2, hat2⟩ := v2
  clear v1
  have hlm : l0.length ≤ maxLen := Nat.le_trans hlc hcm
  have hlm2 : l2.length ≤ maxLen := Nat.le_trans hlc2 hcm2
  unfold maxLen at hlm2
  obtain ⟨i0, hi, hz0, hz1, hz2⟩ := info_parts info_rec
  have Hi := Lib.hid hi; clear hi
  have Hz0 := Lib.hid hz0; clear hz0
  have Hz1 := Lib.hid hz1; clear hz1
  have Hz2 := Lib.hid hz2; clear hz2
  obtain ⟨m0, hm0⟩ : ∃ m, m = l0.length := ⟨_, rfl⟩
  obtain ⟨fl, hfl⟩ : ∃ m, m = l2.length := ⟨_, rfl⟩
  obtain ⟨k0, hk0⟩ : ∃ k0, k0 = min m0 40 := ⟨_, rfl⟩
  have hkm : min (m0 : Int) 40 = (k0 : Int) := by omega
  obtain ⟨ax, hx1, hx2⟩ := rec_tail a0 m0 cap0 k0 l0 (by omega) (by omega) hm0.symm
  obtain ⟨L1, hL1⟩ : ∃ L, L = someL l0 := ⟨_, rfl⟩
  obtain ⟨L2, hL2⟩ : ∃ L, L = someL (l0.drop k0) := ⟨_, rfl⟩
  obtain ⟨M1, hM1⟩ : ∃ M, M = L1.length := ⟨_, rfl⟩
  obtain ⟨M2, hM2⟩ : ∃ M, M = L2.length := ⟨_, rfl⟩
  have hM1' : M1 ≤ 40 := by rw [hM1, hL1]; exact someL_len _
  have hM2' : M2 ≤ 40 := by rw [hM2, hL2]; exact someL_len _
  have hok : ∀ r ∈ L1 ++ L2, Rec.ok r := fun r hr => by
    rw [List.mem_append, hL1, hL2] at hr
    rcases hr with hr | hr
    · exact someL_ok _ r hr
    · exact someL_ok _ r hr
  have hs1 : ∀ W, Below w.heap.size w W → Calls Try.prog 23 #[.slice a0 m0 cap0] W (GotSome L1 M1 W) := fun W hb => by
    have := some_own a0 cap0 l0 W hlm (hat.below hb) hub
    rw [← hm0, ← hL1, ← hM1] at this
    exact this
  have hs2 : ∀ W, Below w.heap.size w W → Calls Try.prog 23 #[.slice ax (m0 - k0) (cap0 - k0)] W (GotSome L2 M2 W) := fun W hb => by
    have := some_own ax (cap0 - k0) (l0.drop k0) W (by rw [List.length_drop]; omega) (hx2 W (hat.below hb)) (fun r hr => hub r (List.mem_of_mem_drop hr))
    rw [List.length_drop, ← hm0, ← hL2, ← hM2] at this
    exact this
  have HS1 := Lib.hid hs1; clear hs1
  have HS2 := Lib.hid hs2; clear hs2 hat hub hx2
  rw [← hm0] at hlc ⊢
  rw [← hfl] at hlc2 hlm2 ⊢
  have HL := Lib.hid (And.intro hL1 (And.intro hL2 (And.intro hM1 hM2))); clear hL1 hL2
  have HM1 := Lib.hid hM1; clear hM1
  have HM2 := Lib.hid hM2; clear hM2
  have HFL := Lib.hid hfl; clear hfl hm0 hlm
  have HAT2 := Lib.hid hat2; clear hat2
  have HOK := Lib.hid hok; clear hok hk0
  go_enter Try.func9, Try.ntmps9
  go_wp2_with fail
  refine (awake6_any _).mono ?_
  rintro e w1 ⟨rfl, hb1⟩
  have B1 := Lib.hid hb1; clear hb1
  obtain ⟨M, hM⟩ : ∃ M, M = M1 + M2 := ⟨_, rfl⟩
  have HMM := Lib.hid hM; clear hM
  go_upto_region 3 with fail
  go_cut [7] (fun v wx => ∃ a c, v = .slice a M c ∧ Hid (M ≤ c ∧ c ≤ maxLen ∧ RecsAt wx a (L1 ++ L2) ∧ Below w1.heap.size w1 wx))
  case first =>
    by_cases hz : M2 = 0
    · subst hz
      go_region_law (first
        | (refine step_append_zero (by rfl) _ _ 48 (by rfl) _ 56 i0 2 Try.underlying48 Hi.out _ _ _ (by rfl) (owns_below hown5 hb6) _ _ (by rfl) ?_)
        | (go_simp; go_at_call 23; first
          | (with_reducible refine (HS1.out _ (by first | exact below_on B1.out (below_drew1 _))).mono ?_); rintro e w5 ⟨x1, c1, rfl, hown5, hb5⟩
          | (with_reducible refine (HS2.out _ (by first | exact below_on B1.out (below_on (below_drew1 _) hb5))).mono ?_); rintro e w6 ⟨x2, c2, rfl, hown6, hb6⟩))
      all_goals
        have hL20 : L2 = [] := List.length_eq_zero_iff.1 HM2.out.symm
        have hb := below_on (below_on (below_drew1 w1) hb5) hb6
        obtain ⟨x1', c1', he, e1, e2, e3⟩ := RecsAt.of_own (l := L1) (by rw [← HM1.out]; exact owns_below hown5 hb6)
        rw [← HM1.out] at he e1
        simp only [Value.slice.injEq, true_and] at he
        obtain ⟨rfl, rfl⟩ := he
        have HEND : Hid (M ≤ c1 ∧ c1 ≤ maxLen ∧ RecsAt w6 x1 (L1 ++ L2) ∧ Below w1.heap.size w1 w6) := Lib.hid ⟨by rw [HMM.out]; omega, e2, by rw [hL20, List.append_nil]; exact e3, hb⟩
        clear hL20 hb e1 e2 e3 hown5 hown6 hb5 hb6
        go_wp2_with fail
        go_meet
        exact ⟨x1, c1, by rw [HMM.out, Nat.add_zero], HEND⟩
    · have hM2p : 0 < M2 := by omega
      go_region_law (first
        | (refine step_append_lies _ (by rfl) _ _ 48 (by rfl) _ 56 i0 _ 2 16 Try.underlying48 Hi.out Hz0.out Hz1.out Hz2.out rfl (by omega) _ _ _ (by rfl) (owns_below hown5 hb6) ⟨g2, 0, none⟩ M2 c2 (recCells L2) (by rfl) (by rw [recCells_len, HM2.out]) (recs_news hat6) (recCells_one _) (by omega) (by unfold maxLen; omega) (by omega) (by have := hb5.size; have := hb6.size; omega) w6.heap.size rfl ?_; intro g cp w7 hown7 hgrow7 hg7 hgl7)
        | (go_simp; go_at_call 23; first
          | (with_reducible refine (HS1.out _ (by first | exact below_on B1.out (below_drew1 _))).mono ?_); rintro e w5 ⟨x1, c1, rfl, hown5, hb5⟩
          | (with_reducible refine (HS2.out _ (by first | exact below_on B1.out (below_on (below_drew1 _) hb5))).mono ?_); rintro e w6 ⟨x2, c2, rfl, hown6, hb6⟩; obtain ⟨g2, c2', hv2, _, _⟩ := hown6.form hM2p; simp only [Value.slice.injEq, true_and] at hv2; obtain ⟨rfl, rfl⟩ := hv2; have hat6 : RecsAt w6 (some ⟨g2, 0, none⟩) L2 := by (obtain ⟨y1, y2, he, _, _, e3⟩ := RecsAt.of_own (l := L2) (by rw [← HM2.out]; exact hown6); rw [← HM2.out] at he; simp only [Value.slice.injEq, true_and] at he; obtain ⟨rfl, rfl⟩ := he; exact e3)))
      all_goals
        have hb := below_on (below_on (below_drew1 w1) hb5) hb6
        have hb7 : Below w1.heap.size w1 w7 := hb.grown hgrow7 hb.size (fun x hx => by have h := (hown5.lt x hx).1; exact h)
        obtain ⟨x1', c1', he, e1, e2, e3⟩ := RecsAt.of_own (l := L1 ++ L2) (by rw [recCells_app2, List.length_append, ← HM1.out, ← HM2.out]; exact hown7)
        rw [List.length_append, ← HM1.out, ← HM2.out] at he e1
        simp only [Value.slice.injEq, true_and] at he
        obtain ⟨rfl, rfl⟩ := he
        have HEND : Hid (M ≤ cp ∧ cp ≤ maxLen ∧ RecsAt w7 (some ⟨g, 0, none⟩) (L1 ++ L2) ∧ Below w1.heap.size w1 w7) := Lib.hid ⟨by rw [HMM.out]; omega, e2, e3, hb7⟩
        clear hb hb7 e1 e2 e3 hown5 hown6 hb5 hb6 hown7 hgrow7 hg7 hgl7
        go_wp2_with fail
        go_meet
        exact ⟨_, cp, by rw [HMM.out], HEND⟩
  case rest =>
    obtain ⟨a, c, rfl, hr⟩ := hcut
    have hMr : M ≤ 80 := by have := HMM.out; omega
    obtain ⟨m, hm⟩ : ∃ m, m = min M 60 := ⟨_, rfl⟩
    have hmm : min (M : Int) 60 = (m : Int) := by omega
    have hm2 : m ≤ 60 := by omega
    have hmM : m ≤ M := by omega
    have hMc : M ≤ c := hr.out.1
    obtain ⟨l, hl⟩ : ∃ l, l = (L1 ++ L2).take m := ⟨_, rfl⟩
    have hlm : l.length = m := by rw [hl, List.length_take, List.length_append, ← HM1.out, ← HM2.out, ← HMM.out]; omega
    have hlok : ∀ r ∈ l, Rec.ok r := fun r hr => by rw [hl] at hr; exact HOK.out r (List.mem_of_mem_take hr)
    have RL : Hid (RecsAt wc a l) := Lib.hid (by rw [hl]; exact hr.out.2.2.1.take m)
    have BC := Lib.hid (below_on B1.out hr.out.2.2.2)
    have hsl := fun w => slice_head (P := Try.prog) (t := 48) w Try.underlying48 size_rec a M c m (by omega)
    have HLM := Lib.hid hlm; clear hlm
    have HLO := Lib.hid hlok; clear hlok hm hr HOK HS1 HS2
    obtain ⟨MS, hMS⟩ : ∃ MS, MS = sizeOf_ a1 := ⟨_, rfl⟩
    have hMSr : 1 ≤ MS ∧ MS ≤ 400 := by rw [hMS]; exact sizeOf_rng a1
    have hmost : min (max a1 1) 400 = (MS : Int) := by rw [hMS, sizeOf_eq]
    have HMS := Lib.hid hMS; clear hMS
    go_wp2_with fail
    refine (inv_new 1048576 wc _ (Below.refl _ _) (by omega) (by omega)).mono ?_
    rintro e w3 ⟨rfl, h3⟩
    have H3 := Lib.hid h3; clear h3
    obtain ⟨p, hp⟩ : ∃ p, p = wc.heap.size := ⟨_, rfl⟩
    rw [← hp] at H3 ⊢
    clear hp
    go_wp2_with fail
    refine (open_new H3.out a1 (by omega) (by omega)).mono ?_
    rintro e w4 ⟨pb, aa, cc, rfl, h4⟩
    rw [← HMS.out] at h4
    obtain ⟨K0, h4k⟩ := h4.k
    have hlg : Lg wc w4 p pb (SSt.new 1048576) ⟨MS, 0, 0, []⟩ [] K0 := ⟨h4k, by have := LogOf.new a1; rw [← HMS.out] at this; exact this, by simp, by simp⟩
    have HST : Hid (St wc w4 p pb MS 0 0 0 fl l) := Lib.hid ⟨_, _, [], K0, hlg, by simp, rfl, by simp; omega, rfl, rfl, fun _ x hx => by simp at hx⟩
    clear hlg h4 h4k H3
    go_wp2_with fail
    go_loopw [13, 14, 15, 16, 55] (fun sv wv _ _ iv wr => ∃ i su wt : Nat, i ≤ m ∧ su ≤ 100 ∧ wt ≤ 100 ∧ sv = .int .i64 su ∧ wv = .int .i64 wt ∧ iv = .int .i64 i ∧ Hid (St wc wr p pb MS i su wt fl l)) (fun _ _ _ _ iv _ => m - (intOf iv).toNat)
    case atStart => exact ⟨0, 0, 0, by omega, by omega, by omega, rfl, rfl, rfl, HST⟩
    case round =>
      obtain ⟨i, su, wt, him, hsu1, hwt1, rfl, rfl, rfl, hr⟩ := hrel
      obtain ⟨s, b, bat, K, hlg, hfl2, hbs, hbw, hsu, hwt, hall⟩ := hr.out
      have hlen := congrArg List.length hfl2
      rw [List.length_append, List.length_take, HLM.out] at hlen
      have HLG := Lib.hid hlg; clear hlg hr HST
      have HFL2 := Lib.hid hfl2; clear hfl2
      have HALL := Lib.hid hall; clear hall
      have HBS := Lib.hid hbs; clear hbs
      have HSU := Lib.hid hsu
      have HWT := Lib.hid hwt
      rw [← hsu, ← hwt] at hlen
      rw [← hwt] at hbw
      clear hsu hwt
      by_cases hlt : i < m
      · have hbw0 := below_on BC.out HLG.out.log.log.bel
        obtain ⟨b0, off, rfl, hr0, hr1⟩ := (RL.out.below HLG.out.log.log.bel) i (by rw [HLM.out]; exact hlt)
        have hrok := HLO.out _ (List.getElem_mem (by rw [HLM.out]; exact hlt : i < l.length))
        have htk : l.take (i + 1) = l.take i ++ [l[i]'(by rw [HLM.out]; exact hlt)] := List.take_succ_eq_append_getElem (by rw [HLM.out]; exact hlt)
        generalize l[i]'(by rw [HLM.out]; exact hlt) = r at hr0 hr1 hrok htk
        obtain ⟨rk, rn⟩ := r
        simp only at hr0 hr1
        have HTK := Lib.hid htk; clear htk
        have HRK := Lib.hid hrok; clear hrok
        have HAT3 := Lib.hid (HAT2.out.below hbw0); clear hbw0
        by_cases hA : wt + 1 = MS
        · have g1 : ((wt : Int) + 1 == (MS : Int)) = true := by rw [beq_iff_eq]; omega
          have HCOND : Hid (fl = 0 → wt + 1 = MS) := Lib.hid (fun _ => hA)
          clear hA
          go_wp2_with fail
          refine (lg_add (HLG.out.step (below_alloc1 _ _)) (rk, rn) HRK.out (by have := HWT.out; omega) (by have := HWT.out; have := HSU.out; omega)).mono ?_
          rintro e w5 ⟨rfl, K5, h5, c5, n5⟩
          have H5 := Lib.hid h5; clear h5 c5 n5
          go_wp2_with fail
          refine (lg_flush H5.out).mono ?_
          rintro e w6 ⟨rfl, K6, h6, c6, n6⟩
          rw [after_last] at h6
          clear c6 n6 H5
          have hdone := St.done (fl := fl) h6 HFL2.out HTK.out (by rw [flushed_size, after_size]; exact HBS.out) hMSr.1 (flushed_wait _) HSU.out HWT.out (fun h0 => ⟨HALL.out h0, HCOND.out h0⟩)
          have HST2 := Lib.hid hdone.1
          have hsv : (((b.after (rk, rn)).flushed.sure : Nat) : Int) = (su : Int) + ((wt : Int) + 1) := by rw [hdone.2]; omega
          have HSV := Lib.hid hsv
          have H6 := Lib.hid h6; clear h6 hdone hsv
          go_wp2_with fail
          refine (lsure_any H6.out.log.log).mono ?_
          rintro e w7 ⟨rfl, rfl⟩
          rw [HSV.out]
          go_wp2_with fail
          refine (lwait_any H6.out.log.log).mono ?_
          rintro e w7 ⟨rfl, rfl⟩
          rw [flushed_wait, List.length_nil]
          go_wp2
          exact ⟨⟨i + 1, su + (wt + 1), 0, by omega, by omega, by omega, by go_num, rfl, by go_num, HST2.out⟩, by simp [intOf]; omega⟩
        · have g1 : ((wt : Int) + 1 == (MS : Int)) = false := by rw [beq_eq_false_iff_ne]; omega
          have EB : Hid (b.after (rk, rn) = b.added (rk, rn) ∧ s.after b (rk, rn) = s ∧ batAfter b bat (rk, rn) = bat) := Lib.hid (by
            have hc : b.wait.length + 1 < b.size := by rw [HBS.out, ← HWT.out]; omega
            unfold BSt.after SSt.after batAfter
            rw [if_pos hc, if_pos hc, if_pos hc]; exact ⟨rfl, rfl, rfl⟩)
          by_cases hif : i < fl
          · obtain ⟨fb, fo, rfl, hfc⟩ := HAT2.out i (by rw [← HFL.out]; exact hif)
            generalize l2[i]'(by rw [← HFL.out]; exact hif) = bb at hfc
            cases bb
            · have HCC : Hid True := Lib.hid trivial
              go_wp2_with fail
              refine (lg_add (HLG.out.step (below_alloc1 _ _)) (rk, rn) HRK.out (by have := HWT.out; omega) (by have := HWT.out; have := HSU.out; omega)).mono ?_
              rintro e w6 ⟨rfl, K6, h6, c6, n6⟩
              have hfc6 := cell_below hfc (below_on BC.out h6.log.log.bel)
              rw [EB.out.1, EB.out.2.1, EB.out.2.2] at h6
              clear c6 n6
              have hst2 : St wc w6 p pb MS (i + 1) su (wt + 1) fl l := by
                refine ⟨s, b.added (rk, rn), bat, K6, h6, ?_, HBS.out, ?_, HSU.out, ?_, HALL.out⟩
                · show bat.flatten ++ (b.wait ++ [(rk, rn)]) = _
                  rw [← List.append_assoc, HFL2.out, HTK.out]
                · simp only [BSt.added, List.length_append, List.length_singleton]; have := HWT.out; omega
                · simp only [BSt.added, List.length_append, List.length_singleton]; have := HWT.out; omega
              have HST2 := Lib.hid hst2
              have hsv : (((b.added (rk, rn)).sure : Nat) : Int) = (su : Int) := by rw [h6.of.sure, HSU.out]
              have hwv : (((b.added (rk, rn)).wait.length : Nat) : Int) = (wt : Int) + 1 := by simp only [BSt.added, List.length_append, List.length_singleton]; have := HWT.out; omega
              have HSV := Lib.hid hsv
              have HWV := Lib.hid hwv
              have H6 := Lib.hid h6; clear h6 hst2 hsv hwv
              go_wp2_with fail
              refine (lsure_any H6.out.log.log).mono ?_
              rintro e w7 ⟨rfl, rfl⟩
              rw [HSV.out]
              go_wp2_with fail
              refine (lwait_any H6.out.log.log).mono ?_
              rintro e w7 ⟨rfl, rfl⟩
              rw [HWV.out]
              go_wp2
              exact ⟨⟨i + 1, su, wt + 1, by omega, by omega, by omega, rfl, by go_num, by go_num, HST2.out⟩, by simp [intOf]; omega⟩
            · have HCOND : Hid (fl = 0 → wt + 1 = MS) := Lib.hid (fun h => by omega)
              go_wp2_with fail
              refine (lg_add (HLG.out.step (below_alloc1 _ _)) (rk, rn) HRK.out (by have := HWT.out; omega) (by have := HWT.out; have := HSU.out; omega)).mono ?_
              rintro e w5 ⟨rfl, K5, h5, c5, n5⟩
              have hfc5 := cell_below hfc (below_on BC.out h5.log.log.bel)
              have H5 := Lib.hid h5; clear h5 c5 n5
              go_wp2_with fail
              refine (lg_flush H5.out).mono ?_
              rintro e w6 ⟨rfl, K6, h6, c6, n6⟩
              rw [after_last] at h6
              clear c6 n6 H5
              have hdone := St.done (fl := fl) h6 HFL2.out HTK.out (by rw [flushed_size, after_size]; exact HBS.out) hMSr.1 (flushed_wait _) HSU.out HWT.out (fun h0 => ⟨HALL.out h0, HCOND.out h0⟩)
              have HST2 := Lib.hid hdone.1
              have hsv : (((b.after (rk, rn)).flushed.sure : Nat) : Int) = (su : Int) + ((wt : Int) + 1) := by rw [hdone.2]; omega
              have HSV := Lib.hid hsv
              have H6 := Lib.hid h6; clear h6 hdone hsv
              go_wp2_with fail
              refine (lsure_any H6.out.log.log).mono ?_
              rintro e w7 ⟨rfl, rfl⟩
              rw [HSV.out]
              go_wp2_with fail
              refine (lwait_any H6.out.log.log).mono ?_
              rintro e w7 ⟨rfl, rfl⟩
              rw [flushed_wait, List.length_nil]
              go_wp2
              exact ⟨⟨i + 1, su + (wt + 1), 0, by omega, by omega, by omega, by go_num, rfl, by go_num, HST2.out⟩, by simp [intOf]; omega⟩
          · have HCC : Hid True := Lib.hid trivial
            go_wp2_with fail
            refine (lg_add (HLG.out.step (below_alloc1 _ _)) (rk, rn) HRK.out (by have := HWT.out; omega) (by have := HWT.out; have := HSU.out; omega)).mono ?_
            rintro e w6 ⟨rfl, K6, h6, c6, n6⟩
            rw [EB.out.1, EB.out.2.1, EB.out.2.2] at h6
            clear c6 n6
            have hst2 : St wc w6 p pb MS (i + 1) su (wt + 1) fl l := by
              refine ⟨s, b.added (rk, rn), bat, K6, h6, ?_, HBS.out, ?_, HSU.out, ?_, HALL.out⟩
              · show bat.flatten ++ (b.wait ++ [(rk, rn)]) = _
                rw [← List.append_assoc, HFL2.out, HTK.out]
              · simp only [BSt.added, List.length_append, List.length_singleton]; have := HWT.out; omega
              · simp only [BSt.added, List.length_append, List.length_singleton]; have := HWT.out; omega
            have HST2 := Lib.hid hst2
            have hsv : (((b.added (rk, rn)).sure : Nat) : Int) = (su : Int) := by rw [h6.of.sure, HSU.out]
            have hwv : (((b.added (rk, rn)).wait.length : Nat) : Int) = (wt : Int) + 1 := by simp only [BSt.added, List.length_append, List.length_singleton]; have := HWT.out; omega
            have HSV := Lib.hid hsv
            have HWV := Lib.hid hwv
            have H6 := Lib.hid h6; clear h6 hst2 hsv hwv
            go_wp2_with fail
            refine (lsure_any H6.out.log.log).mono ?_
            rintro e w7 ⟨rfl, rfl⟩
            rw [HSV.out]
            go_wp2_with fail
            refine (lwait_any H6.out.log.log).mono ?_
            rintro e w7 ⟨rfl, rfl⟩
            rw [HWV.out]
            go_wp2
            exact ⟨⟨i + 1, su, wt + 1, by omega, by omega, by omega, rfl, by go_num, by go_num, HST2.out⟩, by simp [intOf]; omega⟩
      · obtain rfl : i = m := by omega
        clear him hlt
        have htk : l.take i = l := by rw [← HLM.out, List.take_length]
        have hfl3 := HFL2.out
        rw [htk] at hfl3
        have hwtm : b.wait.length ≤ MS := by have := HWT.out; omega
        by_cases hf0 : fl = 0
        · have hcnt0 := HLG.out.of.bat.count
          have hch := chunks_of MS hMSr.1 bat b.wait (i + 1) (HALL.out hf0) hwtm (by have := HSU.out; omega)
          rw [hfl3] at hch
          have hff : (batFlush b bat).flatten = l := by rw [batFlush_flat]; exact hfl3
          have hff2 : (batFlush b bat).flatten ++ b.flushed.wait = l := by rw [flushed_wait, List.append_nil]; exact hff
          have hch2 : chunksF MS (l.length + 1) l = batFlush b bat := by rw [HLM.out, hch]; rfl
          have HCH := Lib.hid hch2; clear hch hch2 hff hfl3 hcnt0
          have g0 : ((fl : Int) == 0) = true := by rw [beq_iff_eq]; omega
          go_wp2_with fail
          refine (lg_flush HLG.out).mono ?_
          rintro e w6 ⟨rfl, K6, h6, c6, n6⟩
          have H6 := Lib.hid h6; clear h6 c6 n6
          go_wp2_with fail
          refine (lbytes_any H6.out.log.log).mono ?_
          rintro e w7 ⟨rfl, rfl⟩
          obtain ⟨T1, hT1⟩ : ∃ T1, T1 = ByteArray.mk (s.flushed b).bs.toArray := ⟨_, rfl⟩
          rw [← hT1]
          have HT1 := Lib.hid hT1; clear hT1
          go_wp2_with fail
          have ht := told_any a c l _ (by rw [HLM.out]; omega) (RL.out.below H6.out.log.log.bel)
          unfold GotRecs at ht
          rw [HLM.out] at ht
          refine ht.mono ?_
          rintro e w7 ⟨tc, tcc, rfl, n1, n2, n3, n4⟩
          have hx := rtext_any tc tcc MS l w7 (by rw [HLM.out]; omega) (by rw [HLM.out]; exact n1) hMSr.1 hMSr.2 HLO.out n3
          have H7 := Lib.hid (H6.out.step n4); clear n1 n2 n3 n4 ht
          rw [HCH.out] at hx
          have hT2 : ByteArray.mk (rowF 0 ((batFlush b bat).map bodyA)).toArray = T1 := by
            rw [HT1.out, H6.out.of.bs]; rfl
          rw [hT2, HLM.out] at hx
          clear hT2
          go_wp2_with fail
          refine hx.mono ?_
          rintro e w8 ⟨rfl, hb8⟩
          have H8 := Lib.hid (H7.out.step hb8); clear hb8 hx
          obtain ⟨N, hN⟩ : ∃ N, N = (s.flushed b).bs.length := ⟨_, rfl⟩
          obtain ⟨T, hT⟩ : ∃ T, T = ByteArray.mk (s.flushed b).bs.toArray := ⟨_, rfl⟩
          have hTl : T.data.toList = logL (batFlush b bat) := by rw [hT]; exact H8.out.of.bs
          have hcnt := H8.out.of.bat.count
          obtain ⟨SU, hSU⟩ : ∃ SU, SU = (batFlush b bat).flatten.length := ⟨_, rfl⟩
          have hlen3 := congrArg List.length hff2
          rw [List.length_append, HLM.out, ← hSU] at hlen3
          have hSUi : SU ≤ i := by omega
          have hr0 := read_log0 T (batFlush b bat) hTl H8.out.of.bat (by omega)
          have hrec : recsOf (readR T) = l.take SU := by rw [hr0.2.1, ← hff2, hSU, List.take_left]
          have hend : lastEnd (readR T) = N := by rw [hr0.2.2.1, hN, H8.out.of.bs]
          have hlk : (l.take SU).length = SU := by rw [List.length_take, HLM.out]; omega
          have hsure : (b.flushed).sure = SU := by rw [H8.out.of.sure, hSU]
          have hsafe : (s.flushed b).safe = N := by rw [H8.out.of.safe, hN]
          have hTs : T.size ≤ 1048576 := by rw [size_list, hTl, ← H8.out.of.bs]; have := H8.out.of.room2 (by omega); exact this.2
          have hsl2 := fun w => slice_head (P := Try.prog) (t := 48) w Try.underlying48 size_rec a i c SU (by omega)
          have Q1 := Lib.hid hrec; clear hrec
          have Q2 := Lib.hid hend; clear hend
          have Q3 := Lib.hid hlk; clear hlk
          have Q4 := Lib.hid hsure; clear hsure
          have Q5 := Lib.hid hsafe; clear hsafe
          have Q6 := Lib.hid hN; clear hN
          have Q7 := Lib.hid hT; clear hT hTl hr0 hcnt hSU hlen3 hff2
          have QR := Lib.hid (RL.out.below H8.out.log.log.bel)
          have QB := Lib.hid (below_on BC.out H8.out.log.log.bel)
          go_wp2_with fail
          refine (lbytes_any H8.out.log.log).mono ?_
          rintro e w6 ⟨rfl, rfl⟩
          rw [← Q7.out]
          go_wp2_with fail
          refine (read_any T _ hTs).mono ?_
          rintro e w9 ⟨a9, cap9, rfl, k1, k2, k3, k4, k5⟩
          rw [Q1.out, Q2.out, Q3.out]
          rw [Q1.out] at k3
          generalize (readR T).length = z9
          have L9 := Lib.hid (H8.out.log.log.step k4)
          have R9 := Lib.hid (QR.out.below k4)
          have B9 := Lib.hid (below_on QB.out k4)
          have K3 := Lib.hid k3; clear k1 k2 k3 k4 k5
          go_wp2_with fail
          refine (lsure_any L9.out).mono ?_
          rintro e w10 ⟨rfl, rfl⟩
          rw [Q4.out]
          go_wp2_with fail
          have ht := told_any a c (l.take SU) _ (by rw [Q3.out]; omega) (R9.out.take SU)
          unfold GotRecs at ht
          rw [Q3.out] at ht
          refine ht.mono ?_
          rintro e w11 ⟨tc, tcc, rfl, n1, n2, n3, n4⟩
          have ha := are_eq a9 tc cap9 tcc (l.take SU) w11 (by rw [Q3.out]; omega) (K3.out.below n4) n3
          rw [Q3.out] at ha
          have B11 := Lib.hid (below_on B9.out n4)
          have L11 := Lib.hid (L9.out.step n4); clear n1 n2 n3 n4 ht
          go_wp2_with fail
          refine ha.mono ?_
          rintro e w12 ⟨rfl, n5⟩
          have B12 := Lib.hid (below_on B11.out n5)
          have L12 := Lib.hid (L11.out.step n5); clear n5 ha
          go_wp2_with fail
          refine (llen_any L12.out).mono ?_
          rintro e w13 ⟨rfl, rfl⟩
          rw [← Q6.out]
          go_wp2_with fail
          refine (lsafe_any L12.out).mono ?_
          rintro e w13 ⟨rfl, rfl⟩
          rw [Q5.out]
          go_wp2_with fail
          refine (llen_any L12.out).mono ?_
          rintro e w13 ⟨rfl, rfl⟩
          rw [← Q6.out]
          go_wp2
          go_ret
          exact ⟨rfl, B12.out⟩
        · have g0 : ((fl : Int) == 0) = false := by rw [beq_eq_false_iff_ne]; omega
          obtain ⟨N, hN⟩ : ∃ N, N = (s).bs.length := ⟨_, rfl⟩
          obtain ⟨T, hT⟩ : ∃ T, T = ByteArray.mk (s).bs.toArray := ⟨_, rfl⟩
          have hTl : T.data.toList = logL (bat) := by rw [hT]; exact HLG.out.of.bs
          have hcnt := HLG.out.of.bat.count
          obtain ⟨SU, hSU⟩ : ∃ SU, SU = (bat).flatten.length := ⟨_, rfl⟩
          have hlen3 := congrArg List.length hfl3
          rw [List.length_append, HLM.out, ← hSU] at hlen3
          have hSUi : SU ≤ i := by omega
          have hr0 := read_log0 T (bat) hTl HLG.out.of.bat (by omega)
          have hrec : recsOf (readR T) = l.take SU := by rw [hr0.2.1, ← hfl3, hSU, List.take_left]
          have hend : lastEnd (readR T) = N := by rw [hr0.2.2.1, hN, HLG.out.of.bs]
          have hlk : (l.take SU).length = SU := by rw [List.length_take, HLM.out]; omega
          have hsure : (b).sure = SU := by rw [HLG.out.of.sure, hSU]
          have hsafe : (s).safe = N := by rw [HLG.out.of.safe, hN]
          have hTs : T.size ≤ 1048576 := by rw [size_list, hTl, ← HLG.out.of.bs]; have := HLG.out.of.room2 (by omega); exact this.2
          have hsl2 := fun w => slice_head (P := Try.prog) (t := 48) w Try.underlying48 size_rec a i c SU (by omega)
          have Q1 := Lib.hid hrec; clear hrec
          have Q2 := Lib.hid hend; clear hend
          have Q3 := Lib.hid hlk; clear hlk
          have Q4 := Lib.hid hsure; clear hsure
          have Q5 := Lib.hid hsafe; clear hsafe
          have Q6 := Lib.hid hN; clear hN
          have Q7 := Lib.hid hT; clear hT hTl hr0 hcnt hSU hlen3 hfl3
          have QR := Lib.hid (RL.out.below HLG.out.log.log.bel)
          have QB := Lib.hid (below_on BC.out HLG.out.log.log.bel)
          go_wp2_with fail
          refine (lbytes_any HLG.out.log.log).mono ?_
          rintro e w6 ⟨rfl, rfl⟩
          rw [← Q7.out]
          go_wp2_with fail
          refine (read_any T _ hTs).mono ?_
          rintro e w9 ⟨a9, cap9, rfl, k1, k2, k3, k4, k5⟩
          rw [Q1.out, Q2.out, Q3.out]
          rw [Q1.out] at k3
          generalize (readR T).length = z9
          have L9 := Lib.hid (HLG.out.log.log.step k4)
          have R9 := Lib.hid (QR.out.below k4)
          have B9 := Lib.hid (below_on QB.out k4)
          have K3 := Lib.hid k3; clear k1 k2 k3 k4 k5
          go_wp2_with fail
          refine (lsure_any L9.out).mono ?_
          rintro e w10 ⟨rfl, rfl⟩
          rw [Q4.out]
          go_wp2_with fail
          have ht := told_any a c (l.take SU) _ (by rw [Q3.out]; omega) (R9.out.take SU)
          unfold GotRecs at ht
          rw [Q3.out] at ht
          refine ht.mono ?_
          rintro e w11 ⟨tc, tcc, rfl, n1, n2, n3, n4⟩
          have ha := are_eq a9 tc cap9 tcc (l.take SU) w11 (by rw [Q3.out]; omega) (K3.out.below n4) n3
          rw [Q3.out] at ha
          have B11 := Lib.hid (below_on B9.out n4)
          have L11 := Lib.hid (L9.out.step n4); clear n1 n2 n3 n4 ht
          go_wp2_with fail
          refine ha.mono ?_
          rintro e w12 ⟨rfl, n5⟩
          have B12 := Lib.hid (below_on B11.out n5)
          have L12 := Lib.hid (L11.out.step n5); clear n5 ha
          go_wp2_with fail
          refine (llen_any L12.out).mono ?_
          rintro e w13 ⟨rfl, rfl⟩
          rw [← Q6.out]
          go_wp2_with fail
          refine (lsafe_any L12.out).mono ?_
          rintro e w13 ⟨rfl, rfl⟩
          rw [Q5.out]
          go_wp2_with fail
          refine (llen_any L12.out).mono ?_
          rintro e w13 ⟨rfl, rfl⟩
          rw [← Q6.out]
          go_wp2
          go_ret
          exact ⟨rfl, B12.out⟩
end Go.Proofs.Ytklpnkfhcaepiaa.logbookWrites
