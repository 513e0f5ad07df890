/-
  The walk of the law SourceAgain.
-/
import Derived.Test.YtnmkkeifdfhpfaaW17Below
import Derived.Test.YtnmkkeifdfhpfaaWSrc6
import Derived.Deep.DeepCutAuto
open Go Go.RowKit
set_option linter.unusedVariables false
namespace Go.Proofs.Ytnmkkeifdfhpfaa
/-- The i-th draw of numbers that are asked so. -/
def drw1 (l : List Nat) (q : List Ac2) (i : Nat) : Rec := (fitK (q.getD i (0, 0)).1, l.getD i 0 % cnt (fitN (q.getD i (0, 0)).2))
def drw (l : List Nat) (q : List Ac2) (k : Nat) : List Rec := (List.range k).map (drw1 l q)
theorem drw_len (l : List Nat) (q : List Ac2) (k : Nat) : (drw l q k).length = k := by simp [drw]
theorem drw_succ (l : List Nat) (q : List Ac2) (k : Nat) : drw l q (k + 1) = drw l q k ++ [drw1 l q k] := by simp [drw, List.range_succ]
theorem drw_get (l : List Nat) (q : List Ac2) (k i : Nat) (h : i < k) : (drw l q k).getD i (0, 0) = drw1 l q i := by
  rw [List.getD_eq_getElem?_getD, List.getElem?_eq_getElem (by rw [drw_len]; exact h)]
  simp [drw]
theorem drw_ok (l : List Nat) (q : List Ac2) (k : Nat) : ∀ r ∈ drw l q k, r.2 < 18446744073709551616 := by
  intro r hr
  unfold drw at hr
  obtain ⟨i, _, rfl⟩ := List.mem_map.1 hr
  unfold drw1
  have h1 := cnt_pos (fitN (q.getD i (0, 0)).2)
  have h2 := cnt_lt (fitN (q.getD i (0, 0)).2) (by have := fitN_le (q.getD i (0, 0)).2; omega)
  have h3 := Nat.mod_lt (l.getD i 0) (show cnt (fitN (q.getD i (0, 0)).2) > 0 by omega)
  simp only
  omega
def frs (l : List Nat) (q : List Ac2) (k : Nat) : List Int := (drw l q k).map fun r => (r.2 : Int)
theorem frs_len (l : List Nat) (q : List Ac2) (k : Nat) : (frs l q k).length = k := by simp [frs, drw_len]
theorem frs_succ (l : List Nat) (q : List Ac2) (k : Nat) : frs l q (k + 1) = frs l q k ++ [((drw1 l q k).2 : Int)] := by simp [frs, drw_succ]
theorem frs_get (l : List Nat) (q : List Ac2) (k i : Nat) (h : i < k) : (intc (frs l q k))[i]? = some (.int .i64 ((drw1 l q i).2 : Int)) := by
  simp [intc, frs, drw, h]
/-- A tape's draw that fits. -/
theorem LDraw.tape {l t : List Rec} {kind n : Int} {S' : Src} {v e : Int} {u : List Value} (h : LDraw ⟨l, [], t⟩ kind n S' v e u) (ht : t.length < l.length) (h1 : (l.getD t.length (0, 0)).1 = kind) (h2 : (l.getD t.length (0, 0)).2 < cnt n) :
    S' = ⟨l, [], t ++ [l.getD t.length (0, 0)]⟩ ∧ v = ((l.getD t.length (0, 0)).2 : Int) ∧ e = 0 ∧ u = uz := by
  have hd : drawAt ⟨l, [], t⟩ t.length kind (cnt n) = some (l.getD t.length (0, 0)).2 := by
    unfold drawAt; rw [if_pos ht, if_pos ⟨h1, h2⟩]
  rcases h with ⟨h, _⟩ | ⟨_, h, _⟩ | ⟨_, x, h, k1, k2, k3, k4⟩
  · simp [Src.many] at h; omega
  · simp only at h; rw [hd] at h; cases h
  · simp only at h; rw [hd] at h; cases h
    exact ⟨by rw [k1]; simp [Src.take, ← h1], k2, k3, k4⟩
theorem info_in : (Try.prog.info? 3).map (fun i => (i.zero, i.size, i.bytes)) = some (some (.int .i64 0), 1, 8) := by kernel_rfl
end Go.Proofs.Ytnmkkeifdfhpfaa
namespace Go.Proofs.Ytnmkkeifdfhpfaa.sourceAgain
def St1 (w wr : World) (p : Nat) (l : List Nat) (q : List Ac2) (a : Option Addr) (c k : Nat) : Prop := Own w wr [SrcA p 0 ⟨[], l, drw l q k⟩ .nilFunc, RowGA 1 a c k (intc (frs l q k))]
def St2 (w wr : World) (p p2 : Nat) (l : List Nat) (q : List Ac2) (a : Option Addr) (c k j : Nat) : Prop := Own w wr [SrcA p2 1 ⟨drw l q k, [], drw l q j⟩ .nilFunc, SrcA p 0 ⟨[], l, drw l q k⟩ .nilFunc, RowGA 1 a c k (intc (frs l q k))]
set_option maxRecDepth 100000 in
set_option maxHeartbeats 4000000 in
theorem walk (a0 : Option Addr) (len0 cap0 : Nat) (z0 : List Int) (a1 : Option Addr) (len1 cap1 : Nat) (l1 : List Ac2) (w : World) (w0 : IsRow .u64 w a0 len0 cap0 z0) (s0 : cap0 * 8 ≤ 140737488351232) (w1 : IsActs2 w a1 len1 cap1 l1) :
    Calls Try.prog 4 #[.slice a0 len0 cap0, .slice a1 len1 cap1] w fun e w' => e = .returned (.bool true) ∧ Below w.heap.size w w' := by
  obtain ⟨l, rfl, hlc, hcl, hlu, hn0⟩ := nums_of w0
  obtain ⟨rfl, hc1, hm1, hat, hok⟩ := w1
  clear w0
  have hnew := fun w' (hb : Below w.heap.size w w') => onew_any (Own.nil (w := w') hb) a0 cap0 l (hcl.below hb) hn0 (by omega)
  have HNEW := Lib.hid hnew
  have HAT := Lib.hid hat
  have HOK := Lib.hid hok
  have hm : l.length ≤ 17592186043904 := by omega
  have hfine : ∀ t : List Rec, t.length ≤ l.length → t.length ≤ 1000 → Src.fine ⟨[], l, t⟩ 0 := fun t h1 h2 => ⟨⟨by simp, hlu⟩, ⟨by simp, by simp⟩, by simp [Src.many]; omega, by simpa [Src.many] using h1, h2⟩
  have HFN := Lib.hid hfine
  unfold maxLen at hm1
  obtain ⟨n0, hn0'⟩ : ∃ n0, n0 = l.length := ⟨_, rfl⟩
  obtain ⟨n1, hn1'⟩ : ∃ n1, n1 = l1.length := ⟨_, rfl⟩
  rw [← hn0'] at HNEW hm hlc ⊢
  rw [← hn1'] at hc1 ⊢
  have HN0 := Lib.hid hn0'
  have HN1 := Lib.hid hn1'
  clear hnew hcl hlu hat hok hfine hn0' hn1' hn0 s0
  go_enter Try.func4, Try.ntmps4
  go_wp2_with fail
  refine (awake17_any _).mono ?_
  rintro e w2 ⟨rfl, hb⟩
  have HB := Lib.hid hb
  clear hb
  go_wp2_with fail
  refine (HNEW.out _ HB.out).mono ?_
  rintro e w3 ⟨p, rfl, o3, -⟩
  have hst : St1 w (w3.alloc (.cells #[] 3)) p l l1 (some ⟨w3.heap.size, 0, none⟩) 0 0 := by
    have h1 := o3.add (below_alloc1 w3 (.cells #[] 3)) (A := RowGA 1 (some ⟨w3.heap.size, 0, none⟩) 0 0 (intc [])) (F := [w3.heap.size]) ⟨rfl, RowG.zero (by simp)⟩ (by simp)
    exact h1.pick 1 rfl
  have HST := Lib.hid hst
  clear o3 HNEW HB hst
  go_wp2_with fail
  go_loopw [6, 7] (fun v c wr => ∃ (k : Nat) (a : Option Addr) (cp : Nat), k ≤ n0 ∧ k ≤ n1 ∧ k ≤ 40 ∧ v = .slice a k cp ∧ c = .int .i64 k ∧ Hid (St1 w wr p l l1 a cp k)) (fun _ c _ => 40 - (intOf c).toNat)
  case atStart => exact ⟨0, _, _, by omega, by omega, by omega, rfl, rfl, HST⟩
  case round =>
    obtain ⟨k, a, cp, hk, hk1, hk40, rfl, rfl, hr⟩ := hrel
    clear HST
    by_cases hlt : k < n1 ∧ k < 40 ∧ k < n0
    · obtain ⟨h1, h2, h3⟩ := hlt
      have ho := hr.out
      unfold St1 at ho
      obtain ⟨ab, ao, rfl, ga, gb⟩ := HAT.out k (by have := HN1.out; omega)
      have hqe : l1.getD k (0, 0) = l1[k]'(by have := HN1.out; omega) := by rw [List.getD_eq_getElem?_getD, List.getElem?_eq_getElem (by have := HN1.out; omega)]; rfl
      have hkok := HOK.out _ (List.getElem_mem (by have := HN1.out; omega : k < l1.length))
      generalize l1[k]'(by have := HN1.out; omega) = q at ga gb hkok hqe
      obtain ⟨qk, qn⟩ := q
      simp only at ga gb hkok
      obtain ⟨-, -, hq3⟩ := hkok
      have hfit := fun w' => fit_any w' qk qn (by omega)
      have HFIT := Lib.hid hfit
      have hle := sleft_any ho (by simp [Src.many]; have := HN0.out; omega) (by simp [Src.many, drw_len]; have := HN0.out; omega)
      have e1 : ((Src.many ⟨[], l, drw l l1 k⟩ - (Src.taken ⟨[], l, drw l l1 k⟩).length : Nat) : Int) = ((n0 - k : Nat) : Int) := by
        simp only [Src.many, List.length_nil, drw_len]
        have := HN0.out; omega
      rw [e1] at hle
      obtain ⟨d, hd⟩ : ∃ d, d = n0 - k := ⟨_, rfl⟩
      rw [← hd] at hle
      have hd0 : 0 < d := by omega
      have HL := Lib.hid hle
      have hbw := ho.bel
      have ga' := cell_below ga hbw
      have gb' := cell_below gb hbw
      have HG := Lib.hid (And.intro ga' gb')
      have HO := Lib.hid ho
      have HQE := Lib.hid hqe
      clear hfit ga gb hq3 hr hbw hle e1 hd ho hqe ga' gb'
      go_wp2_with fail
      refine HL.out.mono ?_
      rintro r w4 ⟨rfl, m, rfl⟩
      have hb4 : Below wr.heap.size wr (wr.drewN m) := below_drewN (Below.refl _ _) m
      have ga := cell_below HG.out.1 hb4
      have gb := cell_below HG.out.2 hb4
      have HO4 := Lib.hid (HO.out.step hb4)
      clear HL hb4 HG HO
      generalize wr.drewN m = W4 at *
      go_wp2_with fail
      refine (HFIT.out _).mono ?_
      rintro r w5 ⟨rfl, hb5⟩
      generalize hfn : fitN qn = fn
      have hfl : fn ≤ 1099511627776 := by rw [← hfn]; exact fitN_le qn
      generalize hfk : fitK qk = fk at *
      have hdw := ldraw_any (HO4.out.step hb5) (HFN.out _ (by rw [drw_len, ← HN0.out]; omega) (by rw [drw_len]; omega)) fk fn (by omega)
      have HD := Lib.hid hdw
      have HFF := Lib.hid (And.intro hfk hfn)
      clear hdw hb5 hfn hfk HFIT ga gb HO4
      go_wp2_with fail
      refine HD.out.mono ?_
      rintro r w6 ⟨S', v, e, u, hl, rfl, o6⟩
      obtain ⟨hs, hv, rfl, rfl⟩ := hl.oracle (by rw [drw_len, ← HN0.out]; omega)
      rw [drw_len] at hs hv
      have e2 : drw1 l l1 k = (fk, l.getD k 0 % cnt fn) := by unfold drw1; rw [HQE.out]; simp only; rw [HFF.out.1, HFF.out.2]
      have e3 : S' = ⟨[], l, drw l l1 (k + 1)⟩ := by rw [hs, drw_succ, e2]
      have e4 : v = ((drw1 l l1 k).2 : Int) := by rw [hv, e2]
      have o7 := o6.step (below_alloc1 w6 (.cells uz.toArray 44))
      rw [e3] at o7
      have HO7 := Lib.hid o7
      have HV := Lib.hid e4
      clear o7 e2 e3 e4 hs hv hl o6 HD
      unfold uz at HO7 ⊢
      go_upto_region 10 with fail
      generalize w6.alloc (.cells #[.int .i64 0, .int .i64 0, .int .i64 0, .int .i64 0, .int .u64 0] 44) = W7 at *
      obtain ⟨i0, hi0, hz0, hz1, hz2⟩ := info_parts info_in
      have Hi := Lib.hid hi0; clear hi0
      have Hz0 := Lib.hid hz0; clear hz0
      have Hz1 := Lib.hid hz1; clear hz1
      have Hz2 := Lib.hid hz2; clear hz2
      have hrow := Lib.hid (HO7.out.rowG 1 rfl)
      go_wp2_with (at_builtin; refine wpList_append_rowG (n := k) (m := 1) (cs := intc (frs l l1 k)) (ds := intc [v]) rfl _ _ 54 rfl 3 i0 _ Try.underlying54 Hi.out Hz0.out Hz1.out Hz2.out rfl (by omega) (by omega) rfl rfl (hrow.out.below (below_alloc1 _ _)) (CellsAt.new _ (intc [v]) _ rfl) rfl (intc_one _) (by omega) ?_)
      intro a9 c9 w9 k9 ch9 f9
      have o9 : St1 w w9 p l l1 a9 c9 (k + 1) := by
        have h1 := Own.rowTurn ((HO7.out.step (below_alloc1 W7 (.cells #[.int .i64 v] 3))).pick 1 rfl) k9 ch9 (fun x hx => by have := f9 x hx; simpa using this)
        unfold St1
        rw [frs_succ, ← HV.out, intc_app]
        exact h1.pick 1 rfl
      have HO9 := Lib.hid o9
      clear o9 k9 ch9 f9 hrow HO7
      go_wp2
      exact ⟨⟨k + 1, a9, c9, by omega, by omega, by omega, rfl, by go_num, HO9⟩, by simp [intOf]; omega⟩
    · have ho := hr.out
      unfold St1 at ho
      have hle := sleft_any ho (by simp [Src.many]; have := HN0.out; omega) (by simp [Src.many, drw_len]; have := HN0.out; omega)
      have HL := Lib.hid hle
      have HO := Lib.hid ho
      have hcase : (¬ k < n1) ∨ (k < n1 ∧ ¬ k < 40) ∨ (k < n1 ∧ k < 40 ∧ ¬ k < n0) := by omega
      clear hlt hle ho hr
      go_upto_region 6 with fail
      go_cut [41] (fun s wx => s = .bool false ∧ Hid (St1 w wx p l l1 a cp k))
      case first =>
        rcases hcase with z1 | ⟨z1, z2⟩ | ⟨z1, z2, z3⟩
        · clear HL
          go_wp2_with fail
          go_meet
          exact ⟨rfl, HO.out⟩
        · clear HL
          go_wp2_with fail
          go_meet
          exact ⟨rfl, HO.out⟩
        · have e1 : ((Src.many ⟨[], l, drw l l1 k⟩ - (Src.taken ⟨[], l, drw l l1 k⟩).length : Nat) : Int) = 0 := by
            simp only [Src.many, List.length_nil, drw_len]
            have := HN0.out; omega
          rw [e1] at HL
          clear e1
          go_wp2_with fail
          refine HL.out.mono ?_
          rintro r w4 ⟨rfl, m, rfl⟩
          have HS := Lib.hid (HO.out.step (below_drewN (Below.refl _ _) m))
          clear HL
          go_wp2_with fail
          go_meet
          exact ⟨rfl, HS.out⟩
      case rest =>
        obtain ⟨rfl, hs⟩ := hcut
        have hs1 := hs.out
        unfold St1 at hs1
        have htk := staken_any hs1 (by simp only [drw_len]; omega)
        simp only [drw_len] at htk
        have HTK := Lib.hid htk
        clear hs htk HL HO hcase
        have HS := Lib.hid hs1
        clear hs1
        go_wp2_with fail
        refine HTK.out.mono ?_
        rintro r w4 ⟨a', c', rfl, k1, k2, k3⟩
        have htn := tnew_any (HS.out.step k3) a' c' (drw l l1 k) k1.cells (by rw [drw_len]; exact nil_noneG k1) (by rw [drw_len]; omega)
        rw [drw_len] at htn
        have HTN := Lib.hid htn
        clear htn k1 k2 k3 HTK HS
        go_wp2_with fail
        refine HTN.out.mono ?_
        rintro r w5 ⟨p2, rfl, o5, -⟩
        have HS2 : Hid (St2 w w5 p p2 l l1 a cp k 0) := Lib.hid o5
        have hf2 : ∀ j, j ≤ k → Src.fine ⟨drw l l1 k, [], drw l l1 j⟩ 1 := fun j hj => ⟨⟨drw_ok l l1 k, by simp⟩, ⟨by simp, by simp⟩, by simp [Src.many, drw_len]; omega, by simp [Src.many, drw_len]; exact hj, by simp [drw_len]; omega⟩
        have HF2 := Lib.hid hf2
        clear o5 HTN hf2
        go_wp2_with fail
        go_loopw [69] (fun c wr2 => ∃ j : Nat, j ≤ k ∧ c = .int .i64 j ∧ Hid (St2 w wr2 p p2 l l1 a cp k j)) (fun c _ => k - (intOf c).toNat)
        case atStart => exact ⟨0, by omega, rfl, HS2⟩
        case round =>
          obtain ⟨j, hj, rfl, hr2⟩ := hrel
          clear HS2
          have ho := hr2.out
          unfold St2 at ho
          by_cases hjk : j < k
          · have hrow := ho.rowG 2 rfl
            obtain ⟨fb, fo, rfl, gf⟩ := hrow.cells j _ (frs_get l l1 k j hjk)
            obtain ⟨ab, ao, rfl, ga, gb⟩ := HAT.out j (by have := HN1.out; omega)
            have hqe : l1.getD j (0, 0) = l1[j]'(by have := HN1.out; omega) := by rw [List.getD_eq_getElem?_getD, List.getElem?_eq_getElem (by have := HN1.out; omega)]; rfl
            have hkok := HOK.out _ (List.getElem_mem (by have := HN1.out; omega : j < l1.length))
            generalize l1[j]'(by have := HN1.out; omega) = q at ga gb hkok hqe
            obtain ⟨qk, qn⟩ := q
            simp only at ga gb hkok
            obtain ⟨-, -, hq3⟩ := hkok
            have hfit := fun w' => fit_any w' qk qn (by omega)
            have HFIT := Lib.hid hfit
            have hdr : drw1 l l1 j = (fitK qk, l.getD j 0 % cnt (fitN qn)) := by unfold drw1; rw [hqe]
            have hrm : (drw1 l l1 j).2 < cnt (fitN qn) := by rw [hdr]; exact Nat.mod_lt _ (cnt_pos _)
            have hrk : (drw1 l l1 j).1 = fitK qk := by rw [hdr]
            have hdg := drw_get l l1 k j hjk
            have hbw := ho.bel
            have ga' := cell_below ga hbw
            have gb' := cell_below gb hbw
            generalize hX : (drw1 l l1 j).2 = X at gf hrm
            have HX := Lib.hid (And.intro hX (And.intro hrm (And.intro hrk hdg)))
            have HO := Lib.hid ho
            clear hfit ga gb hq3 hr2 hbw ho hqe hdr hrm hrk hX hdg hrow
            go_wp2_with fail
            refine (HFIT.out _).mono ?_
            rintro r w6 ⟨rfl, hb6⟩
            generalize hfn : fitN qn = fn at *
            have hfl : fn ≤ 1099511627776 := by rw [← hfn]; exact fitN_le qn
            generalize hfk : fitK qk = fk at *
            have hdw := ldraw_any (HO.out.step hb6) (HF2.out j hj) fk fn (by omega)
            have HD := Lib.hid hdw
            clear hdw hb6 hfn hfk HFIT ga' gb' gf HO
            go_wp2_with fail
            refine HD.out.mono ?_
            rintro r w7 ⟨S', v, e, u, hl, rfl, o7⟩
            obtain ⟨x1, x2, x3, x4⟩ := HX.out
            obtain ⟨hs, hv, rfl, rfl⟩ := hl.tape (by rw [drw_len, drw_len]; exact hjk) (by rw [drw_len, x4]; exact x3) (by rw [drw_len, x4, x1]; exact x2)
            rw [drw_len, x4] at hs hv
            rw [x1] at hv
            subst hv
            rw [← drw_succ] at hs
            subst hs
            have o8 := o7.step (below_alloc1 w7 (.cells uz.toArray 44))
            have HO8 := Lib.hid o8
            clear o7 o8 hl HD x1 x2 x3 x4 HX
            unfold uz at HO8 ⊢
            go_wp2
            exact ⟨⟨j + 1, by omega, by go_num, HO8⟩, by simp [intOf]; omega⟩
          · obtain rfl : j = k := by omega
            clear hr2 hjk
            have hdw := ldraw_any ho (HF2.out j (Nat.le_refl _)) 1 1 (by omega)
            have HD := Lib.hid hdw
            clear hdw ho
            go_wp2_with fail
            refine HD.out.mono ?_
            rintro r w7 ⟨S', v, e, u, hl, rfl, o7⟩
            obtain ⟨rfl, rfl, rfl, rfl⟩ := hl.spent (by simp [Src.many])
            have o8 := o7.step (below_alloc1 w7 (.cells uz.toArray 44))
            have hle := sleft_any o8 (by simp [Src.many, drw_len]; omega) (by simp [Src.many])
            have e1 : ((Src.many ⟨drw l l1 j, [], drw l l1 j⟩ - (Src.taken ⟨drw l l1 j, [], drw l l1 j⟩).length : Nat) : Int) = 0 := by simp [Src.many]
            rw [e1] at hle
            have HL := Lib.hid hle
            have HB := Lib.hid o8.bel
            clear o7 o8 hl HD hle e1
            unfold uz at HL HB ⊢
            go_wp2_with fail
            refine HL.out.mono ?_
            rintro r w8 ⟨rfl, m, rfl⟩
            have HB2 := Lib.hid (below_drewN HB.out m)
            clear HL HB
            go_wp2
            go_ret
            exact ⟨rfl, HB2.out⟩
end Go.Proofs.Ytnmkkeifdfhpfaa.sourceAgain
