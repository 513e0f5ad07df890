/-
  The walks of a heap: what goes up, what goes down.
-/
import Derived.Test.YtljdckipnbdknaaWHeap1
open Go Go.RowKit
set_option linter.unusedVariables false
namespace Go.Proofs.Ytljdckipnbdknaa
abbrev foot (p : Nat) (v : Value) : List Nat := p :: v.ownBlock.toList
theorem Chg.trans0 {F : List Nat} {a b c : World} (h : Chg F a b) (k : Chg F b c) : Chg F a c := h.trans k (fun _ hx => .inl hx)
set_option maxRecDepth 100000 in
set_option maxHeartbeats 2000000 in
theorem rise_any (w : World) (p : Nat) (v : Value) (l : List It) (nx k0 : Nat) (h : HeapAt w p v l nx) (hk : k0 < l.length) (hl : l.length ≤ 1000000) :
    Calls Try.prog 16 #[.pointer (some ⟨p, 0, none⟩), .int .i64 (k0 : Int)] w fun r w' => r = .returned (.tuple #[]) ∧ HeapAt w' p v (riseF l k0) nx ∧ Chg (foot p v) w w' := by
  have H := Lib.hid h; clear h
  have HK := Lib.hid hk; clear hk
  have HL := Lib.hid hl; clear hl
  generalize hR : riseF l k0 = R
  have HR := Lib.hid hR; clear hR
  go_enter Try.func16, Try.ntmps16
  go_wp2_with fail
  go_loopw [1] (fun t wr => ∃ k : Nat, ∃ l' : List It, t = .int .i64 k ∧ k ≤ 1000000 ∧ Hid (HeapAt wr p v l' nx ∧ Chg (foot p v) w wr ∧ riseF l' k = R ∧ l'.length = l.length ∧ k < l.length)) (fun t _ => (intOf t).toNat)
  case atStart => exact ⟨k0, l, rfl, by have := HL.out; have := HK.out; omega, H.out, Chg.refl _ _, HR.out, rfl, HK.out⟩
  case round =>
    obtain ⟨k, l', rfl, hkb, hr⟩ := hrel
    by_cases h0 : 0 < k
    · obtain ⟨m, hm⟩ : ∃ m, m = (k - 1) / 4 := ⟨_, rfl⟩
      have hq : ((k : Int) - 1).tdiv 4 = (m : Int) := by rw [hm, Int.tdiv_eq_ediv_of_nonneg (by omega)]; omega
      have hwm : IntKind.i64.wrap (m : Int) = (m : Int) := by rw [IntKind.wrap_i64]; omega
      have hmk : m < k := by omega
      have HM := Lib.hid hm; clear hm
      have hc := earlier_any wr p v l' nx k m hr.out.1 (by have := hr.out; omega) (by have := hr.out; omega) (by have := hr.out.2.2.2.1; have := HL.out; omega)
      cases hlt : ltI (gI l' k) (gI l' m) with
      | false =>
        rw [hlt] at hc
        have HC := Lib.hid hc; clear hc
        have hst : riseF l' k = l' := riseF_stop (fun h => by rw [← HM.out, hlt] at h; exact absurd h.2 (by simp))
        have hend : ∀ w2, Below wr.heap.size wr w2 → HeapAt w2 p v R nx ∧ Chg (foot p v) w w2 := fun w2 hb => by
          have := hr.out.2.2.1
          rw [← this, hst]
          exact ⟨hr.out.1.below hb, hr.out.2.1.trans0 (Chg.of_below hb)⟩
        have HE := Lib.hid hend
        clear hst hend hlt
        go_wp2_with fail
        refine HC.out.mono ?_
        rintro r w2 ⟨rfl, hb⟩
        have HF := Lib.hid (HE.out _ hb); clear hb
        go_wp2
        refine bodyPost_ret (results_none rfl _ _ _) rfl ?_
        exact ⟨rfl, HF.out⟩
      | true =>
        rw [hlt] at hc
        have HC := Lib.hid hc; clear hc
        have hgo : riseF l' k = riseF (swI l' k m) m := by have := riseF_go h0 (by rw [← HM.out]; exact hlt); rw [← HM.out] at this; exact this
        have hsw : ∀ w2, Below wr.heap.size wr w2 → Calls Try.prog 24 #[.pointer (some ⟨p, 0, none⟩), .int .i64 (k : Int), .int .i64 (m : Int)] w2 fun r w' => r = .returned (.tuple #[]) ∧ (HeapAt w' p v (swI l' k m) nx ∧ Chg (foot p v) w w' ∧ riseF (swI l' k m) m = R ∧ (swI l' k m).length = l.length ∧ m < l.length) := fun w2 hb =>
          (swap_any w2 p v l' nx k m (hr.out.1.below hb) (by have := hr.out; omega) (by have := hr.out; omega) (by have := hr.out.2.2.2.1; have := HL.out; omega)).mono fun r w' ⟨e, h1, h2⟩ =>
            ⟨e, h1, (hr.out.2.1.trans0 (Chg.of_below hb)).trans0 h2, by rw [← hgo]; exact hr.out.2.2.1, by rw [swI_len]; exact hr.out.2.2.2.1, by have := hr.out; omega⟩
        have HSW := Lib.hid hsw
        clear hgo hsw hlt
        go_wp2_with fail
        refine HC.out.mono ?_
        rintro r w2 ⟨rfl, hb⟩
        have HSW2 := Lib.hid (HSW.out _ hb); clear hb
        go_wp2_with fail
        refine HSW2.out.mono ?_
        rintro r w3 ⟨rfl, h3⟩
        have H3 := Lib.hid h3; clear h3
        go_wp2
        exact ⟨⟨m, swI l' k m, rfl, by omega, H3⟩, by simp [intOf]; omega⟩
    · obtain rfl : k = 0 := by omega
      have hst : riseF l' 0 = l' := riseF_stop (fun h => by omega)
      have hend : HeapAt wr p v R nx ∧ Chg (foot p v) w wr := by
        have := hr.out.2.2.1
        rw [← this, hst]; exact ⟨hr.out.1, hr.out.2.1⟩
      have HE := Lib.hid hend
      clear hst hend
      go_wp2
      go_end0
      exact ⟨rfl, HE.out⟩
theorem firstF_stable (l : List It) (k : Nat) : ∀ (j d : Nat), l.length ≤ k * 4 + 1 + j → firstF l k (j + d) = firstF l k j
  | j, 0, _ => rfl
  | j, d + 1, h => by rw [← Nat.add_assoc, firstF, if_neg (by omega)]; exact firstF_stable l k j d h
set_option maxRecDepth 100000 in
set_option maxHeartbeats 2000000 in
theorem sink_any (w : World) (p : Nat) (v : Value) (l : List It) (nx k0 : Nat) (h : HeapAt w p v l nx) (hk : k0 < l.length) (hl : l.length ≤ 1000000) :
    Calls Try.prog 25 #[.pointer (some ⟨p, 0, none⟩), .int .i64 (k0 : Int)] w fun r w' => r = .returned (.tuple #[]) ∧ HeapAt w' p v (sinkF l k0) nx ∧ Chg (foot p v) w w' := by
  have H := Lib.hid h; clear h
  have HK := Lib.hid hk; clear hk
  obtain ⟨n, hn⟩ : ∃ n, n = l.length := ⟨_, rfl⟩
  rw [← hn] at hl
  have HN := Lib.hid hn; clear hn
  generalize hR : sinkF l k0 = R
  have HR := Lib.hid hR; clear hR
  go_enter Try.func25, Try.ntmps25
  go_wp2_with fail
  go_loopw [1] (fun t wr => ∃ k : Nat, ∃ l' : List It, t = .int .i64 k ∧ k < n ∧ Hid (HeapAt wr p v l' nx ∧ Chg (foot p v) w wr ∧ sinkF l' k = R ∧ l'.length = n)) (fun t _ => n - (intOf t).toNat)
  case atStart => exact ⟨k0, l, rfl, by have := HN.out; have := HK.out; omega, H.out, Chg.refl _ _, HR.out, HN.out.symm⟩
  case round =>
    obtain ⟨k, l', rfl, hkn, hr⟩ := hrel
    obtain ⟨h1, h2, h3⟩ := hr.out.1
    obtain ⟨g, cap, hv, hcap⟩ := h2.form (by have := hr.out.2.2.2; omega)
    rw [hr.out.2.2.2] at hv
    have hb0 : ∀ w2, Below wr.heap.size wr w2 → w2.cell? ⟨p, 0, none⟩ = some (.slice (some ⟨g, 0, none⟩) n cap) := fun w2 hb => by rw [← hv]; exact cell_below (h1 0 _ rfl).1 hb
    have HB0 := Lib.hid hb0
    have hE : ∀ w2, Below wr.heap.size wr w2 → ∀ I f, I < n → f < n → Calls Try.prog 23 #[.pointer (some ⟨p, 0, none⟩), .int .i64 (I : Int), .int .i64 (f : Int)] w2 fun r w' => r = .returned (.bool (ltI (gI l' I) (gI l' f))) ∧ Below wr.heap.size wr w' := fun w2 hb I f h1 h2 =>
      (earlier_any w2 p v l' nx I f (hr.out.1.below hb) (by have := hr.out.2.2.2; omega) (by have := hr.out.2.2.2; omega) (by have := hr.out.2.2.2; omega)).mono fun r w' ⟨e1, e2⟩ => ⟨e1, below_on hb e2⟩
    have hstop : ∀ w2, Below wr.heap.size wr w2 → firstF l' k 4 = k → HeapAt w2 p v R nx ∧ Chg (foot p v) w w2 := fun w2 hb hf => by
      have := hr.out.2.2.1
      rw [← this, sinkF_stop hf]; exact ⟨hr.out.1.below hb, hr.out.2.1.trans0 (Chg.of_below hb)⟩
    have hgo : ∀ w2 f, Below wr.heap.size wr w2 → f = firstF l' k 4 → f ≠ k → f < n → k < f ∧ Calls Try.prog 24 #[.pointer (some ⟨p, 0, none⟩), .int .i64 (k : Int), .int .i64 (f : Int)] w2 fun r w' => r = .returned (.tuple #[]) ∧ (HeapAt w' p v (swI l' k f) nx ∧ Chg (foot p v) w w' ∧ sinkF (swI l' k f) f = R ∧ (swI l' k f).length = n) := fun w2 f hb hf hne hfn => by
      have hkl := hr.out.2.2.2
      refine ⟨by have := firstF_in l' k 4; omega, (swap_any w2 p v l' nx k f (hr.out.1.below hb) (by omega) (by omega) (by omega)).mono fun r w' ⟨e, h1, h2⟩ =>
        ⟨e, h1, (hr.out.2.1.trans0 (Chg.of_below hb)).trans0 h2, ?_, by rw [swI_len]; exact hkl⟩⟩
      have := sinkF_go (l := l') (k := k) (by rw [← hf]; exact hne)
      rw [← hf] at this
      rw [← this]; exact hr.out.2.2.1
    have HE := Lib.hid hE
    have HSTOP := Lib.hid hstop
    have HGO := Lib.hid hgo
    have HLEN := Lib.hid hr.out.2.2.2
    clear h1 h2 h3 hb0 hv hcap hE hstop hgo hr
    go_wp2_with fail
    go_loopw [4, 5] (fun tf ti w2 => ∃ j f : Nat, j ≤ 4 ∧ f < n ∧ tf = .int .i64 f ∧ ti = .int .i64 (((k * 4 + 1 + j : Nat)) : Int) ∧ Hid (f = firstF l' k j ∧ Below wr.heap.size wr w2)) (fun _ ti _ => k * 4 + 5 - (intOf ti).toNat)
    case atStart => exact ⟨0, k, by omega, hkn, rfl, by first | rfl | (congr 1; omega), rfl, Below.refl _ _⟩
    case round =>
      obtain ⟨j, f, hj, hfn, rfl, rfl, hi⟩ := hrel
      have hcell := HB0.out _ hi.out.2
      obtain ⟨I, hI⟩ : ∃ I, I = k * 4 + 1 + j := ⟨_, rfl⟩
      rw [← hI]
      have HI := Lib.hid hI
      by_cases hgo : j < 4 ∧ I < n
      · obtain ⟨z1, z2⟩ := hgo
        have hle : (I : Int) ≤ (k : Int) * 4 + 4 := by omega
        have hlt : (I : Int) < (n : Int) := by omega
        have hc := HE.out _ hi.out.2 I f z2 hfn
        have hst : ∀ b, ltI (gI l' I) (gI l' f) = b → (if b then I else f) = firstF l' k (j + 1) := fun b hb => by
          rw [firstF, ← hi.out.1, ← hI]
          cases b with
          | true => rw [if_pos rfl, if_pos ⟨by have := HLEN.out; omega, hb⟩]
          | false => rw [if_neg (by simp), if_neg (fun h => by rw [hb] at h; exact absurd h.2 (by simp))]
        have HST := Lib.hid hst
        clear hst
        cases hlt2 : ltI (gI l' I) (gI l' f) with
        | true =>
          rw [hlt2] at hc
          have hs := HST.out _ hlt2
          have HC := Lib.hid hc
          have HS := Lib.hid hs
          clear hc hlt2 hs hI
          go_wp2_with fail
          refine HC.out.mono ?_
          rintro r w2 ⟨rfl, hb⟩
          have hx : Hid (I = firstF l' k (j + 1) ∧ Below _ _ w2) := ⟨by simpa using HS.out, hb⟩
          clear hb
          go_wp2
          exact ⟨⟨j + 1, I, by omega, z2, rfl, by congr 1; have := HI.out; omega, hx⟩, by have := HI.out; simp [intOf]; omega⟩
        | false =>
          rw [hlt2] at hc
          have hs := HST.out _ hlt2
          have HC := Lib.hid hc
          have HS := Lib.hid hs
          clear hc hlt2 hs hI
          go_wp2_with fail
          refine HC.out.mono ?_
          rintro r w2 ⟨rfl, hb⟩
          have hx : Hid (f = firstF l' k (j + 1) ∧ Below _ _ w2) := ⟨by simpa using HS.out, hb⟩
          clear hb
          go_wp2
          exact ⟨⟨j + 1, f, by omega, hfn, rfl, by congr 1; have := HI.out; omega, hx⟩, by have := HI.out; simp [intOf]; omega⟩
      · have hf4 : f = firstF l' k 4 := by
          rw [hi.out.1]
          by_cases e : j = 4
          · rw [e]
          · have := firstF_stable l' k j (4 - j) (by have := HLEN.out; omega)
            rw [show j + (4 - j) = 4 by omega] at this; exact this.symm
        have HF4 := Lib.hid hf4
        have hb := hi.out.2
        have HB := Lib.hid hb
        have hcase : (¬ (I : Int) ≤ (k : Int) * 4 + 4) ∨ ((I : Int) ≤ (k : Int) * 4 + 4 ∧ ¬ (I : Int) < (n : Int)) := by omega
        clear hgo hI hf4 hb
        by_cases hfk : f = k
        · subst hfk
          have HEND := Lib.hid (HSTOP.out _ HB.out HF4.out.symm)
          rcases hcase with z1 | ⟨z1, z2⟩
          all_goals
            go_wp2
            refine bodyPost_ret (results_none rfl _ _ _) rfl ?_
            exact ⟨rfl, HEND.out⟩
        · have hne : ((f : Int) == (k : Int)) = false := by rw [beq_eq_false_iff_ne]; omega
          obtain ⟨hkf, hsw⟩ := HGO.out _ f HB.out HF4.out hfk hfn
          have HSW := Lib.hid hsw
          clear hsw
          rcases hcase with z1 | ⟨z1, z2⟩
          all_goals
            go_wp2_with fail
            refine HSW.out.mono ?_
            rintro r w3 ⟨rfl, h3⟩
            have H3 := Lib.hid h3; clear h3
            go_wp2
            exact ⟨⟨f, swI l' k f, rfl, hfn, H3⟩, by simp [intOf]; omega⟩
end Go.Proofs.Ytljdckipnbdknaa
