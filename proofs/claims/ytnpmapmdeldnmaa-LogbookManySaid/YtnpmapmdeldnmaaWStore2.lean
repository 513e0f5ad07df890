/-
  The walks of a store's calls that change it.
-/
import Derived.Test.YtnpmapmdeldnmaaWStore1
open Go Go.RowKit
set_option linter.unusedVariables false
namespace Go.Proofs.Ytnpmapmdeldnmaa
theorem SSt.call_bs (s : SSt) : s.call.bs = s.bs ∧ s.call.safe = s.safe ∧ s.call.room = s.room := by unfold SSt.call; split <;> (try split) <;> exact ⟨rfl, rfl, rfl⟩
set_option maxRecDepth 100000 in
set_option maxHeartbeats 1000000 in
theorem sync_any (p : Nat) (s : SSt) (F : List Nat) (w : World) (h : StoreAt w p s F) :
    Calls Try.prog 22 #[.pointer (some ⟨p, 0, none⟩)] w fun e w' => e = .returned (.int .i64 s.syncE) ∧ StoreAt w' p s.sync F ∧ Chg F w w' := by
  have hlet := let_any p s F w h
  cases hm : s.may
  · have e1 : s.syncE = 8 := by simp [SSt.syncE, hm]
    have e2 : s.sync = s.call := by simp [SSt.sync, hm]
    rw [hm] at hlet
    have E1 := Lib.hid e1; clear e1
    have E2 := Lib.hid e2; clear e2 hm
    have HL := Lib.hid hlet; clear hlet h
    go_enter Try.func22, Try.ntmps22
    go_wp2_with fail
    refine HL.out.mono ?_
    rintro e w1 ⟨rfl, h1, c1⟩
    have H1 := Lib.hid h1; clear h1
    have C1 := Lib.hid c1; clear c1
    go_wp2
    go_ret
    exact ⟨ret_int E1.out.symm, by rw [E2.out]; exact H1.out, C1.out⟩
  · have e1 : s.syncE = 0 := by simp [SSt.syncE, hm]
    have e2 : s.sync = { s.call with safe := s.bs.length } := by simp [SSt.sync, hm]
    rw [hm] at hlet
    have E1 := Lib.hid e1; clear e1
    have E2 := Lib.hid e2; clear e2 hm
    have HL := Lib.hid hlet; clear hlet h
    go_enter Try.func22, Try.ntmps22
    go_wp2_with fail
    refine HL.out.mono ?_
    rintro e w1 ⟨rfl, h1, c1⟩
    obtain ⟨h0, v, rfl, h2, h3, h4⟩ := h1
    obtain ⟨⟨g0, g1, g2, g3, g4, g5⟩, f0, f1, f3, f4, f5⟩ := s.call.at h3
    obtain ⟨a, cap, rfl⟩ : ∃ a cap, v = .slice a s.call.bs.length cap := by
      rcases h4.2 with ⟨rfl, hn⟩ | ⟨g, cap, cur, rfl, _⟩
      · exact ⟨none, 0, by rw [hn]⟩
      · exact ⟨_, _, rfl⟩
    have C1 := Lib.hid c1; clear c1
    have H0 := Lib.hid h0; clear h0
    have H2 := Lib.hid h2; clear h2
    have H3 := Lib.hid h3; clear h3
    have H4 := Lib.hid h4; clear h4
    go_wp2
    go_ret
    refine ⟨ret_int E1.out.symm, ?_, C1.out.setCell _ (.inl (by simp))⟩
    rw [E2.out]
    refine ⟨⟨by rw [← (s.call_bs).1]; exact Nat.le_refl _, H0.out.2⟩, .slice a s.call.bs.length cap, rfl, H2.out, ?_, owns_chg H4.out ((Chg.refl [p] _).setCell _ (.inl (by simp))) (fun g hg => by simp; intro e; subst e; exact H2.out hg)⟩
    have := H3.out.set 1 (.int .i64 (s.call.bs.length : Int))
    rw [(s.call_bs).1] at this ⊢
    exact this

theorem info_u8 : (Try.prog.info? 5).map (fun i => (i.zero, i.size, i.bytes)) = some (some (.int .u8 0), 1, 1) := by kernel_rfl
set_option maxRecDepth 100000 in
set_option maxHeartbeats 2000000 in
theorem sapp_any (p : Nat) (s : SSt) (F : List Nat) (t : ByteArray) (w : World) (h : StoreAt w p s F) (ht : s.bs.length + t.size ≤ 140737488355328) :
    Calls Try.prog 13 #[.pointer (some ⟨p, 0, none⟩), .string t] w fun e w' => e = .returned (.int .i64 (s.appendE t.data.toList)) ∧ Chg F w w' ∧
      ∃ F', StoreAt w' p (s.append t.data.toList) F' ∧ ∀ x ∈ F', x ∈ F ∨ w.heap.size ≤ x := by
  have hlet := let_any p s F w h
  have hlt : t.data.toList.length = t.size := by simp
  have Hlt := Lib.hid hlt
  cases hm : s.may
  · have e1 : s.appendE t.data.toList = 8 := by simp [SSt.appendE, hm]
    have e2 : s.append t.data.toList = s.call := by simp [SSt.append, hm]
    rw [hm] at hlet
    have E1 := Lib.hid e1; clear e1
    have E2 := Lib.hid e2; clear e2 hm hlt
    have HL := Lib.hid hlet; clear hlet h
    go_enter Try.func13, Try.ntmps13
    go_wp2_with fail
    refine HL.out.mono ?_
    rintro e w1 ⟨rfl, h1, c1⟩
    have H1 := Lib.hid h1; clear h1
    have C1 := Lib.hid c1; clear c1
    go_wp2
    go_ret
    exact ⟨ret_int E1.out.symm, C1.out, F, by rw [E2.out]; exact H1.out, fun x hx => .inl hx⟩
  · rw [hm] at hlet
    have HL := Lib.hid hlet; clear hlet h
    have hcase : (s.bs.length + t.size ≤ s.room ∧ s.appendE t.data.toList = 0 ∧ s.append t.data.toList = { s.call with bs := s.bs ++ t.data.toList }) ∨ (¬ s.bs.length + t.size ≤ s.room ∧ s.appendE t.data.toList = 6 ∧ s.append t.data.toList = s.call) := by
      by_cases hr : s.bs.length + t.size ≤ s.room
      · exact .inl ⟨hr, by simp [SSt.appendE, hm, hr], by simp [SSt.append, hm, hr]⟩
      · exact .inr ⟨hr, by simp [SSt.appendE, hm, hr], by simp [SSt.append, hm, hr]⟩
    have HC := Lib.hid hcase; clear hcase hm hlt
    go_enter Try.func13, Try.ntmps13
    go_wp2_with fail
    refine HL.out.mono ?_
    rintro e w1 ⟨rfl, h1, c1⟩
    have hs0 := Lib.hid h1
    obtain ⟨h0, v, hF, h2, h3, h4⟩ := h1
    obtain ⟨⟨g0, g1, g2, g3, g4, g5⟩, f0, f1, f3, f4, f5⟩ := s.call.at h3
    obtain ⟨a, cap, rfl⟩ : ∃ a cap, v = .slice a s.call.bs.length cap := by
      rcases h4.2 with ⟨rfl, hn⟩ | ⟨g, cap, cur, rfl, _⟩
      · exact ⟨none, 0, by rw [hn]⟩
      · exact ⟨_, _, rfl⟩
    obtain ⟨d1, d2, d3⟩ := s.call_bs
    rw [d1] at g0 h4
    rw [d3] at g2
    have hroom := h0.2.2.1
    have hle := h0.2.1
    rw [d3] at hroom
    rw [d1, d3] at hle
    have D := Lib.hid (And.intro d1 (And.intro d2 d3)); clear d1 d2 d3
    have C1 := Lib.hid c1; clear c1
    have H0 := Lib.hid h0; clear h0
    have H2 := Lib.hid h2; clear h2
    have H3 := Lib.hid h3; clear h3
    have H4 := Lib.hid h4; clear h4
    have HF := Lib.hid hF; clear hF
    obtain ⟨n, hn⟩ : ∃ n, n = s.bs.length := ⟨_, rfl⟩
    obtain ⟨r, hr⟩ : ∃ r, r = s.room := ⟨_, rfl⟩
    rw [← hn] at g0 hle ht
    rw [← hr] at g2 hroom hle
    have HN := Lib.hid hn; clear hn
    have HR := Lib.hid hr; clear hr
    rcases HC.out with ⟨hr, e1, e2⟩ | ⟨hr, e1, e2⟩
    · rw [← HN.out, ← HR.out] at hr
      have E1 := Lib.hid e1; clear e1
      have E2 := Lib.hid e2; clear e2 HC
      have hb : decide ((t.size : Int) > (r : Int) - (n : Int)) = false := by rw [decide_eq_false_iff_not]; omega
      go_wp2_with fail
      go_quiet (fail)
      obtain ⟨i0, hi, hz0, hz1, hz2⟩ := info_parts info_u8
      have hown : (w1.drewN nq).ownsRow 0 5 1 (.slice a n cap) n (u8c s.bs) := by
        have := owns_chg H4.out ((Chg.refl [] w1).drewN nq) (fun g _ => by simp)
        rw [← HN.out] at this; exact this
      have Hown := Lib.hid hown; clear hown
      have Hi := Lib.hid hi; clear hi
      have Hz0 := Lib.hid hz0; clear hz0
      have Hz1 := Lib.hid hz1; clear hz1
      have Hz2 := Lib.hid hz2; clear hz2
      go_wp2_with (at_builtin; refine wpList_append_str rfl _ _ 48 9 rfl 5 i0 Try.underlying48 Try.underlying9 Hi.out Hz0.out Hz1.out Hz2.out _ n s.bs rfl Hown.out t rfl ht ?_)
      intro v' w2 hown' hgrow hwh
      obtain ⟨a', cap', hv'⟩ := owns_slice hown'
      subst hv'
      have hob : Value.ownBlock (.slice a n cap) = Value.ownBlock (.slice a s.call.bs.length cap) := by cases a <;> rfl
      rw [hob] at hgrow hwh
      have hc2 : Chg (Value.ownBlock (.slice a s.call.bs.length cap)).toList w1 w2 := ((Chg.refl _ w1).drewN nq).trans (grownBy_chg hgrow) (fun x hx => .inl hx)
      have hk := H3.out.chg hc2 (fun hx => H2.out (by simpa using hx))
      obtain ⟨k0, kf⟩ := hk 0 _ rfl
      have HK := Lib.hid hk; clear hk
      have HC2 := Lib.hid hc2; clear hc2 hgrow
      have HO := Lib.hid hown'; clear hown'
      have HW := Lib.hid hwh; clear hwh hob
      have hsz := HC2.out.size
      go_wp2
      go_ret
      generalize hv' : Value.slice a' (n + t.size) cap' = v' at *
      clear hv'
      have hpF : p ∈ F := by rw [HF.out]; simp
      have hvF : ∀ x, Value.ownBlock (.slice a s.call.bs.length cap) = some x → x ∈ F := fun x hx => by rw [HF.out]; simp [hx]
      have hv' : ∀ x, v'.ownBlock = some x → x ∈ F ∨ w1.heap.size ≤ x := fun x hx => by
        rcases HW.out with h1 | h1
        · rw [h1] at hx; exact .inl (hvF x hx)
        · rw [h1] at hx; simp at hx; exact .inr (by omega)
      have hpl : p < w1.heap.size := hs0.out.lt p hpF
      have hvp : v'.ownBlock ≠ some p := fun hx => by
        rcases HW.out with h1 | h1
        · rw [h1] at hx; exact H2.out hx
        · rw [h1] at hx; simp at hx; omega
      refine ⟨ret_int E1.out.symm, ((C1.out.trans HC2.out (fun x hx => .inl (hvF x (by simpa using hx)))).setCell _ (.inl hpF)), p :: v'.ownBlock.toList, ?_, ?_⟩
      · rw [E2.out]
        obtain ⟨d1, d2, d3⟩ := D.out
        have hsafe := H0.out.1
        have hll := H0.out.2.2.2.1
        have hn := HN.out
        have hrr := HR.out
        refine ⟨⟨?_, ?_, ?_, hll, ?_⟩, v', rfl, hvp, HK.out.set 0 v', ?_⟩
        · show s.call.safe ≤ (s.bs ++ t.data.toList).length
          rw [d1] at hsafe; rw [List.length_append]; omega
        · show (s.bs ++ t.data.toList).length ≤ s.call.room
          rw [List.length_append, Hlt.out, d3]; omega
        · show s.call.room ≤ _
          rw [d3]; omega
        · show (s.bs ++ t.data.toList).length ≤ _
          rw [List.length_append, Hlt.out]; omega
        · show World.ownsRow _ 0 _ 1 v' (s.bs ++ t.data.toList).length (u8c (s.bs ++ t.data.toList))
          have := owns_chg HO.out ((Chg.refl [p] w2).setCell (b := p) (k := 0) v' (.inl (by simp))) (fun g hg => by simp; intro e; subst e; exact hvp hg)
          rw [List.length_append, Hlt.out, ← hn]; exact this
      · intro x hx
        simp at hx
        rcases hx with rfl | hx
        · exact .inl hpF
        · rcases hv' x hx with h1 | h1
          · exact .inl h1
          · exact .inr (Nat.le_trans C1.out.size h1)
    · have E1 := Lib.hid e1; clear e1
      have E2 := Lib.hid e2; clear e2 HC
      rw [← HN.out, ← HR.out] at hr
      have hb : decide ((t.size : Int) > (r : Int) - (n : Int)) = true := by rw [decide_eq_true_eq]; omega
      go_wp2_with fail
      go_quiet (fail)
      go_wp2
      go_ret
      refine ⟨ret_int E1.out.symm, C1.out.drewN _, F, ?_, fun x hx => .inl hx⟩
      rw [E2.out]
      exact hs0.out.chg ((Chg.refl [] _).drewN _) (fun x _ => by simp)
end Go.Proofs.Ytnpmapmdeldnmaa
