/-
  The walk of the law SourceBelow.
-/
import Derived.Test.YtnmkkeifdfhpfaaWSrcAw
import Derived.Test.YtnmkkeifdfhpfaaActsIn
import Derived.LoopTactic
open Go Go.RowKit
set_option linter.unusedVariables false
namespace Go.Proofs.Ytnmkkeifdfhpfaa
/-- Numbers that came in. -/
theorem nums_of {w : World} {a : Option Addr} {len cap : Nat} {zs : List Int} (h : IsRow .u64 w a len cap zs) :
    ∃ l : List Nat, l.length = len ∧ len ≤ cap ∧ CellsAt w a (numc l) ∧ (∀ n ∈ l, n < 18446744073709551616) ∧ (a = none → len = 0 ∧ cap = 0) := by
  have h0 : a = none → len = 0 ∧ cap = 0 := by
    intro ha
    rcases h with ⟨_, h1, h2, _⟩ | ⟨x, h1, _⟩
    · exact ⟨h1, h2⟩
    · rw [ha] at h1; cases h1
  obtain ⟨h1, h2, h3, h4⟩ := h.cells
  refine ⟨(zs.take len).map Int.toNat, by rw [List.length_map]; exact h3, h1, fun j v hj => ?_, fun n hn => ?_, h0⟩
  · have hl : j < (zs.take len).length := by have := (List.getElem?_eq_some_iff.1 hj).1; simpa [numc] using this
    obtain ⟨b, off, h5, h6, h7⟩ := h4 j hl
    have b1 := bounds_u64 h7
    have e : (numc ((zs.take len).map Int.toNat))[j]? = some (.int .u64 (((zs.take len)[j].toNat : Nat) : Int)) := by
      unfold numc; rw [List.map_map, List.getElem?_map, List.getElem?_eq_getElem hl]; rfl
    rw [e] at hj
    cases hj
    exact ⟨b, off, h5, by rw [h6, Int.toNat_of_nonneg b1.1]⟩
  · obtain ⟨z, hz, rfl⟩ := List.mem_map.1 hn
    obtain ⟨i, hi, rfl⟩ := List.mem_iff_getElem.1 hz
    obtain ⟨_, _, _, _, h7⟩ := h4 i hi
    have b1 := bounds_u64 h7
    omega
end Go.Proofs.Ytnmkkeifdfhpfaa
namespace Go.Proofs.Ytnmkkeifdfhpfaa.sourceBelow
set_option maxRecDepth 100000 in
set_option maxHeartbeats 4000000 in
theorem walk (a0 : Option Addr) (len0 cap0 : Nat) (z0 : List Int) (a1 : Option Addr) (len1 cap1 : Nat) (l1 : List Ac2) (w : World) (w0 : IsRow .u64 w a0 len0 cap0 z0) (s0 : cap0 * 8 ≤ 140737488351232) (w1 : IsActs2 w a1 len1 cap1 l1) :
    Calls Try.prog 7 #[.slice a0 len0 cap0, .slice a1 len1 cap1] w fun e w' => e = .returned (.bool true) ∧ Below w.heap.size w w' := by
  obtain ⟨l, rfl, hlc, hcl, hlu, hn0⟩ := nums_of w0
  obtain ⟨rfl, hc1, hm1, hat, hok⟩ := w1
  clear w0
  have hnew := fun w' (hb : Below w.heap.size w w') => onew_any (Own.nil (w := w') hb) a0 cap0 l (hcl.below hb) hn0 (by omega)
  have HNEW := Lib.hid hnew
  have HCL := Lib.hid hcl
  have HLU := Lib.hid hlu
  have HAT := Lib.hid hat
  have HOK := Lib.hid hok
  have hm : l.length ≤ 17592186043904 := by omega
  have HM := Lib.hid hm
  have hfine : ∀ t : List Rec, t.length ≤ l.length → t.length ≤ 1000 → Src.fine ⟨[], l, t⟩ 0 := fun t h1 h2 => ⟨⟨by simp, hlu⟩, ⟨by simp, by simp⟩, by simp [Src.many]; omega, by simpa [Src.many] using h1, h2⟩
  have HFN := Lib.hid hfine
  unfold maxLen at hm1
  obtain ⟨n0, hn0'⟩ : ∃ n0, n0 = l.length := ⟨_, rfl⟩
  obtain ⟨n1, hn1'⟩ : ∃ n1, n1 = l1.length := ⟨_, rfl⟩
  rw [← hn0'] at HNEW hm hlc ⊢
  rw [← hn1'] at hc1 ⊢
  have HN0 := Lib.hid hn0'
  have HN1 := Lib.hid hn1'
  clear hnew hcl hlu hat hok hfine hn0' hn1' hn0 s0
  go_enter Try.func7, Try.ntmps7
  go_wp2_with fail
  refine (awake17_any _).mono ?_
  rintro e w2 ⟨rfl, hb⟩
  have HB := Lib.hid hb
  clear hb
  go_wp2_with fail
  refine (HNEW.out _ HB.out).mono ?_
  rintro e w3 ⟨p, rfl, o3, -⟩
  have HO := Lib.hid o3
  clear o3 HNEW HB
  go_wp2_with fail
  go_loopw [6] (fun c wr => ∃ k : Nat, k ≤ n0 ∧ k ≤ 40 ∧ c = .int .i64 k ∧ Hid (∃ t : List Rec, t.length = k ∧ Own w wr [SrcA p 0 ⟨[], l, t⟩ .nilFunc])) (fun c _ => 40 - (intOf c).toNat)
  case atStart => exact ⟨0, by omega, by omega, rfl, [], rfl, HO.out⟩
  case round =>
    obtain ⟨k, hk, hk40, rfl, hr⟩ := hrel
    by_cases hlt : k < n1 ∧ k < 40 ∧ k < n0
    · obtain ⟨h1, h2, h3⟩ := hlt
      obtain ⟨t, ht, ho⟩ := hr.out
      obtain ⟨nb, no, rfl, gn⟩ := num_at HCL.out k (by have := HN0.out; omega)
      obtain ⟨ab, ao, rfl, ga, gb⟩ := HAT.out k (by have := HN1.out; omega)
      have hkok := HOK.out _ (List.getElem_mem (by have := HN1.out; omega : k < l1.length))
      generalize l1[k]'(by have := HN1.out; omega) = q at ga gb hkok
      obtain ⟨qk, qn⟩ := q
      simp only at ga gb hkok
      obtain ⟨-, -, hq3⟩ := hkok
      have hlk := HLU.out _ (List.getElem_mem (by have := HN0.out; omega : k < l.length))
      have hget : l.getD k 0 = l[k]'(by have := HN0.out; omega) := by rw [List.getD_eq_getElem?_getD, List.getElem?_eq_getElem (by have := HN0.out; omega)]; rfl
      rw [← hget] at gn hlk
      have hfit := fun w' => fit_any w' qk qn (by omega)
      have HFIT := Lib.hid hfit
      have HGA := Lib.hid (And.intro gn (And.intro ga gb))
      have hbw := ho.bel
      have ga' := cell_below ga hbw
      have gb' := cell_below gb hbw
      have HR := Lib.hid (And.intro ht ho)
      clear hfit ga gb gn hget hq3 hr hbw
      clear ho ht
      go_wp2_with fail
      refine (HFIT.out _).mono ?_
      rintro r w4 ⟨rfl, hb4⟩
      generalize hfn : fitN qn = fn
      have hfl : fn ≤ 1099511627776 := by rw [← hfn]; exact fitN_le qn
      generalize fitK qk = fk at *
      have hd := ldraw_any (HR.out.2.step hb4) (HFN.out t (by rw [HR.out.1, ← HN0.out]; omega) (by rw [HR.out.1]; omega)) fk fn (by omega)
      have HD := Lib.hid hd
      have HB4 := Lib.hid hb4
      have HFNN := Lib.hid hfn
      clear hd hb4 hfn HFIT ga' gb'
      go_wp2_with fail
      refine HD.out.mono ?_
      rintro r w5 ⟨S', v, e, u, hl, rfl, o5⟩
      obtain ⟨rfl, rfl, rfl, rfl⟩ := hl.oracle (by rw [HR.out.1, ← HN0.out]; omega)
      rw [HR.out.1] at o5 ⊢
      clear HD hl
      generalize l.getD k 0 = y at *
      have hcp := cnt_pos fn
      have hcl := cnt_lt fn (by omega)
      have hcm := cnt_eq fn
      generalize cnt fn = c at *
      have hx : y % c < c := Nat.mod_lt _ (by omega)
      have hmv : (if fn < 1 then (1 : Int) else fn) = (c : Int) := by rw [← hcm]; omega
      have htm : (y : Int).tmod (c : Int) = ((y % c : Nat) : Int) := by rw [Int.tmod_eq_emod_of_nonneg (by omega)]; simp
      have hw1 : IntKind.u64.wrap (c : Int) = (c : Int) := by rw [IntKind.wrap_u64]; omega
      have hw2 : IntKind.u64.wrap ((y % c : Nat) : Int) = ((y % c : Nat) : Int) := by rw [IntKind.wrap_u64]; omega
      have HTM := Lib.hid (And.intro htm (And.intro hw1 hw2))
      generalize hxx : y % c = x at *
      have o6 := o5.step (below_alloc1 w5 (.cells uz.toArray 44))
      have hL := sleft_any o6 (by simp [Src.many]; have := HM.out; omega) (by simp [Src.many]; have := HN0.out; have := HR.out.1; omega)
      have e1 : ((Src.many ⟨[], l, t ++ [(fk, x)]⟩ - (Src.taken ⟨[], l, t ++ [(fk, x)]⟩).length : Nat) : Int) = (n0 : Int) - (k : Int) - 1 := by
        simp only [Src.many, List.length_nil, List.length_append, List.length_cons]
        have := HN0.out; have := HR.out.1; omega
      rw [e1] at hL
      have HL := Lib.hid hL
      have HO6 := Lib.hid o6
      have hg := HGA.out.1
      have hg5 := cell_below hg o6.bel
      have hnx : ¬ ((c : Int) ≤ (x : Int)) := by omega
      have hnx' : decide (c ≤ x) = false := by simp; omega
      have hx0 : decide ((x : Int) < 0) = false := by simp
      have hem : (y : Int) % (c : Int) = (x : Int) := by rw [← hxx]; simp
      have hws : IntKind.i64.wrap ((n0 : Int) - (k : Int)) = (n0 : Int) - (k : Int) := by rw [IntKind.wrap_i64]; omega
      have hws2 : IntKind.i64.wrap ((n0 : Int) - (k : Int) - 1) = (n0 : Int) - (k : Int) - 1 := by rw [IntKind.wrap_i64]; omega
      clear hL o6 o5 e1 hcm hxx htm hg
      unfold uz at HO6 HL hg5 ⊢
      go_wp2_with fail
      refine HL.out.mono ?_
      rintro r w6 ⟨rfl, m, rfl⟩
      have HREL : Hid (∃ t : List Rec, t.length = k + 1 ∧ Own w (World.drewN (w5.alloc (.cells #[.int .i64 0, .int .i64 0, .int .i64 0, .int .i64 0, .int .u64 0] 44)) m) [SrcA p 0 ⟨[], l, t⟩ .nilFunc]) :=
        Lib.hid ⟨t ++ [(fk, x)], by rw [List.length_append, HR.out.1]; rfl, HO6.out.step (below_drewN (Below.refl _ _) m)⟩
      clear HL HO6 hg5 HR
      go_wp2
      exact ⟨⟨k + 1, by omega, by omega, by go_num, HREL⟩, by simp [intOf]; omega⟩
    · obtain ⟨t, ht, ho⟩ := hr.out
      have HBE := Lib.hid ho.bel
      clear hr ho ht
      have hcase : (¬ k < n1) ∨ (k < n1 ∧ ¬ k < 40) ∨ (k < n1 ∧ k < 40 ∧ ¬ k < n0) := by omega
      clear hlt
      rcases hcase with z1 | ⟨z1, z2⟩ | ⟨z1, z2, z3⟩
      all_goals
        go_wp2
        go_ret
        exact ⟨rfl, HBE.out⟩
end Go.Proofs.Ytnmkkeifdfhpfaa.sourceBelow
