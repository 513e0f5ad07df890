/-
  The walk of the law SegmentScans, given what it hands to Scan.
-/
import Derived.Test.YtklpnkfhcaepiaaW5Scans3
open Go Go.RowKit
set_option linter.unusedVariables false
namespace Go.Proofs.Ytklpnkfhcaepiaa.segmentScans
attribute [local go_sem ↓] Go.wp_at_zero Go.wp_at_succ
theorem two_new (w2 : World) : Two w2 ((((w2.alloc (.cells #[] 9)).alloc (.cells #[.slice (some ⟨w2.heap.size, 0, none⟩) 0 0] 38)).alloc (.cells #[.int .i64 0] 3)).alloc (.cells #[.slice (some ⟨w2.heap.size + 1 + 1, 0, none⟩) 1 1] 41)) (w2.heap.size + 1) (w2.heap.size + 1 + 1 + 1) [] [0] := by
  refine ⟨_, _, ((Blk.mk _ [_] _ _ (by simp)).alloc _).alloc _, Blk.mk _ [_] _ _ (by simp), ?_, ?_, by omega, by simp [Value.ownBlock], by simp [Value.ownBlock]; omega, by simp [Value.ownBlock], by simp [Value.ownBlock], ?_, by omega, by omega, ?_⟩
  · exact (((World.ownsRow_made w2 #[] 0 (Nat.le_refl _) (by decide) rfl).alloc _).alloc _).alloc _
  · refine World.ownsRow.alloc ⟨by simp [i64c], .inr ⟨w2.heap.size + 1 + 1, 1, #[.int .i64 0], rfl, by omega, ?_, by decide, by decide, rfl, ?_⟩⟩ _
    · have := heap_alloc_new ((w2.alloc (.cells #[] 9)).alloc (.cells #[.slice (some ⟨w2.heap.size, 0, none⟩) 0 0] 38)) (.cells #[.int .i64 0] 3)
      simpa using this
    · simp [i64c]
  · intro g hg; simp [Value.ownBlock] at hg ⊢; omega
  · exact (((below_alloc1 _ _).alloc (by simp) _).alloc (by simp; omega) _).alloc (by simp; omega) _
set_option maxRecDepth 100000 in
set_option maxHeartbeats 2000000 in
theorem walk_of (hsee : SeeAny) (a0 : Int) (aa : Option Addr) (len0 cap0 : Nat) (l0 : List ByteArray) (a2 : Int) (a3 : ByteArray) (a4 : Int) (w : World) (v0 : (Lit.int .u64 a0).wf = true) (v1 : IsStrs w aa len0 cap0 l0) (v2 : (Lit.int .i64 a2).wf = true) (v3 : a3.size ≤ maxLen) (v4 : (Lit.int .i64 a4).wf = true) :
    Calls Try.prog 6 #[.int .u64 a0, .slice aa len0 cap0, .int .i64 a2, .string a3, .int .i64 a4] w fun e w' => e = .returned (.bool true) ∧ Below w.heap.size w w' := by
  obtain ⟨rfl, hlc, hcm, hat, hss⟩ := v1
  obtain ⟨l0', u0⟩ := bounds_u64 v0
  obtain ⟨q, rfl⟩ := Int.eq_ofNat_of_zero_le l0'
  clear v0 l0'
  obtain ⟨l2, u2⟩ := bounds_i64 v2
  obtain ⟨l4, u4⟩ := bounds_i64 v4
  clear v2 v4
  have HS := Lib.hid hsee; clear hsee
  have hq : q < 18446744073709551616 := by omega
  have hlm : l0.length ≤ maxLen := Nat.le_trans hlc hcm
  unfold maxLen at hlm
  have Hat := Lib.hid hat; clear hat hlc hcm
  have Hss := Lib.hid hss; clear hss
  have H3 := Lib.hid v3; clear v3
  obtain ⟨m, hm⟩ : ∃ m, m = l0.length := ⟨_, rfl⟩
  rw [← hm] at hlm ⊢
  have Hm := Lib.hid hm; clear hm
  go_enter Try.func6, Try.ntmps6
  go_wp2_with fail
  refine (awake5_any _).mono ?_
  rintro e w1 ⟨rfl, hb1⟩
  obtain ⟨W0, hW0⟩ : ∃ W0, W0 = w.alloc (.cells #[.int .i64 a4] 3) := ⟨_, rfl⟩
  have hs0 : w.heap.size < W0.heap.size := by rw [hW0]; simp
  have hb0 : Below w.heap.size w W0 := by rw [hW0]; exact below_alloc1 _ _
  have hc0 : W0.cell? ⟨w.heap.size, 0, none⟩ = some (.int .i64 a4) := by rw [hW0, World.cell?_alloc_at _ _ _ _ rfl]; rfl
  rw [← hW0] at hb1
  have hblk0 : Blk W0 w.heap.size [.int .i64 a4] := by rw [hW0]; exact Blk.mk _ _ _ _ rfl
  have B0 := Lib.hid hb0; clear hb0
  have K0 := Lib.hid (And.intro hc0 hblk0); clear hc0 hblk0 hW0
  have Hat0 := Lib.hid (Hat.out.below B0.out); clear Hat
  have B1 := Lib.hid hb1; clear hb1
  go_wp2_with fail
  go_loopw [11, 12, 13, 14, 15] (fun sv iv _ _ _ wr => ∃ k : Nat, ∃ U : ByteArray, k ≤ 8 ∧ k ≤ m ∧ U.size ≤ 100 * k ∧ iv = .int .i64 k ∧ sv = .string U ∧ Hid (Below W0.heap.size W0 wr)) (fun _ iv _ _ _ _ => 8 - (intOf iv).toNat)
  case atStart => exact ⟨0, ByteArray.mk #[], by omega, by omega, by decide, rfl, rfl, B1.out⟩
  case round =>
    obtain ⟨k, U, hk8, hkm, hU, rfl, rfl, hr⟩ := hrel
    by_cases hlt : k < m ∧ k < 8
    · obtain ⟨hl1, hl2⟩ := hlt
      obtain ⟨b, off, rfl, hcell⟩ := (Hat0.out.below hr.out) k (by have := Hm.out; omega)
      have hxs := Hss.out _ (List.getElem_mem (by have := Hm.out; omega : k < l0.length))
      generalize l0[k]'(by have := Hm.out; omega) = x at hcell hxs
      have hys := cutB_size x 60
      have Hxs := Lib.hid hxs; clear hxs
      obtain ⟨n1, hn1⟩ : ∃ n1 : Nat, n1 = (q + k) % 18446744073709551616 := ⟨_, rfl⟩
      have hn1' : IntKind.u64.wrap ((q : Int) + (k : Int)) = (n1 : Int) := by rw [IntKind.wrap_u64]; omega
      obtain ⟨n2, hn2⟩ : ∃ n2 : Nat, n2 = (n1 + 5) % 18446744073709551616 := ⟨_, rfl⟩
      have hn2' : IntKind.u64.wrap ((n1 : Int) + 5) = (n2 : Int) := by rw [IntKind.wrap_u64]; omega
      have hnb1 : n1 < 18446744073709551616 := by omega
      have hnb2 : n2 < 18446744073709551616 := by omega
      clear hn1 hn2
      by_cases hodd : (k : Int) = a2
      · have hoddb : ((k : Int) == a2) = true := by rw [beq_iff_eq]; exact hodd
        clear hodd
        go_wp2_with fail
        refine (cut_any x 60 _ Hxs.out (by omega)).mono ?_
        rintro e w' ⟨rfl, rfl⟩
        generalize cutB x 60 = y at hys
        go_wp2_with fail
        try rw [hn1']
        try rw [hn2']
        refine (frame_any n2 y _ hnb2 (by omega)).mono ?_
        rintro e w2 ⟨rfl, hb2⟩
        have hfl : (frameL n2 y.data.toList).length ≤ 90 := by rw [frameL_len, ← size_list]; have := putL_len n2; have := putL_len y.size; omega
        have B2 := Lib.hid (below_on hr.out hb2)
        obtain ⟨F, hF⟩ : ∃ F, F = ByteArray.mk (frameL n2 y.data.toList).toArray := ⟨_, rfl⟩
        rw [← hF]
        have hFs : F.size ≤ 90 := by rw [hF, size_list]; exact hfl
        have hUs : (U ++ F).size ≤ 100 * (k + 1) := by rw [ByteArray.size_append]; omega
        clear hF hfl hb2 hcell hn1' hn2'
        go_wp2
        exact ⟨⟨k + 1, U ++ F, by omega, by omega, hUs, by go_num, rfl, B2.out⟩, by simp [intOf]; omega⟩
      · have hoddb : ((k : Int) == a2) = false := by rw [beq_eq_false_iff_ne]; exact hodd
        clear hodd
        go_wp2_with fail
        refine (cut_any x 60 _ Hxs.out (by omega)).mono ?_
        rintro e w' ⟨rfl, rfl⟩
        generalize cutB x 60 = y at hys
        go_wp2_with fail
        try rw [hn1']
        refine (frame_any n1 y _ hnb1 (by omega)).mono ?_
        rintro e w2 ⟨rfl, hb2⟩
        have hfl : (frameL n1 y.data.toList).length ≤ 90 := by rw [frameL_len, ← size_list]; have := putL_len n1; have := putL_len y.size; omega
        have B2 := Lib.hid (below_on hr.out hb2)
        obtain ⟨F, hF⟩ : ∃ F, F = ByteArray.mk (frameL n1 y.data.toList).toArray := ⟨_, rfl⟩
        rw [← hF]
        have hFs : F.size ≤ 90 := by rw [hF, size_list]; exact hfl
        have hUs : (U ++ F).size ≤ 100 * (k + 1) := by rw [ByteArray.size_append]; omega
        clear hF hfl hb2 hcell hn1' hn2'
        go_wp2
        exact ⟨⟨k + 1, U ++ F, by omega, by omega, hUs, by go_num, rfl, B2.out⟩, by simp [intOf]; omega⟩
    · have hU2 : U.size ≤ 800 := by omega
      have hys := cutB_size a3 20
      have hcase : ¬ k < m ∨ (k < m ∧ ¬ k < 8) := by omega
      clear hlt
      rcases hcase with h1 | ⟨h1, h2⟩
      all_goals
        go_wp2_with fail
        refine (cut_any a3 20 _ H3.out (by omega)).mono ?_
        rintro e w' ⟨rfl, rfl⟩
        generalize cutB a3 20 = y at hys
        go_wp2_with fail
        obtain ⟨T, hT⟩ : ∃ T, T = U ++ y := ⟨_, rfl⟩
        rw [← hT]
        have hTs : T.size ≤ 1000 := by rw [hT, ByteArray.size_append]; omega
        clear hT
        refine (rscan_any T q _ (by omega) hq).mono ?_
        rintro e w2 ⟨ad, cap, rfl, hst, hc1, hc2, hb2⟩
        have B2 := Lib.hid (below_on hr.out hb2); clear hb2
        have hadr := hst.lt
        obtain ⟨_, _, hst1, _, _, hst2⟩ := StrsAt.of_own hst (bods_len _).symm
        simp only [Value.slice.injEq] at hst1
        obtain ⟨rfl, _, rfl⟩ := hst1
        have HST := Lib.hid hst2; clear hst hst2
        have HAD := Lib.hid hadr; clear hadr
        go_wp2_with fail
        have hps : w2.cell? ⟨w.heap.size, 0, none⟩ = some (.int .i64 a4) := cell_below K0.out.1 B2.out
        have hbps := K0.out.2.below B2.out
        have hs2 := B2.out.size
        refine (scan_seen HS.out w2 _ _ _ w.heap.size q a4 T hTs hq (two_new w2) hps).mono ?_
        rintro e w5 ⟨pre, post, hpp, rfl, htwo, hdis⟩
        obtain ⟨v, u, z1, z2, z3, z4, z5, z6, z7, z8, z9, z10, z11, z12, z13⟩ := htwo
        rw [bods_len] at z3
        rw [nums_len] at z4
        obtain ⟨ag, cg, rfl, hg1, hg2, hgs⟩ := StrsAt.of_own z3 (bods_len _).symm
        obtain ⟨ae, ce, rfl, he1, he2, hes⟩ := NatsAt.of_own z4 (nums_len _).symm
        rw [bods_len] at z1 z3 hg1
        rw [nums_len] at z2 z4 he1
        have gps := hbps.below z13
        have hst5 := HST.out.below z13
        have hB5 := below_on B2.out z13
        obtain ⟨L, hL⟩ : ∃ L, L = (scanR T q).length := ⟨_, rfl⟩
        obtain ⟨P, hP⟩ : ∃ P, P = pre.length := ⟨_, rfl⟩
        obtain ⟨A, hA⟩ : ∃ A, A = lastEnd pre := ⟨_, rfl⟩
        obtain ⟨en, hen⟩ : ∃ en, en = lastEnd (scanR T q) := ⟨_, rfl⟩
        have hLP : L = P + post.length := by rw [hL, hpp, List.length_append, hP]
        have hAe : P = L → A = en := fun h => by
          have : post = [] := List.length_eq_zero_iff.1 (by omega)
          rw [hA, hen, hpp, this, List.append_nil]
        have hstop : (a4 < 0 ∧ P = L) ∨ (¬ a4 < 0 ∧ (L : Int) < a4 ∧ P = L) ∨ (¬ a4 < 0 ∧ ¬ (L : Int) < a4 ∧ a4 = (P : Int)) := by
          rcases hdis with ⟨d1, d2⟩ | ⟨d1, d2⟩
          · rw [d1] at hLP
            simp only [List.length_nil] at hLP
            by_cases x1 : a4 < 0
            · exact .inl ⟨x1, by omega⟩
            · have := d2 (by omega)
              by_cases x2 : (L : Int) < a4
              · exact .inr (.inl ⟨x1, x2, by omega⟩)
              · exact .inr (.inr ⟨x1, x2, by omega⟩)
          · have : 0 < post.length := List.length_pos_iff.2 d1
            exact .inr (.inr ⟨by omega, by omega, by omega⟩)
        have hAD := HAD.out
        have facts : ∀ w6, Chg [w.heap.size] w5 w6 → (w6.cell? ⟨w2.heap.size + 1, 0, none⟩ = some (.slice ag P cg) ∧ w6.cell? ⟨w2.heap.size + 1 + 1 + 1, 0, none⟩ = some (.slice ae (P + 1) ce)) ∧ (∃ be oe, ae = some ⟨be, oe, none⟩ ∧ w6.cell? ⟨be, oe + P, none⟩ = some (.int .i64 (A : Int))) ∧
            (∀ j, j < P → ∃ b1 o1 b2 o2 x, ag = some ⟨b1, o1, none⟩ ∧ w6.cell? ⟨b1, o1 + j, none⟩ = some (.string x) ∧ ad = some ⟨b2, o2, none⟩ ∧ w6.cell? ⟨b2, o2 + j, none⟩ = some (.string x)) ∧ Below w.heap.size w w6 := fun w6 c => by
          have hw0 := hs0
          have hw1 := hr.out.size
          refine ⟨⟨?_, ?_⟩, ?_, fun j hj => ?_, ?_⟩
          · rw [hP]; exact ((z1.chg c (by simp; omega)).at 0 (by simp)).1
          · rw [hP]; exact ((z2.chg c (by simp; omega)).at 0 (by simp)).1
          · obtain ⟨be, oe, x1, x2⟩ := hes pre.length (by rw [nums_len]; omega)
            rw [nums_last, ← hA] at x2
            have := (z4.lt be (by rw [x1]; rfl)).1
            exact ⟨be, oe, x1, by rw [hP]; exact cell_chg x2 c (by simp; omega)⟩
          · obtain ⟨b1, o1, x1, x2⟩ := hgs j (by rw [bods_len]; omega)
            obtain ⟨b2, o2, y1, y2⟩ := hst5 j (by rw [bods_len]; omega)
            have hxy : (bods (scanR T q))[j]'(by rw [bods_len]; omega) = (bods pre)[j]'(by rw [bods_len]; omega) := by
              have : bods (scanR T q) = bods pre ++ bods post := by rw [hpp]; simp [bods]
              simp only [this]
              rw [List.getElem_append_left]
            rw [hxy] at y2
            have q1 := (z3.lt b1 (by rw [x1]; rfl)).1
            have q2 := (hAD b2 (by rw [y1]; rfl)).1
            exact ⟨b1, o1, b2, o2, _, x1, cell_chg x2 c (by simp; omega), y1, cell_chg y2 c (by simp; omega)⟩
          · exact Chg.below (B0.out.trans (hB5.mono (by omega))) c (fun x hx => by simp at hx; omega)
        obtain ⟨y1, y2⟩ := gps.at 0 (by simp)
        simp only [List.getElem_cons_zero] at y1
        have f6 := facts (w5.setCell ⟨w.heap.size, 0, none⟩ (.int .i64 (L : Int))) ((Chg.refl _ _).setCell _ (.inl (by simp)))
        have f6' := ((gps.set 0 (.int .i64 (L : Int))).at 0 (by simp)).1
        simp only [List.set_cons_zero, List.getElem_cons_zero] at f6'
        have f5 := facts w5 (Chg.refl _ _)
        rw [bods_len, ← hL, ← hA, ← hen]
        have hL1 : L ≤ 2000 := by rw [hL]; have := scanR_len T q; omega
        have hPL1 : P ≤ L := by omega
        have HLPE := Lib.hid hAe; clear hAe hLP
        clear facts hL hP hA hen hdis hpp z1 z2 z3 z4 z5 z6 z7 z8 z9 z10 z11 z12 z13 hgs hes hst5 hB5 hAD gps hbps hps hc1 hg1 he1
        have F6 := Lib.hid (And.intro f6 f6'); clear f6 f6'
        have F5 := Lib.hid f5; clear f5
        rcases hstop with ⟨c1, hPL2⟩ | ⟨c1, c2, hPL2⟩ | ⟨c1, c2, hPa⟩
        · subst hPL2
          have hAen := HLPE.out rfl
          subst hAen
          obtain ⟨FF, f6'⟩ := F6.out
          go_upto_region 21 with fail
          generalize w5.setCell ⟨w.heap.size, 0, none⟩ (.int .i64 (P : Int)) = w6 at *
          obtain ⟨⟨g1, g2⟩, ⟨be, oe, rfl, g3⟩, g4, g5⟩ := FF
          have G4 := Lib.hid g4; clear g4
          have G5 := Lib.hid g5; clear g5
          go_wp2_with fail
          go_loopw [21, 111] (fun _ cv wx => ∃ j : Nat, j ≤ P ∧ cv = .int .i64 j ∧ ∃ n, wx = w6.drewN n) (fun _ cv _ => P - (intOf cv).toNat)
          case atStart => exact ⟨0, by omega, rfl, 0, rfl⟩
          case round =>
            obtain ⟨j, hj, rfl, n, rfl⟩ := hrel
            by_cases hjP : j < P
            · obtain ⟨b1, o1, b2, o2, x, rfl, e1, rfl, e2⟩ := G4.out j hjP
              go_wp2_with fail
              go_quiet (fail)
              go_wp2
              exact ⟨⟨j + 1, by omega, by go_num, _, rfl⟩, by simp [intOf]; omega⟩
            · obtain rfl : j = P := by omega
              go_wp2
              go_ret
              exact ⟨rfl, below_drewN G5.out _⟩
        · subst hPL2
          have hAen := HLPE.out rfl
          subst hAen
          obtain ⟨FF, f6'⟩ := F6.out
          go_upto_region 21 with fail
          generalize w5.setCell ⟨w.heap.size, 0, none⟩ (.int .i64 (P : Int)) = w6 at *
          obtain ⟨⟨g1, g2⟩, ⟨be, oe, rfl, g3⟩, g4, g5⟩ := FF
          have G4 := Lib.hid g4; clear g4
          have G5 := Lib.hid g5; clear g5
          go_wp2_with fail
          go_loopw [21, 111] (fun _ cv wx => ∃ j : Nat, j ≤ P ∧ cv = .int .i64 j ∧ ∃ n, wx = w6.drewN n) (fun _ cv _ => P - (intOf cv).toNat)
          case atStart => exact ⟨0, by omega, rfl, 0, rfl⟩
          case round =>
            obtain ⟨j, hj, rfl, n, rfl⟩ := hrel
            by_cases hjP : j < P
            · obtain ⟨b1, o1, b2, o2, x, rfl, e1, rfl, e2⟩ := G4.out j hjP
              go_wp2_with fail
              go_quiet (fail)
              go_wp2
              exact ⟨⟨j + 1, by omega, by go_num, _, rfl⟩, by simp [intOf]; omega⟩
            · obtain rfl : j = P := by omega
              go_wp2
              go_ret
              exact ⟨rfl, below_drewN G5.out _⟩
        · subst hPa
          have FF := F5.out
          by_cases hPL : P = L
          · subst hPL
            have hAen := HLPE.out rfl
            subst hAen
            obtain ⟨⟨g1, g2⟩, ⟨be, oe, rfl, g3⟩, g4, g5⟩ := FF
            have G4 := Lib.hid g4; clear g4
            have G5 := Lib.hid g5; clear g5
            go_wp2_with fail
            go_loopw [21, 111] (fun _ cv wx => ∃ j : Nat, j ≤ P ∧ cv = .int .i64 j ∧ ∃ n, wx = w5.drewN n) (fun _ cv _ => P - (intOf cv).toNat)
            case atStart => exact ⟨0, by omega, rfl, 0, rfl⟩
            case round =>
              obtain ⟨j, hj, rfl, n, rfl⟩ := hrel
              by_cases hjP : j < P
              · obtain ⟨b1, o1, b2, o2, x, rfl, e1, rfl, e2⟩ := G4.out j hjP
                go_wp2_with fail
                go_quiet (fail)
                go_wp2
                exact ⟨⟨j + 1, by omega, by go_num, _, rfl⟩, by simp [intOf]; omega⟩
              · obtain rfl : j = P := by omega
                go_wp2
                go_ret
                exact ⟨rfl, below_drewN G5.out _⟩
          · have hb : ((P : Int) == (L : Int)) = false := by rw [beq_eq_false_iff_ne]; omega
            obtain ⟨⟨g1, g2⟩, ⟨be, oe, rfl, g3⟩, g4, g5⟩ := FF
            have G4 := Lib.hid g4; clear g4
            have G5 := Lib.hid g5; clear g5
            go_wp2_with fail
            go_loopw [21, 111] (fun _ cv wx => ∃ j : Nat, j ≤ P ∧ cv = .int .i64 j ∧ ∃ n, wx = w5.drewN n) (fun _ cv _ => P - (intOf cv).toNat)
            case atStart => exact ⟨0, by omega, rfl, 0, rfl⟩
            case round =>
              obtain ⟨j, hj, rfl, n, rfl⟩ := hrel
              by_cases hjP : j < P
              · obtain ⟨b1, o1, b2, o2, x, rfl, e1, rfl, e2⟩ := G4.out j hjP
                go_wp2_with fail
                go_quiet (fail)
                go_wp2
                exact ⟨⟨j + 1, by omega, by go_num, _, rfl⟩, by simp [intOf]; omega⟩
              · obtain rfl : j = P := by omega
                go_wp2
                go_ret
                exact ⟨rfl, below_drewN G5.out _⟩
end Go.Proofs.Ytklpnkfhcaepiaa.segmentScans
