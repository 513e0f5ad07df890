/-
  The walk of the law CodeParts.
-/
import Derived.Test.YtjanangcfgmdeaaDoorW10In
open Go Go.RowKit
set_option linter.unusedVariables false
namespace Go.Proofs.YtjanangcfgmdeaaDoor.codeParts
set_option maxRecDepth 100000 in
set_option maxHeartbeats 8000000 in
theorem walk (fa : Option Addr) (nf fc : Nat) (ca : Option Addr) (nc cc : Nat) (lk : Int) (ka : Option Addr) (nk kc : Nat) (d0 : PD) (room locks c0 c1 c2 : Int) (w : World) (hd : IsPg w fa nf fc ca nc cc lk ka nk kc d0) (hg : ShAt w) :
    Calls Tryd.prog 4 #[.agg #[.slice fa nf fc, .slice ca nc cc, .int .i64 lk, .slice ka nk kc], .int .i64 room, .int .i64 locks, .agg #[.int .i64 c0, .int .i64 c1, .int .i64 c2]] w fun e w' => e = .returned (.bool true) ∧ Below w.heap.size w w' := by
  have HD := Lib.hid hd
  have HG := Lib.hid hg
  clear hd hg
  obtain ⟨s0, hs0⟩ : ∃ s0, s0 = w.heap.size := ⟨_, rfl⟩
  have hO : Own w ((w.alloc (.cells #[.slice fa nf fc, .slice ca nc cc, .int .i64 lk, .slice ka nk kc] 26)).alloc (.cells #[.int .i64 c0, .int .i64 c1, .int .i64 c2] 49)) [CelA (s0 + 1) [.int .i64 c0, .int .i64 c1, .int .i64 c2], CelA s0 [.slice fa nf fc, .slice ca nc cc, .int .i64 lk, .slice ka nk kc]] :=
    ((Own.nil (Below.refl _ _)).alloc [.slice fa nf fc, .slice ca nc cc, .int .i64 lk, .slice ka nk kc] _ hs0).alloc [.int .i64 c0, .int .i64 c1, .int .i64 c2] _ (by simp [hs0])
  have HO := Lib.hid hO
  obtain ⟨r0, hi0, hz0, hz1, hz2⟩ := info_parts info_rc
  have Ri := Lib.hid hi0; clear hi0
  have Rz0 := Lib.hid hz0; clear hz0
  have Rz1 := Lib.hid hz1; clear hz1
  have Rz2 := Lib.hid hz2; clear hz2
  clear hO
  go_enter Tryd.func4, Tryd.ntmps4
  go_upto_region 1 with fail
  rw [← hs0]
  clear hs0
  generalize ((w.alloc (.cells #[.slice fa nf fc, .slice ca nc cc, .int .i64 lk, .slice ka nk kc] 26)).alloc (.cells #[.int .i64 c0, .int .i64 c1, .int .i64 c2] 49)) = W at *
  go_wp2_with fail
  refine (awake10_any W (HG.out.below HO.out.bel)).mono ?_
  rintro r w1 ⟨rfl, b1⟩
  have O1 := Lib.hid (HO.out.step b1)
  clear b1 HO
  have h0 := O1.out.cel 1 rfl
  obtain ⟨f0, -⟩ := h0 0 _ rfl
  obtain ⟨f1, -⟩ := h0 1 _ rfl
  obtain ⟨f2, -⟩ := h0 2 _ rfl
  obtain ⟨f3, -⟩ := h0 3 _ rfl
  clear h0
  have HSM := Lib.hid (HD.out.below O1.out.bel).some
  go_wp2_with fail
  refine HSM.out.mono ?_
  rintro r w2 ⟨ga, gc, rs, da, dc, cs, ea, ec, ks, lq, rfl, hn, hp, hf, ho⟩
  obtain ⟨gn, hgn⟩ : ∃ n, rs.length = n := ⟨_, rfl⟩
  obtain ⟨cn, hcn⟩ : ∃ n, cs.length = n := ⟨_, rfl⟩
  obtain ⟨kn, hkn⟩ : ∃ n, ks.length = n := ⟨_, rfl⟩
  rw [hgn, hcn, hkn] at ho ⊢
  rw [hgn] at hn
  have hcn4 : cn ≤ 4 := by have := hp.1; omega
  have hkn8 : kn ≤ 8 := by have := hp.2.1; omega
  obtain ⟨qb, hqb⟩ : ∃ qb, qb = w2.heap.size := ⟨_, rfl⟩
  have O2 := Lib.hid (ho.alloc [.slice ga gn gc, .slice da cn dc, .int .i64 lq, .slice ea kn ec] 26 hqb)
  have HF := Lib.hid (show ∀ f ∈ rs.map (·.l), ∀ x ∈ f, i64b x.2.2.1 from fun f hfm x hx => by
    obtain ⟨r, hr, rfl⟩ := List.mem_map.1 hfm
    exact ((hf r hr).2.2 x hx).2)
  have HN := Lib.hid (And.intro hgn (And.intro hcn hkn))
  have HL := Lib.hid (show ∀ r ∈ rs, r.l.length ≤ 20 from fun r hr => (hf r hr).2.1)
  clear ho hp hf hgn hcn hkn f0 f1 f2 f3 HSM
  go_upto_region 4 with fail
  rw [← hqb]
  generalize w2.alloc (.cells #[.slice ga gn gc, .slice da cn dc, .int .i64 lq, .slice ea kn ec] 26) = W2 at *
  clear hqb
  obtain ⟨f1, -⟩ := O2.out.cel 0 rfl 1 _ rfl
  go_upto_if 22 with fail
  go_cut [9] (fun s wx => s = .pointer (some ⟨qb, 0, none⟩) ∧ ∃ cs' : List Int, cs'.length = cn ∧ Own w1 wx (CelA qb [.slice ga gn gc, .slice da cn dc, .int .i64 lq, .slice ea kn ec] :: RowGA 1 ga gc gn (frs rs) :: RowGA 1 da dc cn (intc cs') :: RowGA 3 ea ec kn (cac ks) :: fns rs))
  case first =>
    by_cases h0 : 0 < cn
    · have h0' : (0 : Int) < (cn : Int) := by omega
      have hcs := HN.out.2.1
      have hrg := O2.out.rowG 2 rfl
      obtain ⟨b, off, rfl, e0⟩ := hrg.cells 0 _ (intc_at cs 0 (by omega))
      obtain ⟨z, s1, t1⟩ := hrg.spot 0 (by have := hrg.2.1; omega)
      have s1 : W2.cell? ⟨b, off, none⟩ = some z := s1
      have t1 : W2.frozen? ⟨b, off, none⟩ = false := t1
      have h5 := ((O2.out.pick 2 rfl).rowSet 0 (.int .i64 room) (by rw [intc_len]; omega)).pick 1 rfl
      have e1 : (intc cs).set 0 (.int .i64 room) = intc (cs.set 0 room) := by unfold intc; rw [List.map_set]
      rw [e1] at h5
      have H5 := Lib.hid ((h5.pick 2 rfl).pick 1 rfl)
      clear hrg e1 h5 e0
      go_wp2_with fail
      go_meet
      exact ⟨rfl, cs.set 0 room, by rw [List.length_set]; exact hcs, H5.out⟩
    · have h0' : ¬ (0 : Int) < (cn : Int) := by omega
      go_wp2_with fail
      go_meet
      exact ⟨rfl, cs, HN.out.2.1, O2.out⟩
  case rest =>
    obtain ⟨rfl, cs', hcs', ho⟩ := hcut
    clear O2 f1
    obtain ⟨x2, y2⟩ := ho.cel 0 rfl 2 _ rfl
    have O3 := Lib.hid (ho.set 2 (.int .i64 locks))
    clear ho
    go_upto_region 7 with fail
    generalize wc.setCell ⟨qb, 2, none⟩ (.int .i64 locks) = W3 at *
    clear x2 y2
    obtain ⟨f3, -⟩ := O3.out.cel 0 rfl 3 _ rfl
    have hcc := (O1.out.cel 0 rfl).below O3.out.bel
    obtain ⟨e0, -⟩ := hcc 0 _ rfl
    obtain ⟨e1, -⟩ := hcc 1 _ rfl
    obtain ⟨e2, -⟩ := hcc 2 _ rfl
    have O4 := Lib.hid (O3.out.step (below_alloc1 W3 (.cells #[.int .i64 c0, .int .i64 c1, .int .i64 c2] 49)))
    clear hcc
    go_wp2_with (at_builtin; refine wpList_append_rowG (n := kn) (m := 1) (cs := cac ks) (ds := cac [(c0, c1, c2)]) rfl _ _ 24 rfl 49 r0 _ Tryd.underlying24 Ri.out Rz0.out Rz1.out Rz2.out rfl (by omega) (by omega) rfl rfl (O4.out.rowG 3 rfl) (CellsAt.new W3 (cac [(c0, c1, c2)]) _ (by first | rfl | simp)) rfl (cac_one _) (by omega) ?_)
    intro a9 c9 w9 k9 ch9 f9
    have o9 := (Own.rowTurn (O4.out.pick 3 rfl) k9 ch9 (fun x hx => by have := f9 x hx; simpa using this)).pick 1 rfl
    rw [← cac_app] at o9
    obtain ⟨x3, y3⟩ := o9.cel 0 rfl 3 _ rfl
    have O5 := Lib.hid (o9.set 3 (.slice a9 (kn + 1) c9))
    clear o9 k9 ch9 f9 O4 f3 e0 e1 e2 O3
    go_upto_region 8 with fail
    generalize w9.setCell ⟨qb, 3, none⟩ (.slice a9 (kn + 1) c9) = W5 at *
    clear x3 y3
    obtain ⟨d, hde⟩ : ∃ d : PD, d = ⟨rs.map (·.l), cs', locks, ks ++ [(c0, c1, c2)]⟩ := ⟨_, rfl⟩
    have d1 : d.fs.length = gn := by rw [hde]; simp [HN.out.1]
    have d2 : d.cs.length = cn := by rw [hde]; exact hcs'
    have d3 : d.ks.length = kn + 1 := by rw [hde]; simp [HN.out.2.2]
    have d4 : d.lk = locks := by rw [hde]
    have hpat : PAt W5 ga da a9 d := by
      rw [hde]
      have o := O5.out
      refine ⟨?_, IntsAt.of_cells (o.rowG 3 rfl).cells, CasAt.of_cells (o.rowG 1 rfl).cells⟩
      refine Own.funAtG (w0 := w1) (As := []) (R := []) ?_ (o.rowG 2 rfl)
      rw [List.append_nil]
      exact o.drop.drop.drop.drop
    have hfit : Fits d := by rw [hde]; exact HF.out
    have hlf : ∀ f ∈ d.fs, f.length ≤ 2000000 := fun f hf => by
      rw [hde] at hf
      obtain ⟨r, hr, rfl⟩ := List.mem_map.1 hf
      have := HL.out r hr; omega
    obtain ⟨A, B, E, hch⟩ : ∃ A B E, chkI d = (A, B, E) := ⟨_, _, _, rfl⟩
    have hrc := refcheck_any ga gc da dc a9 c9 d W5 hpat hfit
    have how := fun w' (hb : Below W5.heap.size W5 w') => own_any ga gc da dc a9 c9 d w' (hpat.below hb) (by omega) hlf (by omega) (by omega)
    have hck := fun fa' fc' ca' cc' ka' kc' w' (hg : ShAt w') hp => check_any fa' fc' ca' cc' ka' kc' d w' hg hp
    rw [hch] at hrc
    simp only [hch] at hck
    unfold pv at hrc how hck
    rw [d1, d2, d3, d4] at hrc
    simp only [d1, d2, d3, d4] at how hck
    have HRC := Lib.hid hrc
    have HOW := Lib.hid how
    have HCK := Lib.hid hck
    have HG5 := Lib.hid (HG.out.below (below_on O1.out.bel O5.out.bel))
    have hqc := O5.out.cel 0 rfl
    obtain ⟨f0, -⟩ := hqc 0 _ rfl
    obtain ⟨f1, -⟩ := hqc 1 _ rfl
    obtain ⟨f2, -⟩ := hqc 2 _ rfl
    obtain ⟨f3, -⟩ := hqc 3 _ rfl
    have HQC := Lib.hid hqc
    have HB5 := Lib.hid (below_on O1.out.bel O5.out.bel)
    clear hde d1 d2 d3 d4 hpat hfit hlf hch hrc how hck hqc HF HL HN hcs' O5 O1
    go_wp2_with fail
    refine HRC.out.mono ?_
    rintro r w6 ⟨rfl, b6⟩
    have HB6 := Lib.hid b6
    have hqc := HQC.out.below b6
    clear f0 f1 f2 f3 b6
    obtain ⟨f0, -⟩ := hqc 0 _ rfl
    obtain ⟨f1, -⟩ := hqc 1 _ rfl
    obtain ⟨f2, -⟩ := hqc 2 _ rfl
    obtain ⟨f3, -⟩ := hqc 3 _ rfl
    clear hqc
    go_wp2_with fail
    refine (HOW.out _ HB6.out).mono ?_
    rintro r w7 ⟨xa, xb, xc, xd, xe, xf, rfl, hp7, b7⟩
    have HB7 := Lib.hid (below_on HB6.out b7)
    have HC := Lib.hid (HCK.out xa xb xc xd xe xf w7 (HG5.out.below HB7.out) hp7)
    clear hp7 b7
    go_wp2_with fail
    refine HC.out.mono ?_
    rintro r w8 ⟨rfl, b8⟩
    have HB8 := Lib.hid (below_on HB5.out (below_on HB7.out b8))
    clear b8 f0 f1 f2 f3
    by_cases hE : E = 0
    · subst hE
      go_wp2_with fail
      go_ret
      exact ⟨by simp, below_on HB8.out (below_alloc1 _ _)⟩
    · have hE2 : (E == 0) = false := by simpa using hE
      rw [hE2]
      go_wp2_with fail
      go_ret
      exact ⟨by simp, below_on HB8.out (below_alloc1 _ _)⟩
end Go.Proofs.YtjanangcfgmdeaaDoor.codeParts
