/-
  The walk of the law ChansDrain.
-/
import Derived.Test.YthfleeimhnenpaaWCh6
import Derived.Test.YthfleeimhnenpaaInts
import Derived.OpenShut
import Derived.LoopTactic
open Go Go.RowKit
set_option linter.unusedVariables false
namespace Go.Proofs.Ythfleeimhnenpaa.chansDrain
theorem and_7i (x : Int) : bits BinOp.and IntKind.i64 x 7 = x % 8 := by
  show IntKind.i64.wrap (((BitVec.ofInt 64 x) &&& (BitVec.ofInt 64 7)).toNat : Int) = x % 8
  have e : (BitVec.ofInt 64 7).toNat = 7 := by decide
  rw [BitVec.toNat_and, e, show (7 : Nat) = 2 ^ 3 - 1 from rfl, Nat.and_two_pow_sub_one_eq_mod, IntKind.wrap_i64, BitVec.toNat_ofInt]; omega
/-- What was sent is in the channel, and in a row. -/
def St (w1 w : World) (p N i : Nat) (v : Value) (L : List Int) : Prop := L.length = min i N ∧ ∃ a c, v = .slice a L.length c ∧ Own w1 w [RowGA 1 a c L.length (intc L), ChanA p N ⟨L, [], [], false⟩]
set_option maxRecDepth 100000 in
set_option maxHeartbeats 2000000 in
theorem walk (a0 : Int) (a1 : Option Addr) (len1 cap1 : Nat) (z1 : List Int) (a2 : Int) (w : World) (v0 : (Lit.int .i64 a0).wf = true) (w1' : IsRow .i64 w a1 len1 cap1 z1) (v2 : (Lit.int .i64 a2).wf = true) :
    Calls Try.prog 5 #[.int .i64 a0, .slice a1 len1 cap1, .int .i64 a2] w fun e w' => e = .returned (.bool true) ∧ Below w.heap.size w w' := by
  obtain ⟨hlc, hcm, hzl, hcells⟩ := w1'.cells
  have hzc : ∀ j, j < len1 → ∃ b off x, a1 = some ⟨b, off, none⟩ ∧ w.cell? ⟨b, off + j, none⟩ = some (.int .i64 x) := fun j hj => by
    obtain ⟨b, off, e1, e2, e3⟩ := hcells j (by omega)
    exact ⟨b, off, _, e1, e2⟩
  clear w1' hcells
  have HZC := Lib.hid hzc
  unfold maxLen at hcm
  have hll : len1 ≤ 9223372036854775807 := by omega
  clear hzc hlc hcm hzl v0 v2
  obtain ⟨M, hM⟩ : ∃ M : Nat, bits BinOp.and IntKind.i64 a2 7 = (M : Int) := ⟨(a2 % 8).toNat, by rw [and_7i]; omega⟩
  have hM8 : M < 8 := by rw [and_7i] at hM; omega
  have HMM := Lib.hid hM
  clear hM
  go_enter Try.func5, Try.ntmps5
  go_wp2_with fail
  refine (awake13_any _).mono ?_
  rintro e w1 ⟨rfl, hb1⟩
  have B1 := Lib.hid hb1; clear hb1
  go_wp2_with fail
  refine (cnew_any (w0 := w1) (Own.nil (Below.refl _ _)) a0).mono ?_
  rintro r w2 ⟨p, rfl, h2, -⟩
  obtain ⟨N, hN⟩ : ∃ N, N = roomC a0 := ⟨_, rfl⟩
  have hV : (N : Int) = 0 ∧ a0 < 0 ∨ (N : Int) = a0 ∧ 0 ≤ a0 ∧ a0 ≤ 16 ∨ (N : Int) = 16 ∧ 16 < a0 := by rw [hN]; unfold roomC; omega
  have hN16 : N ≤ 16 := by rw [hN]; exact roomC_le _
  rw [← hN] at h2
  have HV := Lib.hid hV
  have hst : St w1 (w2.alloc (.cells #[] 2)) p N 0 (.slice (some ⟨w2.heap.size, 0, none⟩) 0 0) [] :=
    ⟨by simp, _, 0, rfl, h2.add (below_alloc1 _ _) (A := RowGA 1 (some ⟨w2.heap.size, 0, none⟩) 0 0 []) (F := [w2.heap.size]) ⟨rfl, RowG.zero (by simp)⟩ (fun x hx => by simp at hx; omega)⟩
  have HST := Lib.hid hst
  clear hst h2 hN hV
  obtain ⟨i0, hi0, hz0, hz1, hz2⟩ := info_parts info_i6
  have Hi := Lib.hid hi0; clear hi0
  have Hz0 := Lib.hid hz0; clear hz0
  have Hz1 := Lib.hid hz1; clear hz1
  have Hz2 := Lib.hid hz2; clear hz2
  go_wp2_with fail
  go_loopw [8, 9] (fun s8 s9 wr => ∃ i : Nat, ∃ L : List Int, i ≤ 20 ∧ i ≤ len1 ∧ s9 = .int .i64 i ∧ Hid (St w1 wr p N i s8 L)) (fun _ s9 _ => 20 - (intOf s9).toNat)
  case atStart => exact ⟨0, [], by omega, by omega, rfl, HST⟩
  case round =>
    obtain ⟨i, L, hi, hil, rfl, hr⟩ := hrel
    obtain ⟨hL, a, c, rfl, k1⟩ := hr.out
    have K1 := Lib.hid k1
    have hLb : L.length ≤ 20 := by omega
    have HL := Lib.hid hL
    clear HST hr
    by_cases hlt : i < len1 ∧ i < 20
    · obtain ⟨q1, q2⟩ := hlt
      obtain ⟨b, off, x, rfl, z1⟩ := HZC.out i q1
      have z1' := cell_below (cell_below z1 B1.out) k1.bel
      have ZB := Lib.hid (cell_below z1 B1.out)
      have hi1 : (i : Int) < (len1 : Int) := by omega
      have hi2 : (i : Int) < 20 := by omega
      have hsc := csend_any (k1.pick 1 rfl) x (by simp only; omega) (by simp)
      by_cases hroom : L.length < N
      · have e : mSend N ⟨L, [], [], false⟩ x = (⟨L ++ [x], [], [], false⟩, zw, false, 0) := by unfold mSend; simp [hroom]
        rw [e] at hsc
        have HSC := Lib.hid hsc
        have hL1 : L.length + 1 = min (i + 1) N := by omega
        have HL1 := Lib.hid hL1
        clear z1 k1 hsc e hroom hL hL1
        obtain ⟨n, hn⟩ : ∃ n, n = L.length := ⟨_, rfl⟩
        rw [← hn] at HL1 hLb HSC K1 ⊢
        have HN := Lib.hid hn
        clear hn
        unfold wv at HSC
        simp only [zw] at HSC
        go_wp2_with fail
        refine HSC.out.mono ?_
        rintro r w4 ⟨rfl, h4⟩
        have z2' := cell_below ZB.out h4.bel
        have h5 := h4.step (below_alloc1 w4 (.cells #[.int .i64 0, .int .i64 0, .int .i64 0] 45))
        have z3' := cell_below z2' (below_alloc1 w4 (.cells #[.int .i64 0, .int .i64 0, .int .i64 0] 45))
        have H5 := Lib.hid h5
        have hblt := World.block_lt_of_cell? w4 _ z2'
        clear h4 h5
        go_wp2_with (at_builtin; refine wpList_append_rowG (m := 1) (ds := intc [x]) rfl _ _ 26 rfl 2 i0 _ Try.underlying26 Hi.out Hz0.out Hz1.out Hz2.out rfl (by omega) (by omega) rfl rfl ((H5.out.rowG 1 rfl).below (below_alloc1 _ _)) (CellsAt.new _ (intc [x]) _ (by simp)) rfl (intc_one _) (by omega) ?_)
        intro a5 c5 w5 k5 ch5 f5
        have h6 := Own.rowTurnC ch5 k5 (fun x hx => by have := f5 x hx; simpa using this) ((H5.out.step (below_alloc1 _ _)).pick 1 rfl)
        have hE : St w1 w5 p N (i + 1) (.slice a5 (n + 1) c5) (L ++ [x]) := by
          have e : (L ++ [x]).length = n + 1 := by rw [HN.out]; simp
          refine ⟨by rw [e]; exact HL1.out, a5, c5, by rw [e], ?_⟩
          rw [e, intc_app]; exact h6
        have HE := Lib.hid hE
        clear hE h6 k5 ch5 f5 z2' z3'
        go_wp2
        exact ⟨⟨i + 1, L ++ [x], by omega, by omega, by go_num, HE⟩, by simp [intOf]; omega⟩
      · have e : mSend N ⟨L, [], [], false⟩ x = (⟨L, [], [], false⟩, zw, false, 6) := by unfold mSend; simp [hroom]
        rw [e] at hsc
        have HSC := Lib.hid hsc
        have hE : ∀ w', Own w1 w' [ChanA p N ⟨L, [], [], false⟩, RowGA 1 a c L.length (intc L)] → St w1 w' p N (i + 1) (.slice a L.length c) L := fun w' h => ⟨by omega, a, c, rfl, h.pick 1 rfl⟩
        have HE := Lib.hid hE
        clear z1 k1 hsc e hroom hL hE
        unfold wv at HSC
        simp only [zw] at HSC
        go_wp2_with fail
        refine HSC.out.mono ?_
        rintro r w4 ⟨rfl, h4⟩
        have H4 := Lib.hid (HE.out _ (h4.step (below_alloc1 w4 (.cells #[.int .i64 0, .int .i64 0, .int .i64 0] 45))))
        clear h4
        go_wp2
        exact ⟨⟨i + 1, L, by omega, by omega, by go_num, H4⟩, by simp [intOf]; omega⟩
    · have hcl := cclose_any (k1.pick 1 rfl)
      have HCL := Lib.hid hcl
      have hi3 : i = min len1 20 := by omega
      have hL2 : L.length = min (min len1 20) N := by omega
      obtain ⟨n, hn⟩ : ∃ n, n = L.length := ⟨_, rfl⟩
      rw [← hn] at hL2 hLb ⊢
      have HN := Lib.hid hn
      have HL2 := Lib.hid hL2
      have hcase : (i < len1 ∧ ¬ i < 20) ∨ ¬ i < len1 := by omega
      clear hcl hi3 hL2 hn hL k1 hlt
      have HV2 : Hid ((n : Int) = min (min (len1 : Int) 20) (min (max a0 0) 16)) := Lib.hid (by have h1 := HV.out; have h2 := HL2.out; omega)
      have hll2 := hll
      rcases hcase with ⟨c1, c2⟩ | c1
      case' inl => have c1 : (i : Int) < (len1 : Int) := by omega
      case' inl => have c2 : ¬ (i : Int) < 20 := by omega
      case' inr => have c1 : ¬ (i : Int) < (len1 : Int) := by omega
      all_goals
        go_wp2_with fail
        refine HCL.out.mono ?_
        rintro r w4 ⟨ra, rc, sa, sc, rfl, h4⟩
        have h5 : Own w1 w4 [ChanA p N ⟨L.drop 0, [], [], true⟩, RowGA 3 ra rc 0 (wtc []), RowGA 3 sa sc 0 (wtc []), RowGA 1 a c L.length (intc L)] := h4
        have h6 := (((h5.pick 1 rfl).drop.pick 1 rfl).drop)
        have H6 := Lib.hid h6
        clear h4 h5 h6
        go_upto_region 12 with fail
        go_cut [87] (fun s wx => s = .bool false ∧ wx = w4)
        case first =>
          go_wp2_with fail
          all_goals
            go_meet
            refine ⟨congrArg Value.bool ?_, rfl⟩
            rw [bne_eq_false_iff_eq]
            have := HV2.out
            first | omega | (split <;> omega) | (split <;> (first | omega | (split <;> omega)))
        case rest =>
          obtain ⟨rfl, rfl⟩ := hcut
          clear HCL HV HV2 HL2
          go_wp2_with fail
          go_loopw [90] (fun s wr => ∃ j : Nat, j ≤ n ∧ s = .int .i64 j ∧ Hid (Own w1 wr [ChanA p N ⟨L.drop j, [], [], true⟩, RowGA 1 a c L.length (intc L)])) (fun s _ => n - (intOf s).toNat)
          case atStart => exact ⟨0, by omega, rfl, H6⟩
          case round =>
            obtain ⟨j, hj, rfl, hr⟩ := hrel
            by_cases hlt : j < n
            · have hjl : j < L.length := by have := HN.out; omega
              have hd : L.drop j = L[j] :: L.drop (j + 1) := List.drop_eq_getElem_cons hjl
              obtain ⟨bb, oo, rfl, zz⟩ := (hr.out.rowG 1 rfl).cells.int j hjl
              have hr2 := hr.out
              rw [hd] at hr2
              have hrc := crecv_buf hr2 (by rw [List.length_drop]; have := HN.out; omega)
              have HRC := Lib.hid hrc
              have hji : (j : Int) < (n : Int) := by omega
              clear hrc hr2 hr hd
              generalize L[j]'hjl = y at *
              clear hjl
              unfold gotC at HRC
              simp only [zw] at HRC
              go_wp2_with fail
              refine HRC.out.mono ?_
              rintro r w5 ⟨rfl, h5⟩
              have H5 := Lib.hid (h5.step (below_alloc1 _ (.cells #[.int .i64 y, .bool true, .int .i64 0, .int .i64 0, .int .i64 0, .bool false] 51)))
              clear h5
              go_wp2
              exact ⟨⟨j + 1, by omega, by go_num, H5⟩, by simp [intOf]; omega⟩
            · have hge : ¬ (j : Int) < (n : Int) := by omega
              have hst : Own w1 wr [ChanA p N ⟨[], [], [], true⟩] := by
                have := hr.out
                rw [show j = L.length by have := HN.out; omega, List.drop_length] at this
                exact (this.pick 1 rfl).drop
              have HST := Lib.hid hst
              have hmm := HMM.out
              clear hst hr hlt hj H6
              go_wp2_with fail
              clear hmm
              go_loopw [115] (fun s wr => ∃ k : Nat, k ≤ M ∧ s = .int .i64 k ∧ Hid (Own w1 wr [ChanA p N ⟨[], [], [], true⟩])) (fun s _ => M - (intOf s).toNat)
              case atStart => exact ⟨0, by omega, rfl, HST⟩
              case round =>
                obtain ⟨k, hk, rfl, hr⟩ := hrel
                by_cases hlt : k < M
                · have hrc := crecv_none hr.out
                  have HRC := Lib.hid hrc
                  have hji : (k : Int) < (M : Int) := by omega
                  clear hrc hr
                  unfold gotC at HRC
                  simp only [zw, if_true] at HRC
                  go_wp2_with fail
                  refine HRC.out.mono ?_
                  rintro r w5 ⟨rfl, h5⟩
                  have H5 := Lib.hid (h5.step (below_alloc1 _ (.cells #[.int .i64 0, .bool false, .int .i64 0, .int .i64 0, .int .i64 0, .bool false] 51)))
                  clear h5
                  go_wp2
                  exact ⟨⟨k + 1, by omega, by go_num, H5⟩, by simp [intOf]; omega⟩
                · have hge3 : ¬ (k : Int) < (M : Int) := by omega
                  have hsc := csend_any hr.out 1 (by simp) (by simp)
                  have e : mSend N ⟨[], [], [], true⟩ 1 = (⟨[], [], [], true⟩, zw, false, 10) := rfl
                  rw [e] at hsc
                  have HSC := Lib.hid hsc
                  clear hsc hr e hlt hk
                  unfold wv at HSC
                  simp only [zw] at HSC
                  go_wp2_with fail
                  refine HSC.out.mono ?_
                  rintro r w5 ⟨rfl, h5⟩
                  have h6 := h5.step (below_alloc1 w5 (.cells #[.int .i64 0, .int .i64 0, .int .i64 0] 45))
                  have hcr := ccanr_any h6
                  have e1 : canR ⟨[], [], [], true⟩ = true := rfl
                  rw [e1] at hcr
                  have HCR := Lib.hid hcr
                  have hcs := ccans_any h6
                  have e2 : canS N ⟨[], [], [], true⟩ = true := rfl
                  rw [e2] at hcs
                  have HCS := Lib.hid hcs
                  have HB := Lib.hid (below_on B1.out h6.bel)
                  clear h5 h6 hcr hcs e1 e2
                  go_wp2_with fail
                  refine HCR.out.mono ?_
                  rintro r w6 ⟨rfl, rfl⟩
                  go_wp2_with fail
                  refine HCS.out.mono ?_
                  rintro r w6 ⟨rfl, m, rfl⟩
                  have hb := below_drewN HB.out m
                  go_wp2
                  go_ret
                  exact ⟨rfl, hb⟩
end Go.Proofs.Ythfleeimhnenpaa.chansDrain
