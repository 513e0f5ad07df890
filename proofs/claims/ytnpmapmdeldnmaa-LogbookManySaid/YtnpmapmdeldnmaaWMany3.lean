/-
  The walk of the law LogbookMany.
-/
import Derived.Test.YtnpmapmdeldnmaaWMany2
import Derived.Deep.AppendLies
open Go Go.RowKit
set_option linter.unusedVariables false
namespace Go.Proofs.Ytnpmapmdeldnmaa.logbookMany
attribute [local go_sem ↓] Go.wp_at_zero Go.wp_at_succ
set_option maxRecDepth 100000 in
theorem size_rec (w : World) : (sizeOf (Try.prog.elem 29)).run Try.prog w = .ok 2 w := by first | rfl | kernel_rfl
theorem cells_below {k : IntKind} {w w' : World} {a : Option Addr} {zs : List Int} (h : Cells k w a zs) (hb : Below w.heap.size w w') : Cells k w' a zs := fun i hi => by
  obtain ⟨b, off, h1, h2, h3⟩ := h i hi
  exact ⟨b, off, h1, cell_below h2 hb, h3⟩
set_option maxRecDepth 100000 in
set_option maxHeartbeats 4000000 in
theorem walk (a0 : Option Addr) (len0 cap0 : Nat) (l0 : List (List Rec)) (a1 : Option Addr) (len1 cap1 : Nat) (z1 : List Int) (a2 : ByteArray) (w : World) (v0 : IsParts w a0 len0 cap0 l0) (v1 : IsRow .i64 w a1 len1 cap1 z1) (v2 : a2.size ≤ maxLen) :
    Calls Try.prog 3 #[.slice a0 len0 cap0, .slice a1 len1 cap1, .string a2] w fun e w' => e = .returned (.bool true) ∧ Below w.heap.size w w' := by
  obtain ⟨hm0, hc0, hx0, hat0⟩ := v0
  obtain ⟨hc1, hx1, hl1, hat1⟩ := v1.cells
  have hlm0 : len0 ≤ maxLen := Nat.le_trans hc0 hx0
  have hlm1 : len1 ≤ maxLen := Nat.le_trans hc1 hx1
  unfold maxLen at hlm0 hlm1 v2
  have Hm0 := Lib.hid hm0
  have Hl1 := Lib.hid hl1
  have Hat0 := Lib.hid hat0
  have Hat1 := Lib.hid hat1
  have H2 := Lib.hid v2
  generalize z1.take len1 = zs at Hl1 Hat1
  clear hm0 hl1 hat0 hat1 v1 hc0 hx0 hc1 hx1 z1 v2
  obtain ⟨i0, hi0, hz0, hz1, hz2⟩ := info_parts info_rref
  have Hi := Lib.hid hi0; clear hi0
  have Hz0 := Lib.hid hz0; clear hz0
  have Hz1 := Lib.hid hz1; clear hz1
  have Hz2 := Lib.hid hz2; clear hz2
  go_enter Try.func3, Try.ntmps3
  go_wp2_with fail
  refine (awake6_any _).mono ?_
  rintro e w1 ⟨rfl, hb1⟩
  have Ha0 := Lib.hid (Hat0.out.below hb1)
  have Ha1 := Lib.hid (cells_below Hat1.out hb1)
  have B1 := Lib.hid hb1; clear hb1 Hat0 Hat1
  go_wp2_with fail
  refine (inv_new 1048576 w1 _ (Below.refl _ _) (by omega) (by omega)).mono ?_
  rintro e w2 ⟨rfl, h2⟩
  obtain ⟨p, hp⟩ : ∃ p, p = w1.heap.size := ⟨_, rfl⟩
  rw [← hp] at h2 ⊢
  have hst : ∀ b, b = w2.heap.size → St w1 (w2.alloc (.cells #[] 40)) p 0 [] (.slice (some ⟨b, 0, none⟩) 0 0) := fun b hb => by
    subst hb
    obtain ⟨F, k1, k2, k3⟩ := h2
    have hs := k3.size
    have hFl := k1.lt
    refine ⟨SSt.new 1048576, F, [], [], k1.chg (Chg.of_below (F := []) (below_alloc1 _ _)) (fun _ _ => by simp), k2, k3.alloc hs _, ⟨rfl, .inl rfl, rfl, rfl, rfl, fun x hx => by simp at hx⟩, rfl, by simp, World.ownsRow_made w2 #[] 0 hs (by decide) rfl, fun g hg hF => ?_⟩
    simp [Value.ownBlock] at hg; subst hg
    have := hFl _ hF; omega
  have HST := Lib.hid (hst _ rfl)
  clear hst h2 hp
  go_wp2_with fail
  go_loopw [8, 9] (fun sv iv wr => ∃ i : Nat, ∃ l a c, i ≤ 5 ∧ iv = .int .i64 i ∧ sv = .slice a l.length c ∧ Hid (St w1 wr p i l (.slice a l.length c))) (fun _ iv _ => 5 - (intOf iv).toNat)
  case atStart => exact ⟨0, [], _, _, by omega, rfl, rfl, HST.out⟩
  case round =>
    obtain ⟨i, l, a, c, hi, rfl, rfl, hs⟩ := hrel
    obtain ⟨n, hn⟩ : ∃ n, n = l.length := ⟨_, rfl⟩
    have hn5 : n ≤ 50 := by have := hs.out.few; omega
    rw [← hn] at hs ⊢
    have HN := Lib.hid hn; clear hn
    by_cases hlt : i < len0 ∧ i < len1 ∧ i < 5
    · obtain ⟨q1, q2, q3⟩ := hlt
      obtain ⟨b9, o9, rfl, g9, wf9⟩ := (cells_below Ha1.out hs.out.bel) i (by have := Hl1.out; omega)
      have hz9 := bounds_i64 wf9
      generalize zs[i]'(by have := Hl1.out; omega) = z at g9 hz9 wf9
      clear wf9
      go_wp2_with fail
      refine (st_open2 hs.out hi z hz9.1 hz9.2).mono ?_
      rw [← HN.out]
      rintro e w4 ⟨pb, ar, cr, rfl, hrec, hfl⟩
      have F4 : Hid (Fl w1 w4 p pb (10 * i) l (.slice a n c)) := Lib.hid hfl
      have R4 := Lib.hid hrec
      clear hfl hrec
      have hal : RecsAt w4 a l := by
        obtain ⟨a', c', he, _, _, e3⟩ := RecsAt.of_own F4.out.own
        simp only [Value.slice.injEq] at he
        obtain ⟨rfl, _, _⟩ := he
        exact e3
      have hare := are_eq ar a cr c l w4 (by rw [← HN.out]; omega) R4.out hal
      rw [← HN.out] at hare
      have HARE := Lib.hid hare
      clear hare hal
      go_wp2_with fail
      refine HARE.out.mono ?_
      rintro e w5 ⟨rfl, hb5⟩
      have F5 := Lib.hid (F4.out.step hb5)
      clear hb5 HARE
      have hsu := fl_sure F5.out
      rw [← HN.out] at hsu
      have HSU := Lib.hid hsu; clear hsu
      go_wp2_with fail
      refine HSU.out.mono ?_
      rintro e w6 ⟨rfl, hw6⟩
      subst hw6
      go_wp2_with fail
      refine (fl_wait F5.out).mono ?_
      rintro e w7 ⟨rfl, hw7⟩
      subst hw7
      obtain ⟨b8, o8, ai, ci, rfl, g8, hir⟩ := (Ha0.out.below F5.out.bel) i (by have := Hm0.out; omega)
      generalize l0[i]'(by have := Hm0.out; omega) = li at g8 hir
      have hso := some_own ai ci li w5 (Nat.le_trans hir.2.1 hir.2.2.1) hir.2.2.2.1 hir.2.2.2.2
      have hok := someL_ok li
      have hml := someL_len li
      generalize someL li = M at hso hok hml
      obtain ⟨m, hm⟩ : ∃ m, m = M.length := ⟨_, rfl⟩
      obtain ⟨k, hk⟩ : ∃ k, k = li.length := ⟨_, rfl⟩
      rw [← hm] at hso hml
      rw [← hk] at hso g8
      have HSO := Lib.hid hso
      have HOK := Lib.hid hok
      have HM := Lib.hid hm
      clear hso hok hm hir hk
      go_wp2_with fail
      refine HSO.out.mono ?_
      rintro e w8 ⟨am, cm, rfl, hown8, hb8⟩
      obtain ⟨a', c', he, hc8, hx8, hat8⟩ := RecsAt.of_own (l := M) (by rw [← HM.out]; exact hown8)
      rw [← HM.out] at he hc8
      simp only [Value.slice.injEq, true_and] at he
      obtain ⟨rfl, rfl⟩ := he
      have hmid := F5.out.mid hb8 hat8 (fun g o t e => by subst e; exact hown8.lt g rfl)
      obtain ⟨lo, hlo⟩ : ∃ lo, lo = w5.heap.size := ⟨_, rfl⟩
      obtain ⟨hh, hhh⟩ : ∃ hh, hh = w8.heap.size := ⟨_, rfl⟩
      rw [← hlo, ← hhh] at hmid
      obtain ⟨T, hT⟩ : ∃ T, T = min m 10 := ⟨_, rfl⟩
      have hTm : T ≤ m ∧ T ≤ 10 := by omega
      have hmin : min (m : Int) 10 = (T : Int) := by omega
      have hsl : ∀ w', (Instr.slice 29 (.slice am m cm) none (some (.int .i64 (T : Int))) none).run Try.prog w' = .ok (.slice am T cm) w' := fun w' => slice_head w' Try.underlying29 size_rec am m cm T (by omega)
      have HMID := Lib.hid hmid
      have HC8 := Lib.hid hc8
      clear hown8 hb8 hat8 hx8 hmid hlo hhh hT HSO F5 HSU hc8
      have hst2 : Mid w1 w8 p pb (10 * i + 0) (l ++ M.take 0) (.slice a (n + 0) c) lo hh am M := by rw [List.take_zero, List.append_nil]; exact HMID.out
      have HST2 := Lib.hid hst2
      clear hst2 HMID
      go_wp2_with fail
      clear hsl hmin
      go_loopw [8, 80] (fun sv jv wq => ∃ j : Nat, ∃ a c, j ≤ T ∧ jv = .int .i64 j ∧ sv = .slice a (n + j) c ∧ Hid (Mid w1 wq p pb (10 * i + j) (l ++ M.take j) (.slice a (n + j) c) lo hh am M)) (fun _ jv _ => T - (intOf jv).toNat)
      case atStart => exact ⟨0, a, c, by omega, rfl, rfl, HST2.out⟩
      case round =>
        obtain ⟨j, a, c, hj, rfl, rfl, hq⟩ := hrel
        by_cases hjT : j < T
        · have hjM : j < M.length := by have := HM.out; omega
          have hrk := HOK.out _ (List.getElem_mem hjM)
          obtain ⟨b7, o7, rfl, y1, y2⟩ := hq.out.came.at_ j hjM
          have hts : M.take (j + 1) = M.take j ++ [M[j]] := by rw [List.take_add_one, List.getElem?_eq_getElem hjM]; rfl
          generalize M[j] = r at hrk y1 y2 hts
          obtain ⟨rk, rn⟩ := r
          simp only at y1 y2
          have hll : (l ++ M.take j).length = n + j := by rw [List.length_append, List.length_take, ← HN.out]; omega
          have HLL := Lib.hid hll
          have HTS := Lib.hid hts
          have HRK := Lib.hid hrk
          clear hll hts hrk
          have hjT' : (j : Int) < (T : Int) := by omega
          go_wp2_with fail
          refine (mid_add hq.out (by omega) (rk, rn) HRK.out _).mono ?_
          rintro e w9 ⟨rfl, hadd, K, cK, hK⟩
          have hbx : Blk w9 wr.heap.size [.int .i64 rk, .int .u64 (rn : Int)] := (Blk.mk _ _ _ _ rfl).chg cK (fun hc => by have := hK _ hc; omega)
          obtain ⟨u0, -⟩ := hbx 0 _ rfl
          obtain ⟨u1, -⟩ := hbx 1 _ rfl
          have hAD := Lib.hid hadd
          clear hbx hadd cK hK
          have hown := hAD.out.own.1
          rw [HLL.out] at hown
          have HOWN := Lib.hid hown
          have hsz9 := hAD.out.bel.size
          clear hown
          go_wp2_with (at_builtin; refine wpList_append_lies _ rfl _ _ 27 rfl w1.heap.size 40 i0 (.agg #[.int .i64 0, .int .u64 0]) 2 16 Try.underlying27 Hi.out Hz0.out Hz1.out Hz2.out rfl (by decide) _ (n + j) (recCells (l ++ M.take j)) rfl (HOWN.out.alloc _) ⟨w9.heap.size, 0, none⟩ 1 1 [.int .i64 rk, .int .u64 (rn : Int)] rfl rfl (two_new _ _ _ _ rfl) (by simp [Value.oneCell']) (by omega) (by unfold maxLen; omega) (by omega) (by simp; omega) (w9.heap.size + 1) (by simp) ?_)
          intro g cp w10 hown10 hgrow10 hg10 hgl10
          have hm2 := (hAD.out.step (below_alloc1 _ _)).app (w' := w10) (g := g) (cp := cp) (H := w9.heap.size + 1) (by rw [HLL.out]; exact hown10) hgrow10 hg10 (by simp)
          rw [List.append_assoc, ← HTS.out, HLL.out] at hm2
          have HM2 := Lib.hid hm2
          clear hown10 hgrow10 hg10 hgl10 hm2 HOWN hsz9 u0 u1
          go_wp2
          exact ⟨⟨j + 1, _, _, by omega, by go_num, rfl, HM2⟩, by simp [intOf]; omega⟩
        · obtain rfl : j = T := by omega
          have hll : (l ++ M.take j).length = n + j := by rw [List.length_append, List.length_take, ← HN.out]; have := HM.out; omega
          generalize l ++ M.take j = L at hq hll
          have HLL := Lib.hid hll
          clear hll
          go_wp2_with fail
          refine (mid_flush hq.out).mono ?_
          rintro e w9 ⟨rfl, hfl⟩
          have F9 := Lib.hid hfl
          have hsu := fl_sure hfl
          rw [HLL.out] at hsu
          have HSU := Lib.hid hsu; clear hsu hfl
          go_wp2_with fail
          refine HSU.out.mono ?_
          rintro e w10 ⟨rfl, hw10⟩
          subst hw10
          rw [Int.natCast_add]
          go_wp2_with fail
          refine (cut_any a2 10 _ H2.out (by omega)).mono ?_
          rintro e w11 ⟨rfl, hw11⟩
          subst hw11
          have hcs := cutB_size a2 10
          generalize cutB a2 10 = cu at hcs
          have hadd : ∀ w, (Op.stringOp .add ⟨#[63]⟩ cu).run Try.prog w = .ok (.string (⟨#[63]⟩ ++ cu)) w := fun w => run_string_add_sum w _ _ (by show 1 + cu.size ≤ _; omega)
          have hap := fl_append F9.out (i + 1) (by omega) (by omega) (⟨#[63]⟩ ++ cu) cu.data.toList (by simp) (by rw [← size_list]; exact hcs)
          have HAP := Lib.hid hap; clear hap
          go_wp2_with fail
          refine HAP.out.mono ?_
          rintro e w12 ⟨rfl, hst3⟩
          have HST3 := Lib.hid hst3; clear hst3
          rw [← HLL.out] at HST3
          go_wp2
          exact ⟨⟨i + 1, L, _, _, by omega, by go_num, by rw [HLL.out], HST3⟩, by simp [intOf]; omega⟩
    · obtain ⟨T, t1, t2, t3, t4, t5⟩ := st_read hs.out hi
      have hal : RecsAt wr a l := by
        obtain ⟨a', c', he, _, _, e3⟩ := RecsAt.of_own hs.out.own
        simp only [Value.slice.injEq] at he
        obtain ⟨rfl, _, _⟩ := he
        exact e3
      have hrd := read_any T wr t2
      unfold GotRead at hrd
      rw [t3, ← HN.out] at hrd
      obtain ⟨E, hE⟩ : ∃ E, E = lastEnd (readR T) := ⟨_, rfl⟩
      obtain ⟨Q, hQ⟩ : ∃ Q, Q = (readR T).length := ⟨_, rfl⟩
      rw [← hE] at t4
      rw [← hE, ← hQ] at hrd
      have hB := hs.out.bel
      have T1 := Lib.hid t1
      have T5 := Lib.hid t5
      have HRD := Lib.hid hrd
      have HAL := Lib.hid hal
      have HB := Lib.hid hB
      clear t1 t3 t5 hrd hal hE hQ hB
      have hcase : (i < len0 ∧ i < len1 ∧ ¬ i < 5) ∨ (i < len0 ∧ ¬ i < len1) ∨ ¬ i < len0 := by omega
      rcases hcase with ⟨h1, h2, h3⟩ | ⟨h1, h2⟩ | h1
      all_goals
        go_wp2_with fail
        refine T1.out.mono ?_
        rintro e w4 ⟨rfl, hw4⟩
        subst hw4
        go_wp2_with fail
        refine HRD.out.mono ?_
        rintro e w5 ⟨ar, cr, rfl, hc1, hc2, hat, hb5, hloc⟩
        have hare := are_eq ar a cr c l w5 (by rw [← HN.out]; omega) hat (HAL.out.below hb5)
        rw [← HN.out] at hare
        have HARE := Lib.hid hare
        have HB5 := Lib.hid (below_on HB.out hb5)
        have B5 := Lib.hid hb5
        clear hare hat hb5 hloc hc1 hc2
        go_wp2_with fail
        refine HARE.out.mono ?_
        rintro e w6 ⟨rfl, hb6⟩
        have HB6 := Lib.hid (below_on B1.out (below_on HB5.out hb6))
        have hln := T5.out _ (below_on B5.out hb6)
        have HLN := Lib.hid hln
        clear hln hb6
        go_wp2_with fail
        refine HLN.out.mono ?_
        rintro e w7 ⟨rfl, hw7⟩
        subst hw7
        have hle : (E : Int) ≤ (T.size : Int) := by omega
        go_wp2
        go_ret
        exact ⟨by simp, HB6.out⟩
end Go.Proofs.Ytnpmapmdeldnmaa.logbookMany
