/-
  Empty lines say nothing: the law's walk.
-/
import Derived.Test.YtdeilfnfpgjnnaaDoorAsL
open Go Go.RowKit
set_option linter.unusedVariables false
set_option linter.unusedSimpArgs false
namespace Go.Proofs.YtdeilfnfpgjnnaaDoor
theorem bs_app (a b : By) : bs a ++ bs b = bs (a ++ b) := by
  apply ByteArray.ext
  simp [bs]
theorem bs_nl : (⟨#[10]⟩ : ByteArray) = bs [10] := rfl
theorem rep_snoc (i : Nat) : List.replicate i (10 : UInt8) ++ [10] = List.replicate (i + 1) 10 := by rw [List.replicate_succ']
namespace asmLines
set_option maxRecDepth 100000 in
set_option maxHeartbeats 4000000 in
theorem walk (s : ByteArray) (a1 : Int) (w : World) (hs : s.size ≤ maxLen) (hg : GlA w) :
    Calls Tryd.prog 5 #[.string s, .int .i64 a1] w fun e w' => e = .returned (.bool true) ∧ Below w.heap.size w w' := by
  have HAW := Lib.hid (awake_any w hg)
  have HCU : Hid (∀ W, Calls Tryd.prog 14 #[.string s, .int .i64 300] W fun e w' => e = .returned (.string (cutB s 300)) ∧ W = w') := Lib.hid fun W => cut_any s 300 W hs (by omega)
  obtain ⟨l, hl⟩ : ∃ l, cutB s 300 = bs l := ⟨(cutB s 300).data.toList, rfl⟩
  have hll : l.length ≤ 300 := by have := cutB_size s 300; rw [hl, bs_size] at this; exact this
  rw [hl] at HCU
  clear hl hs
  obtain ⟨M, hM', hM2, -⟩ := small_of a1 20 (by omega)
  have hM : (bits BinOp.and IntKind.i64 a1 255).tmod 20 = (M : Int) := hM'
  clear hM'
  have HP : Hid (∀ W, GlA W → Calls Tryd.prog 11 #[.string (bs l)] W fun e w' => ∃ v, e = .returned (.tuple #[v, .int .i64 (parseM l).2.1, .int .i64 (parseM l).2.2]) ∧ PVal w' v (parseM l).1 ∧ Below W.heap.size W w') := Lib.hid fun W hW => parse_any l W (by omega) hW
  have HP2 : Hid (∀ W, GlA W → Calls Tryd.prog 11 #[.string (bs (List.replicate M 10 ++ l))] W fun e w' => ∃ v, e = .returned (.tuple #[v, .int .i64 (if (parseM l).2.1 < 0 then (parseM l).2.1 else (parseM l).2.1 + M), .int .i64 (parseM l).2.2]) ∧ PVal w' v (parseM l).1 ∧ Below W.heap.size W w') := Lib.hid fun W hW => by
    have := parse_any (List.replicate M 10 ++ l) W (by simp; omega) hW
    rw [parse_empty l M (by omega)] at this
    exact this
  have hgood := parse_good l (parseM l).1 (parseM l).2.1 (by omega)
  have hat := parse_at l (parseM l).1 (parseM l).2.1 (parseM l).2.2 rfl
  obtain ⟨⟨d, a, e⟩, hX⟩ : ∃ X, parseM l = X := ⟨_, rfl⟩
  rw [hX] at HP HP2 hgood hat
  simp only at HP HP2 hgood hat
  have HGD : Hid (e = 0 → a = -1 ∧ PTidy d ∧ (chkI d).2.2 = 0 ∧ (textM d).length ≤ l.length + 1 ∧ (d.cs.length ≤ 1000000 ∧ d.ks.length ≤ 1000000 ∧ d.fs.length ≤ 1000000 ∧ ∀ f ∈ d.fs, f.length ≤ 1000000)) := Lib.hid fun h => hgood (by rw [h])
  have HAT := Lib.hid (And.intro hat hll)
  have HG := Lib.hid hg
  clear hX hgood hat hg hll
  go_enter Tryd.func5, Tryd.ntmps5
  go_wp2_with fail
  refine HAW.out.mono ?_
  rintro e1 w1 ⟨rfl, hb1⟩
  have HB1 := Lib.hid hb1
  clear hb1 HAW
  go_wp2_with fail
  refine (HCU.out _).mono ?_
  rintro e2 w2 ⟨rfl, rfl⟩
  go_upto_region 6 with fail
  go_loopw [5, 20] (fun v c wr => ∃ i : Nat, i ≤ M ∧ c = .int .i64 (i : Int) ∧ v = .string (bs (List.replicate i 10)) ∧ wr = w1) (fun _ c _ => M - (intOf c).toNat)
  case atStart => exact ⟨0, by omega, rfl, rfl, rfl⟩
  case round =>
    obtain ⟨i, hi, rfl, rfl, hwr⟩ := hrel
    subst wr
    have hsz : (bs (List.replicate i 10)).size = i := by rw [bs_size]; simp
    by_cases hlt : i < M
    · have hap : bs (List.replicate i 10) ++ (⟨#[10]⟩ : ByteArray) = bs (List.replicate (i + 1) 10) := by rw [bs_nl, bs_app, rep_snoc]
      have HAP := Lib.hid hap
      clear hap
      go_wp2_with fail
      exact ⟨⟨i + 1, by omega, by go_num, by rw [HAP.out], trivial⟩, by simp [intOf]; omega⟩
    · obtain rfl : i = M := by omega
      have hszl : (bs l).size ≤ 300 := by rw [bs_size]; exact HAT.out.2
      have HAP := Lib.hid (bs_app (List.replicate i 10) l)
      go_wp2_with fail
      refine (HP.out _ (HG.out.below HB1.out)).mono ?_
      rintro e3 w3 ⟨v3, rfl, hp3, hb3⟩
      obtain ⟨fa, fc, ca, cc, ka, kc, rfl, hpa⟩ := hp3
      obtain ⟨nf, hnf⟩ : ∃ n, d.fs.length = n := ⟨_, rfl⟩
      obtain ⟨nc, hnc⟩ : ∃ n, d.cs.length = n := ⟨_, rfl⟩
      obtain ⟨nk, hnk⟩ : ∃ n, d.ks.length = n := ⟨_, rfl⟩
      have HTX : Hid (e = 0 → ∀ (W : World) (fa : Option Addr) (fc : Nat) (ca : Option Addr) (cc : Nat) (ka : Option Addr) (kc : Nat), GlA W → PAt W fa ca ka d → Calls Tryd.prog 9 #[.agg #[.slice fa nf fc, .slice ca nc cc, .int .i64 d.lk, .slice ka nk kc]] W fun e w' => e = .returned (.string (bs (textM d))) ∧ Below W.heap.size W w') := Lib.hid fun h0 W fa fc ca cc ka kc hg hp => by
        obtain ⟨_, h2, _, h4, h5⟩ := HGD.out h0
        have := text_any d fa fc ca cc ka kc W hg h2 hp (by have := HAT.out.2; omega) h5
        unfold pv at this
        rwa [hnf, hnc, hnk] at this
      unfold pv
      simp only
      rw [hnf, hnc, hnk]
      obtain ⟨p, hpe⟩ : ∃ p, p = w3.heap.size := ⟨_, rfl⟩
      obtain ⟨w4, hw4⟩ : ∃ w4, w4 = w3.alloc (.cells #[.slice fa nf fc, .slice ca nc cc, .int .i64 d.lk, .slice ka nk kc] 33) := ⟨_, rfl⟩
      have hb4 : Below w3.heap.size w3 w4 := by rw [hw4]; exact below_alloc1 _ _
      have hk4 : Blk w4 p [.slice fa nf fc, .slice ca nc cc, .int .i64 d.lk, .slice ka nk kc] := by rw [hw4]; exact Blk.mk _ _ _ _ hpe
      have hB4 : Below w.heap.size w w4 := (HB1.out.trans (hb3.mono HB1.out.size)).trans (hb4.mono (Nat.le_trans HB1.out.size hb3.size))
      have HC2 := Lib.hid (HP2.out w4 (HG.out.below hB4))
      have H4 := Lib.hid (And.intro hB4 (And.intro hk4 (hpa.below hb4)))
      have HW4 := Lib.hid (And.intro hpe hw4)
      clear hpe hw4 hb4 hk4 hB4 hpa hb3 HP HP2 hnf hnc hnk HCU
      go_upto_region 10 with fail
      rw [← HW4.out.1, ← HW4.out.2]
      go_wp2_with fail
      rw [HAP.out]
      refine HC2.out.mono ?_
      rintro e5 w5 ⟨v5, rfl, hp5, hb5⟩
      obtain ⟨fa2, fc2, ca2, cc2, ka2, kc2, rfl, hpa2⟩ := hp5
      unfold pv
      simp only
      obtain ⟨nf2, hnf2⟩ : ∃ n, d.fs.length = n := ⟨_, rfl⟩
      obtain ⟨nc2, hnc2⟩ : ∃ n, d.cs.length = n := ⟨_, rfl⟩
      obtain ⟨nk2, hnk2⟩ : ∃ n, d.ks.length = n := ⟨_, rfl⟩
      have HTX2 : Hid (e = 0 → ∀ (W : World) (fa : Option Addr) (fc : Nat) (ca : Option Addr) (cc : Nat) (ka : Option Addr) (kc : Nat), GlA W → PAt W fa ca ka d → Calls Tryd.prog 9 #[.agg #[.slice fa nf2 fc, .slice ca nc2 cc, .int .i64 d.lk, .slice ka nk2 kc]] W fun e w' => e = .returned (.string (bs (textM d))) ∧ Below W.heap.size W w') := Lib.hid fun h0 W fa fc ca cc ka kc hg hp => by
        obtain ⟨_, h2, _, h4, h5⟩ := HGD.out h0
        have := text_any d fa fc ca cc ka kc W hg h2 hp (by have := HAT.out.2; omega) h5
        unfold pv at this
        rwa [hnf2, hnc2, hnk2] at this
      rw [hnf2, hnc2, hnk2]
      obtain ⟨q, hqe⟩ : ∃ q, q = w5.heap.size := ⟨_, rfl⟩
      obtain ⟨w6, hw6⟩ : ∃ w6, w6 = w5.alloc (.cells #[.slice fa2 nf2 fc2, .slice ca2 nc2 cc2, .int .i64 d.lk, .slice ka2 nk2 kc2] 33) := ⟨_, rfl⟩
      have hb6 : Below w5.heap.size w5 w6 := by rw [hw6]; exact below_alloc1 _ _
      have hk6 : Blk w6 q [.slice fa2 nf2 fc2, .slice ca2 nc2 cc2, .int .i64 d.lk, .slice ka2 nk2 kc2] := by rw [hw6]; exact Blk.mk _ _ _ _ hqe
      have hb56 : Below w4.heap.size w4 w6 := hb5.trans (hb6.mono hb5.size)
      have H6 := Lib.hid (And.intro (H4.out.1.trans (hb56.mono H4.out.1.size)) (And.intro (H4.out.2.1.below hb56) (And.intro (H4.out.2.2.below hb56) (And.intro hk6 (hpa2.below hb6)))))
      have HW6 := Lib.hid (And.intro hqe hw6)
      clear hqe hw6 hb6 hk6 hb56 hpa2 hb5 HC2 hnf2 hnc2 hnk2 hsz hszl
      go_upto_region 11 with fail
      rw [← HW6.out.1, ← HW6.out.2]
      clear HW6 HW4 H4
      by_cases he : e = 0
      · obtain ⟨rfl, -⟩ := HGD.out he
        have HT1 := Lib.hid (HTX.out he)
        have HT2 := Lib.hid (HTX2.out he)
        subst he
        clear HTX HTX2 HGD
        go_upto_region 15 with fail
        have hdr := below_drew1 w6
        obtain ⟨h61, h62, h63, h64, h65⟩ := H6.out
        have SCB : ∀ wx, Below w6.heap.size w6 wx → (wx.cell? ⟨p, 0, none⟩ = some (.slice fa nf fc) ∧ wx.cell? ⟨p, 1, none⟩ = some (.slice ca nc cc) ∧ wx.cell? ⟨p, 2, none⟩ = some (.int .i64 d.lk) ∧ wx.cell? ⟨p, 3, none⟩ = some (.slice ka nk kc)) ∧
            wx.cell? ⟨q, 0, none⟩ = some (.slice fa2 nf2 fc2) ∧ wx.cell? ⟨q, 1, none⟩ = some (.slice ca2 nc2 cc2) ∧ wx.cell? ⟨q, 2, none⟩ = some (.int .i64 d.lk) ∧ wx.cell? ⟨q, 3, none⟩ = some (.slice ka2 nk2 kc2) := fun wx hx =>
          ⟨⟨((h62.below hx) 0 _ rfl).1, ((h62.below hx) 1 _ rfl).1, ((h62.below hx) 2 _ rfl).1, ((h62.below hx) 3 _ rfl).1⟩, ((h64.below hx) 0 _ rfl).1, ((h64.below hx) 1 _ rfl).1, ((h64.below hx) 2 _ rfl).1, ((h64.below hx) 3 _ rfl).1⟩
        refine wp_region_lexH (fun wx => (wx.cell? ⟨p, 0, none⟩ = some (.slice fa nf fc) ∧ wx.cell? ⟨p, 1, none⟩ = some (.slice ca nc cc) ∧ wx.cell? ⟨p, 2, none⟩ = some (.int .i64 d.lk) ∧ wx.cell? ⟨p, 3, none⟩ = some (.slice ka nk kc)) ∧ wx.cell? ⟨q, 0, none⟩ = some (.slice fa2 nf2 fc2) ∧ wx.cell? ⟨q, 1, none⟩ = some (.slice ca2 nc2 cc2) ∧ wx.cell? ⟨q, 2, none⟩ = some (.int .i64 d.lk) ∧ wx.cell? ⟨q, 3, none⟩ = some (.slice ka2 nk2 kc2)) 14 (Array.replicate 14 false) (by kernel_rfl) (by kernel_rfl) ?_
        refine wpAnyH_seg 0 8 _ #[true, true, true, true, true, true, true, true, false, false, false, false, false, false] 6 (by kernel_rfl) noPanic_put (SCB _ hdr) (by kernel_rfl) ?_
        simp only [List.take_succ_cons, List.take_zero, List.drop_zero]
        repeat (first
          | (refine wpSegH_no (by rfl) ?_; simp only [Act.put, List.setIfInBounds_toArray, List.set_cons_zero, List.set_cons_succ])
          | (refine wpSegH_yes (by rfl) ?_; apply Exists.intro; apply And.intro; (· (intro wx hS; (try dsimp only at hS); go_simp; first | done | with_reducible rfl)); simp only [Act.put, List.setIfInBounds_toArray, List.set_cons_zero, List.set_cons_succ]))
        refine wpSegH_nil ?_
        refine wpAnyH_seg 9 1 _ #[true, true, true, true, true, true, true, true, false, true, false, false, false, false] 5 (by kernel_rfl) noPanic_put (SCB _ hdr) (by kernel_rfl) ?_
        simp only [List.take_succ_cons, List.take_zero, List.drop_succ_cons, List.drop_zero]
        repeat (first
          | (refine wpSegH_no (by rfl) ?_; simp only [Act.put, List.setIfInBounds_toArray, List.set_cons_zero, List.set_cons_succ])
          | (refine wpSegH_yes (by rfl) ?_; apply Exists.intro; apply And.intro; (· (intro wx hS; (try dsimp only at hS); go_simp; first | done | with_reducible rfl)); simp only [Act.put, List.setIfInBounds_toArray, List.set_cons_zero, List.set_cons_succ]))
        refine wpSegH_nil ?_
        refine wpAnyH_one 8 _ #[true, true, true, true, true, true, true, true, true, true, false, false, false, false] 4 (by kernel_rfl) (fun K hK => ?_)
        have HKK := Lib.hid hK
        clear hK
        simp only [List.drop_succ_cons, List.drop_zero]
        refine headH_mk (by rfl) ?_
        go_simp
        refine (HT1.out _ fa fc ca cc ka kc (HG.out.below (h61.trans (hdr.mono h61.size))) (h63.below hdr)).mono ?_
        rintro e7 w7 ⟨rfl, hb7⟩
        have hb67 : Below w6.heap.size w6 w7 := hdr.trans hb7
        refine HKK.out _ _ (SCB _ hb67) ?_
        clear HKK K
        refine wpAnyH_one 10 _ #[true, true, true, true, true, true, true, true, true, true, true, false, false, false] 3 (by kernel_rfl) (fun K hK => ?_)
        have HKK := Lib.hid hK
        clear hK
        simp only [List.drop_succ_cons, List.drop_zero]
        refine headH_mk (by rfl) ?_
        go_simp
        refine (HT2.out _ fa2 fc2 ca2 cc2 ka2 kc2 (HG.out.below (h61.trans (hb67.mono h61.size))) (h65.below hb67)).mono ?_
        rintro e8 w8 ⟨rfl, hb8⟩
        have hb68 : Below w6.heap.size w6 w8 := hb67.trans (hb8.mono hb67.size)
        refine HKK.out _ _ (SCB _ hb68) ?_
        clear HKK K
        refine wpAnyH_seg 11 3 _ #[true, true, true, true, true, true, true, true, true, true, true, true, true, true] 0 (by kernel_rfl) noPanic_put (SCB _ hb68) (by kernel_rfl) ?_
        simp only [List.take_succ_cons, List.take_zero, List.drop_succ_cons, List.drop_zero]
        repeat (first
          | (refine wpSegH_no (by rfl) ?_; simp only [Act.put, List.setIfInBounds_toArray, List.set_cons_zero, List.set_cons_succ])
          | (refine wpSegH_yes (by rfl) ?_; apply Exists.intro; apply And.intro; (· (intro wx hS; (try dsimp only at hS); go_simp; first | done | with_reducible rfl)); simp only [Act.put, List.setIfInBounds_toArray, List.set_cons_zero, List.set_cons_succ]))
        refine wpSegH_nil ?_
        refine wpAnyH_done (by kernel_rfl) (NoPanic.normal ?_) _
        have HE := Lib.hid (h61.trans (hb68.mono h61.size))
        go_wp2_with fail
        go_ret
        exact ⟨rfl, HE.out⟩
      · have heb : (e == 0) = false := by simpa using he
        rcases HAT.out.1 with rfl | ⟨ha0, ha1⟩
        · have HE := Lib.hid H6.out.1
          go_wp2_with fail
          go_ret
          exact ⟨rfl, HE.out⟩
        · have HE := Lib.hid H6.out.1
          have hl300 := HAT.out.2
          have hna : ¬ a < 0 := by omega
          have hak : (if a < 0 then a else a + (i : Int)) = a + i := if_neg hna
          have hd1 : decide (a < 0) = false := by simpa using hna
          have hd2 : decide (0 ≤ a) = true := by simpa using ha0
          have hd3 : decide (a + (i : Int) < 0) = false := by simp; omega
          go_wp2_with fail
          go_ret
          exact ⟨rfl, HE.out⟩
end asmLines
end Go.Proofs.YtdeilfnfpgjnnaaDoor
