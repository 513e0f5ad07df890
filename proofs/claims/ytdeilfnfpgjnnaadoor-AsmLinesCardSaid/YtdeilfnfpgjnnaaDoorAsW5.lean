/-
  A channel's line, and the line of how many locks there are.
-/
import Derived.Test.YtdeilfnfpgjnnaaDoorAsW4
import Derived.Test.YtdeilfnfpgjnnaaDoorSegH
import Derived.Test.YtdeilfnfpgjnnaaDoorSegY
open Go Go.RowKit
set_option linter.unusedVariables false
set_option linter.unusedSimpArgs false
namespace Go.Proofs.YtdeilfnfpgjnnaaDoor
theorem numsV_agg (ws : List By) (n : Nat) : ∃ c1 c2 c3, numsV ws n = .agg #[.int .i64 c1, .int .i64 c2, .int .i64 c3] ∧ ((numsM ws n).2 = 0 → c1 = x3 (numsM ws n).1 0 ∧ c2 = x3 (numsM ws n).1 1 ∧ c3 = x3 (numsM ws n).1 2) := by
  unfold numsV
  split
  · exact ⟨_, _, _, rfl, fun _ => ⟨rfl, rfl, rfl⟩⟩
  · rename_i h
    exact ⟨_, _, _, rfl, fun h2 => absurd h2 h⟩
set_option maxRecDepth 100000 in
set_option maxHeartbeats 2000000 in
theorem chan_any (b : Nat) (r : Rd) (R : List Asr) (a : Option Addr) (cap : Nat) (ws : List By) (w0 w : World) (hl : ws.length ≤ 100000) (hs : ∀ x ∈ ws, x.length ≤ 100000) (hg : GlA w0) (h : RdAt w0 w b r R) (hat : CellsAt w a (strs ws)) (hr : r.cs.length ≤ 100000) :
    Calls Tryd.prog 30 #[.pointer (some ⟨b, 0, none⟩), .slice a ws.length cap] w fun e w' =>
      e = .returned (.int .i64 (withN r (numsM ws 1) fun x => { r with cs := r.cs ++ [x3 x 0] }).2) ∧ RdAt w0 w' b (withN r (numsM ws 1) fun x => { r with cs := r.cs ++ [x3 x 0] }).1 R := by
  have HC := Lib.hid (numbers_any ws 1 a cap w (by omega) hl hs (hg.below h.bel) hat)
  obtain ⟨i0, hi, hz0, hz1, hz2⟩ := info_parts info_in
  have Hi := Lib.hid hi
  have Hz0 := Lib.hid hz0
  have Hz1 := Lib.hid hz1
  have Hz2 := Lib.hid hz2
  obtain ⟨D, hD, ho⟩ := h
  have HO := Lib.hid ho
  have HD := Lib.hid hD
  have HL := Lib.hid hr
  obtain ⟨c1, c2, c3, hv, hc⟩ := numsV_agg ws 1
  rw [hv] at HC
  unfold withN
  generalize numsM ws 1 = q at *
  obtain ⟨q1, q2⟩ := q
  generalize ws.length = m at *
  simp only at HC hc ⊢
  clear hat hs hg hi hz0 hz1 hz2 ho hD hv hr
  by_cases hq : q2 = 0
  · rw [if_pos hq]
    obtain ⟨e1, e2, e3⟩ := hc hq
    rw [← e1]
    subst hq
    clear hc e1 e2 e3
    go_enter Tryd.func30, Tryd.ntmps30
    go_wp2_with fail
    refine HC.out.mono ?_
    rintro e w1 ⟨rfl, hb⟩
    have o1 := HO.out.step hb
    obtain ⟨g, hgg⟩ : ∃ g, g = w1.heap.size := ⟨_, rfl⟩
    have o2 := o1.alloc [.int .i64 c1, .int .i64 c2, .int .i64 c3] 64 (b := g) hgg
    have HO2 := Lib.hid o2
    clear o1 o2 hb HC
    go_upto_region 3 with fail
    rw [← hgg]
    generalize w1.alloc (.cells #[.int .i64 c1, .int .i64 c2, .int .i64 c3] 64) = w2 at *
    clear hgg
    obtain ⟨n, hn⟩ : ∃ n, r.cs.length = n := ⟨_, rfl⟩
    have SCB : ∀ (wx : World) (A9 : Asr), Own w0 wx ((CelA g [.int .i64 c1, .int .i64 c2, .int .i64 c3] :: (rdp b r D ++ R)).set 3 A9) →
        wx.cell? ⟨b, 1, none⟩ = some (.slice D.ca n D.cc) ∧ wx.cell? ⟨g, 0, none⟩ = some (.int .i64 c1) := by
      intro wx A9 o
      rw [← hn]
      exact ⟨(o.cel 1 rfl 1 _ rfl).1, (o.cel 0 rfl 0 _ rfl).1⟩
    have hl2 := HL.out
    rw [hn] at hl2
    have HN := Lib.hid hn
    clear hn
    have o2 := HO2.out.step (below_drew1 w2)
    refine wp_region_lexY (fun wx => wx.cell? ⟨b, 1, none⟩ = some (.slice D.ca n D.cc) ∧ wx.cell? ⟨g, 0, none⟩ = some (.int .i64 c1)) 13 14 (Array.replicate 14 false) (by kernel_rfl) (by kernel_rfl) ?_
    refine wpAnyY_seg 0 8 _ #[true, true, true, true, true, true, true, true, false, false, false, false, false, false] 6 (by kernel_rfl) noPanic_put (SCB _ _ o2) (by kernel_rfl) ?_
    simp only [List.take_succ_cons, List.take_zero, List.drop_zero]
    repeat (first
      | (refine wpSegH_no (by rfl) ?_; simp only [Act.put, List.setIfInBounds_toArray, List.set_cons_zero, List.set_cons_succ])
      | (refine wpSegH_yes (by rfl) ?_; apply Exists.intro; apply And.intro; (· (intro wx hS; (try dsimp only at hS); go_simp; first | done | with_reducible rfl)); simp only [Act.put, List.setIfInBounds_toArray, List.set_cons_zero, List.set_cons_succ]))
    refine wpSegH_nil ?_
    refine wpAnyY_one 8 _ #[true, true, true, true, true, true, true, true, true, false, false, false, false, false] 5 (by kernel_rfl) (fun K hK => ?_)
    have HKK := Lib.hid hK
    clear hK
    simp only [List.drop_succ_cons, List.drop_zero]
    refine headH_mk (by rfl) ?_
    go_simp
    have o3 := o2.step (below_alloc1 _ (.cells #[.int .i64 c1] 3))
    refine HKK.out _ _ (SCB _ _ o3) ?_
    clear HKK K
    refine wpAnyY_one 9 _ #[true, true, true, true, true, true, true, true, true, true, false, false, false, false] 4 (by kernel_rfl) (fun K hK => ?_)
    have HKK := Lib.hid hK
    clear hK
    simp only [List.drop_succ_cons, List.drop_zero]
    refine headH_mk (by rfl) ?_
    have hrow := o3.rowG 3 rfl
    rw [HN.out] at hrow
    refine wp_append_rowG (n := n) (m := 1) (cs := intc r.cs) (ds := intc [c1]) _ _ 23 (by rfl) 3 i0 _ Tryd.underlying23 Hi.out Hz0.out Hz1.out Hz2.out rfl (by omega) (by omega) (by rfl) (by rfl) hrow (CellsAt.new _ (intc [c1]) _ rfl) (by rfl) (by simp [intc, Value.oneCell']) (by omega) ?_
    intro a9 c9 w9 k9 ch9 f9
    have o4 := (Own.rowTurn (o3.pick 3 rfl) k9 ch9 f9).back (i := 3) (As := CelA g [.int .i64 c1, .int .i64 c2, .int .i64 c3] :: (rdp b r D ++ R)) (by simp [rdp])
    refine HKK.out _ _ (SCB _ _ o4) ?_
    clear HKK K
    refine wpAnyY_segT 10 2 _ #[true, true, true, true, true, true, true, true, true, true, true, true, false, false] 2 (by kernel_rfl) noPanic_put (by kernel_rfl) ?_
    simp only [List.take_succ_cons, List.take_zero, List.drop_succ_cons, List.drop_zero]
    repeat (first
      | (refine wpSegH_no (by rfl) ?_; simp only [Act.put, List.setIfInBounds_toArray, List.set_cons_zero, List.set_cons_succ])
      | (refine wpSegH_yes (by rfl) ?_; apply Exists.intro; apply And.intro; (· (intro wx hS; (try dsimp only at hS); go_simp; first | done | with_reducible rfl)); simp only [Act.put, List.setIfInBounds_toArray, List.set_cons_zero, List.set_cons_succ]))
    refine wpSegH_nil ?_
    refine wpAnyY_seg 12 1 _ #[true, true, true, true, true, true, true, true, true, true, true, true, true, false] 1 (by kernel_rfl) noPanic_put (SCB _ _ o4) (by kernel_rfl) ?_
    simp only [List.take_succ_cons, List.take_zero, List.drop_succ_cons, List.drop_zero]
    repeat (first
      | (refine wpSegH_no (by rfl) ?_; simp only [Act.put, List.setIfInBounds_toArray, List.set_cons_zero, List.set_cons_succ])
      | (refine wpSegH_yes (by rfl) ?_; apply Exists.intro; apply And.intro; (· (intro wx hS; (try dsimp only at hS); go_simp; first | done | with_reducible rfl)); simp only [Act.put, List.setIfInBounds_toArray, List.set_cons_zero, List.set_cons_succ]))
    refine wpSegH_nil ?_
    obtain ⟨z8, f8⟩ := o4.cel 1 rfl 1 _ rfl
    have o5 := (o4.setAt 1 rfl 1 (.slice a9 (n + 1) c9)).drop
    have e1 : (r.cs ++ [c1]).length = n + 1 := by rw [List.length_append, HN.out]; rfl
    have HR : Hid (RdAt w0 (w9.setCell ⟨b, 1, none⟩ (.slice a9 (n + 1) c9)) b { r with cs := r.cs ++ [c1] } R) := Lib.hid ⟨{ D with ca := a9, cc := c9 }, HD.out, by
      unfold rdp rcl
      simp only [e1, intc_app]
      exact o5⟩
    clear o2 o3 o4 o5 k9 ch9 f9 hrow SCB
    refine wpAnyY_late 13 _ #[true, true, true, true, true, true, true, true, true, true, true, true, true, true] 0 (by kernel_rfl) (fun K hK => ?_)
    have HKK := Lib.hid hK
    clear hK
    simp only [List.drop_succ_cons, List.drop_zero]
    refine headH_mk (by rfl) ?_
    go_simp
    refine HKK.out _ _ ?_
    clear HKK K
    refine wpAnyY_done (by kernel_rfl) (NoPanic.normal ?_) _
    go_wp2
    go_ret
    exact ⟨rfl, HR.out⟩
  · rw [if_neg hq]
    have hqb : (q2 == 0) = false := by simpa using hq
    clear hc
    go_enter Tryd.func30, Tryd.ntmps30
    go_wp2_with fail
    refine HC.out.mono ?_
    rintro e w1 ⟨rfl, hb⟩
    have HR : Hid (RdAt w0 ((w1.alloc (.cells #[.int .i64 c1, .int .i64 c2, .int .i64 c3] 64))) b r R) := Lib.hid (RdAt.step ⟨D, HD.out, HO.out⟩ (hb.alloc (by have := hb.size; omega) _))
    go_wp2_with fail
    go_ret
    exact ⟨rfl, HR.out⟩
end Go.Proofs.YtdeilfnfpgjnnaaDoor
