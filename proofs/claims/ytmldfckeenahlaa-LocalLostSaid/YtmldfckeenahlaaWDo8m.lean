/-
  The law's made: four queues, empty.
-/
import Derived.Test.YtmldfckeenahlaaWDo8h
open Go Go.RowKit
set_option linter.unusedVariables false
namespace Go.Proofs.Ytmldfckeenahlaa
theorem info_p8 : (Try.prog.info? 38).map (fun i => (i.zero, i.size, i.bytes)) = some (some (.pointer none), 1, 8) := by kernel_rfl
theorem info_x8 : (Try.prog.info? 48).map (fun i => (i.zero, i.size, i.bytes)) = some (some (.agg #[.int .i64 0, .slice none 0 0, .int .i64 0]), 3, 40) := by kernel_rfl
/-- The state behind k rounds. -/
def Mk8 (w0 w : World) (wb b k : Nat) : Prop :=
  ∃ ds la lc xa xc, Own w0 w (CelA wb [.slice la k lc, .pointer (some ⟨b, 0, none⟩), .slice xa k xc, .slice none 0 0, .int .i64 0, .slice none 0 0] :: RowGA 1 la lc k (lptr ds) :: gloA b [] :: RowGA 3 xa xc k (xcs ds) :: PoolA [(none, 0, [])] :: RowA none 0 [] :: locs ds) ∧ ds.length = k ∧ ∀ d ∈ ds, d.q = ⟨none, []⟩ ∧ d.xa = none ∧ d.xc = 0
set_option maxRecDepth 100000 in
set_option maxHeartbeats 8000000 in
theorem made_any (w : World) (r0 r1 r2 r3 : Int) :
    Calls Try.prog 6 #[.agg #[.int .i64 r0, .int .i64 r1, .int .i64 r2, .int .i64 r3]] w fun r w' => ∃ wb b, r = .returned (.pointer (some ⟨wb, 0, none⟩)) ∧ Mk8 w w' wb b 4 := by
  obtain ⟨n0, hi0, hz0, hz1, hz2⟩ := info_parts info_p8
  have Pi := Lib.hid hi0; clear hi0
  have Pz0 := Lib.hid hz0; clear hz0
  have Pz1 := Lib.hid hz1; clear hz1
  have Pz2 := Lib.hid hz2; clear hz2
  obtain ⟨m0, hi0, hz0, hz1, hz2⟩ := info_parts info_x8
  have Xi := Lib.hid hi0; clear hi0
  have Xz0 := Lib.hid hz0; clear hz0
  have Xz1 := Lib.hid hz1; clear hz1
  have Xz2 := Lib.hid hz2; clear hz2
  go_enter Try.func6, Try.ntmps6
  go_upto_region 3 with fail
  have o0 : Own w (w.alloc (.cells #[.int .i64 r0, .int .i64 r1, .int .i64 r2, .int .i64 r3] 22)) [] := (Own.nil (Below.refl _ w)).step (below_alloc1 _ _)
  generalize hW1 : w.alloc (.cells #[.int .i64 r0, .int .i64 r1, .int .i64 r2, .int .i64 r3] 22) = W1 at *
  obtain ⟨b, hb⟩ : ∃ b, b = W1.heap.size := ⟨_, rfl⟩
  have hb' : w.heap.size + 1 = b := by rw [hb, ← hW1]; simp
  have o1 := o0.add (below_alloc1 W1 (.cells #[.slice none 0 0] 43)) (A := gloA b []) (F := [b]) (GloAt.new W1 _ hb) (fun x hx => by simp at hx; omega)
  generalize hW2 : W1.alloc (.cells #[.slice none 0 0] 43) = W2 at *
  obtain ⟨wb, hwb⟩ : ∃ wb, wb = W2.heap.size := ⟨_, rfl⟩
  have hwb' : b + 1 = wb := by rw [hwb, ← hW2, hb]; simp
  have o2 := o1.alloc [.slice none 0 0, .pointer (some ⟨b, 0, none⟩), .slice none 0 0, .slice none 0 0, .int .i64 0, .slice none 0 0] 37 hwb
  rw [hb', hwb']
  generalize W2.alloc (.cells (List.toArray [.slice none 0 0, .pointer (some ⟨b, 0, none⟩), .slice none 0 0, .slice none 0 0, .int .i64 0, .slice none 0 0]) 37) = W3 at *
  clear hb hb' hwb hwb' hW1 hW2 o0 o1
  have hM : Mk8 w W3 wb b 0 := by
    have o3 := o2.newRow (Below.refl _ _) (RowAt.nil W3) (fun x hx => by simp [blk] at hx)
    have o4 := o3.add (Below.refl _ _) (A := PoolA [(none, 0, [])]) (F := []) ⟨fun x hx => by simp at hx, fun r hr => by rw [List.mem_singleton.1 hr]; exact ⟨fun x hx => by simp [blk] at hx, RowAt.nil _⟩⟩ (fun x hx => by simp at hx)
    have o5 := o4.add (Below.refl _ _) (A := RowGA 3 none 0 0 (xcs [])) (F := []) ⟨rfl, RowG.nil _ _⟩ (fun x hx => by simp at hx)
    have o6 := (o5.pick 4 rfl).add (Below.refl _ _) (A := RowGA 1 none 0 0 (lptr [])) (F := []) ⟨rfl, RowG.nil _ _⟩ (fun x hx => by simp at hx)
    exact ⟨[], none, 0, none, 0, o6.pick 5 rfl, rfl, fun d hd => by simp at hd⟩
  have HM := Lib.hid hM
  clear hM o2
  go_loopw [11] (fun iv wr => ∃ k : Nat, k ≤ 4 ∧ iv = .int .i64 k ∧ Hid (Mk8 w wr wb b k)) (fun iv _ => 4 - (intOf iv).toNat)
  case atStart => exact ⟨0, by omega, rfl, HM⟩
  case round =>
    obtain ⟨k, hk, rfl, hr⟩ := hrel
    by_cases hlt : k < 4
    · have hlt' : (k : Int) < 4 := by omega
      obtain ⟨z, hix⟩ : ∃ z : Int, ∀ w', (Instr.index 22 (.agg #[.int .i64 r0, .int .i64 r1, .int .i64 r2, .int .i64 r3]) (.int .i64 (k : Int))).run Try.prog w' = .ok (.int .i64 z) w' := by
        have hk4 : k = 0 ∨ k = 1 ∨ k = 2 ∨ k = 3 := by omega
        rcases hk4 with rfl | rfl | rfl | rfl
        · exact ⟨r0, fun w' => by rfl⟩
        · exact ⟨r1, fun w' => by rfl⟩
        · exact ⟨r2, fun w' => by rfl⟩
        · exact ⟨r3, fun w' => by rfl⟩
      go_upto_region 5 with fail
      clear hix HM
      obtain ⟨ds, la, lc, xa, xc, oO, hdl, hdq⟩ := hr.out
      have HD := Lib.hid (And.intro hdl hdq)
      obtain ⟨N, hN⟩ : ∃ N, N = roomOf z := ⟨_, rfl⟩
      have hl1 := lnew_any z wr.drew
      rw [← hN] at hl1
      have hx1 : ∀ w', Calls Try.prog 16 #[.int .i64 z] w' fun r w'' => r = .returned (.agg #[.int .i64 (-1), .slice none 0 0, .int .i64 (N : Int)]) ∧ Below w'.heap.size w' w'' := fun w' => by
        have h := x8new_any z w'
        rw [← hN] at h
        exact h
      have HL := Lib.hid hl1
      have HX := Lib.hid hx1
      have hsc : ∀ (wx : World) (L : List Asr), Own w wx (CelA wb [.slice la k lc, .pointer (some ⟨b, 0, none⟩), .slice xa k xc, .slice none 0 0, .int .i64 0, .slice none 0 0] :: L) → (wx.cell? ⟨wb, 0, none⟩ = some (.slice la k lc) ∧ wx.cell? ⟨wb, 2, none⟩ = some (.slice xa k xc)) := fun wx L h => ⟨(h.cel 0 rfl 0 _ rfl).1, (h.cel 0 rfl 2 _ rfl).1⟩
      have SC := Lib.hid hsc
      have O1 := Lib.hid (oO.step (below_drew1 wr))
      clear oO hdl hdq hN hl1 hx1 hsc hr
      refine wp_region_lexY (fun wx => wx.cell? ⟨wb, 0, none⟩ = some (.slice la k lc) ∧ wx.cell? ⟨wb, 2, none⟩ = some (.slice xa k xc)) 20 24 (Array.replicate 24 false) (by kernel_rfl) (by kernel_rfl) ?_
      refine wpAnyY_segT 0 5 _ #[true, true, true, true, true, false, false, false, false, false, false, false, false, false, false, false, false, false, false, false, false, false, false, false] 19 (by kernel_rfl) noPanic_put (by kernel_rfl) ?_
      simp only [List.take_succ_cons, List.take_zero, List.drop_zero]
      repeat (first
        | (refine wpSegH_no (by rfl) ?_; simp only [Act.put, List.setIfInBounds_toArray, List.set_cons_zero, List.set_cons_succ])
        | (refine wpSegH_yes (by rfl) ?_; apply Exists.intro; apply And.intro; (· (intro wx hS; (try dsimp only at hS); go_simp; first | done | with_reducible rfl)); simp only [Act.put, List.setIfInBounds_toArray, List.set_cons_zero, List.set_cons_succ]))
      refine wpSegH_nil ?_
      refine wpAnyY_seg 5 1 _ #[true, true, true, true, true, true, false, false, false, false, false, false, false, false, false, false, false, false, false, false, false, false, false, false] 18 (by kernel_rfl) noPanic_put (SC.out _ _ O1.out) (by kernel_rfl) ?_
      simp only [List.take_succ_cons, List.take_zero, List.drop_succ_cons, List.drop_zero]
      repeat (first
        | (refine wpSegH_no (by rfl) ?_; simp only [Act.put, List.setIfInBounds_toArray, List.set_cons_zero, List.set_cons_succ])
        | (refine wpSegH_yes (by rfl) ?_; apply Exists.intro; apply And.intro; (· (intro wx hS; (try dsimp only at hS); go_simp; first | done | with_reducible rfl)); simp only [Act.put, List.setIfInBounds_toArray, List.set_cons_zero, List.set_cons_succ]))
      refine wpSegH_nil ?_
      refine wpAnyY_segT 6 1 _ #[true, true, true, true, true, true, true, false, false, false, false, false, false, false, false, false, false, false, false, false, false, false, false, false] 17 (by kernel_rfl) noPanic_put (by kernel_rfl) ?_
      simp only [List.take_succ_cons, List.take_zero, List.drop_succ_cons, List.drop_zero]
      repeat (first
        | (refine wpSegH_no (by rfl) ?_; simp only [Act.put, List.setIfInBounds_toArray, List.set_cons_zero, List.set_cons_succ])
        | (refine wpSegH_yes (by rfl) ?_; apply Exists.intro; apply And.intro; (· (intro wx hS; (try dsimp only at hS); go_simp; first | done | with_reducible rfl)); simp only [Act.put, List.setIfInBounds_toArray, List.set_cons_zero, List.set_cons_succ]))
      refine wpSegH_nil ?_
      refine wpAnyY_segT 10 3 _ #[true, true, true, true, true, true, true, false, false, false, true, true, true, false, false, false, false, false, false, false, false, false, false, false] 14 (by kernel_rfl) noPanic_put (by kernel_rfl) ?_
      simp only [List.take_succ_cons, List.take_zero, List.drop_succ_cons, List.drop_zero]
      repeat (first
        | (refine wpSegH_no (by rfl) ?_; simp only [Act.put, List.setIfInBounds_toArray, List.set_cons_zero, List.set_cons_succ])
        | (refine wpSegH_yes (by rfl) ?_; apply Exists.intro; apply And.intro; (· (intro wx hS; (try dsimp only at hS); go_simp; first | done | with_reducible rfl)); simp only [Act.put, List.setIfInBounds_toArray, List.set_cons_zero, List.set_cons_succ]))
      refine wpSegH_nil ?_
      refine wpAnyY_seg 13 1 _ #[true, true, true, true, true, true, true, false, false, false, true, true, true, true, false, false, false, false, false, false, false, false, false, false] 13 (by kernel_rfl) noPanic_put (SC.out _ _ O1.out) (by kernel_rfl) ?_
      simp only [List.take_succ_cons, List.take_zero, List.drop_succ_cons, List.drop_zero]
      repeat (first
        | (refine wpSegH_no (by rfl) ?_; simp only [Act.put, List.setIfInBounds_toArray, List.set_cons_zero, List.set_cons_succ])
        | (refine wpSegH_yes (by rfl) ?_; apply Exists.intro; apply And.intro; (· (intro wx hS; (try dsimp only at hS); go_simp; first | done | with_reducible rfl)); simp only [Act.put, List.setIfInBounds_toArray, List.set_cons_zero, List.set_cons_succ]))
      refine wpSegH_nil ?_
      refine wpAnyY_segT 14 1 _ #[true, true, true, true, true, true, true, false, false, false, true, true, true, true, true, false, false, false, false, false, false, false, false, false] 12 (by kernel_rfl) noPanic_put (by kernel_rfl) ?_
      simp only [List.take_succ_cons, List.take_zero, List.drop_succ_cons, List.drop_zero]
      repeat (first
        | (refine wpSegH_no (by rfl) ?_; simp only [Act.put, List.setIfInBounds_toArray, List.set_cons_zero, List.set_cons_succ])
        | (refine wpSegH_yes (by rfl) ?_; apply Exists.intro; apply And.intro; (· (intro wx hS; (try dsimp only at hS); go_simp; first | done | with_reducible rfl)); simp only [Act.put, List.setIfInBounds_toArray, List.set_cons_zero, List.set_cons_succ]))
      refine wpSegH_nil ?_
      refine wpAnyY_one 7 _ #[true, true, true, true, true, true, true, true, false, false, true, true, true, true, true, false, false, false, false, false, false, false, false, false] 11 (by kernel_rfl) (fun K hK => ?_)
      have HKK := Lib.hid hK
      clear hK
      simp only [List.drop_succ_cons, List.drop_zero]
      refine headH_mk (by rfl) ?_
      go_simp
      refine HL.out.mono ?_
      rintro r w2 ⟨p, g, rfl, hL, hp, hg, hB⟩
      have o2 := O1.out.add hB (A := locA ⟨p, g, N, ⟨none, []⟩, none, 0⟩) (F := [p, g]) ⟨rfl, hL⟩ (fun x hx => by simp at hx; rcases hx with rfl | rfl <;> assumption)
      refine HKK.out _ _ (SC.out _ _ (o2.pick 1 rfl)) ?_
      clear HKK K
      have o3 := o2.step (below_alloc1 w2 (.cells #[.pointer (some ⟨p, 0, none⟩)] 38))
      have O3 := Lib.hid o3
      clear o2 hL hp hg hB HL
      refine wpAnyY_one 8 _ #[true, true, true, true, true, true, true, true, true, false, true, true, true, true, true, false, false, false, false, false, false, false, false, false] 10 (by kernel_rfl) (fun K hK => ?_)
      have HKK := Lib.hid hK
      clear hK
      simp only [List.drop_succ_cons, List.drop_zero]
      refine headH_mk (by rfl) ?_
      go_simp
      refine HKK.out _ _ (SC.out _ _ (O3.out.pick 1 rfl)) ?_
      clear HKK K
      refine wpAnyY_one 9 _ #[true, true, true, true, true, true, true, true, true, true, true, true, true, true, true, false, false, false, false, false, false, false, false, false] 9 (by kernel_rfl) (fun K hK => ?_)
      have HKK := Lib.hid hK
      clear hK
      simp only [List.drop_succ_cons, List.drop_zero]
      refine headH_mk (by rfl) ?_
      refine wp_append_rowG (s := 1) (n := k) (m := 1) (cs := lptr ds) (ds := [.pointer (some ⟨p, 0, none⟩)]) _ _ 32 (by rfl) 38 n0 _ Try.underlying32 Pi.out Pz0.out Pz1.out Pz2.out rfl (by omega) (by omega) (by rfl) (by rfl) (O3.out.rowG 2 rfl) (CellsAt.new w2 [.pointer (some ⟨p, 0, none⟩)] _ rfl) (by rfl) (fun u hu => by rw [List.mem_singleton.1 hu]; rfl) (by omega) ?_
      intro a4 c4 w4 k4 ch4 f4
      have O5 := Lib.hid (Own.rowTurn (O3.out.pick 2 rfl) k4 ch4 f4)
      clear O3 k4 ch4 f4
      refine HKK.out _ _ (SC.out _ _ (O5.out.pick 2 rfl)) ?_
      clear HKK K
      refine wpAnyY_one 15 _ #[true, true, true, true, true, true, true, true, true, true, true, true, true, true, true, true, false, false, false, false, false, false, false, false] 8 (by kernel_rfl) (fun K hK => ?_)
      have HKK := Lib.hid hK
      clear hK
      simp only [List.drop_succ_cons, List.drop_zero]
      refine headH_mk (by rfl) ?_
      go_simp
      refine (HX.out w4).mono ?_
      rintro r w5 ⟨rfl, hB5⟩
      have o6 := O5.out.step hB5
      refine HKK.out _ _ (SC.out _ _ (o6.pick 2 rfl)) ?_
      clear HKK K
      have O7 := Lib.hid (o6.step (below_alloc1 w5 (.cells #[.int .i64 (-1), .slice none 0 0, .int .i64 (N : Int)] 48)))
      clear o6 hB5 O5
      refine wpAnyY_one 16 _ #[true, true, true, true, true, true, true, true, true, true, true, true, true, true, true, true, true, false, false, false, false, false, false, false] 7 (by kernel_rfl) (fun K hK => ?_)
      have HKK := Lib.hid hK
      clear hK
      simp only [List.drop_succ_cons, List.drop_zero]
      refine headH_mk (by rfl) ?_
      go_simp
      refine HKK.out _ _ (SC.out _ _ (O7.out.pick 2 rfl)) ?_
      clear HKK K
      refine wpAnyY_one 17 _ #[true, true, true, true, true, true, true, true, true, true, true, true, true, true, true, true, true, true, false, false, false, false, false, false] 6 (by kernel_rfl) (fun K hK => ?_)
      have HKK := Lib.hid hK
      clear hK
      simp only [List.drop_succ_cons, List.drop_zero]
      refine headH_mk (by rfl) ?_
      refine wp_append_rowG (s := 3) (n := k) (m := 1) (cs := xcs ds) (ds := [.int .i64 (-1), .slice none 0 0, .int .i64 (N : Int)]) _ _ 34 (by rfl) 48 m0 _ Try.underlying34 Xi.out Xz0.out Xz1.out Xz2.out rfl (by omega) (by omega) (by rfl) (by rfl) (O7.out.rowG 4 rfl) (CellsAt.new w5 [.int .i64 (-1), .slice none 0 0, .int .i64 (N : Int)] _ rfl) (by rfl) (fun u hu => by simp at hu; rcases hu with rfl | rfl | rfl <;> rfl) (by omega) ?_
      intro a8 c8 w8 k8 ch8 f8
      have o9 := Own.rowTurn (O7.out.pick 4 rfl) k8 ch8 f8
      obtain ⟨y0, g0⟩ := o9.cel 3 rfl 0 _ rfl
      have O10 := Lib.hid ((o9.pick 3 rfl).set 0 (.slice a4 (k + 1) c4))
      refine HKK.out _ _ (SC.out _ _ (o9.pick 3 rfl)) ?_
      clear HKK K
      clear o9 k8 ch8 f8 O7 SC O1 HX
      refine wpAnyY_segT 18 2 _ #[true, true, true, true, true, true, true, true, true, true, true, true, true, true, true, true, true, true, true, true, false, false, false, false] 4 (by kernel_rfl) noPanic_put (by kernel_rfl) ?_
      simp only [List.take_succ_cons, List.take_zero, List.drop_succ_cons, List.drop_zero]
      repeat (first
        | (refine wpSegH_no (by rfl) ?_; simp only [Act.put, List.setIfInBounds_toArray, List.set_cons_zero, List.set_cons_succ])
        | (refine wpSegH_yes (by rfl) ?_; apply Exists.intro; apply And.intro; (· (intro wx hS; (try dsimp only at hS); go_simp; first | done | with_reducible rfl)); simp only [Act.put, List.setIfInBounds_toArray, List.set_cons_zero, List.set_cons_succ]))
      refine wpSegH_nil ?_
      refine wpAnyY_late 20 _ #[true, true, true, true, true, true, true, true, true, true, true, true, true, true, true, true, true, true, true, true, true, false, false, false] 3 (by kernel_rfl) (fun K hK => ?_)
      have HKK := Lib.hid hK
      clear hK
      simp only [List.drop_succ_cons, List.drop_zero]
      refine headH_mk (by rfl) ?_
      go_simp
      refine HKK.out _ _ ?_
      clear HKK K
      generalize w8.setCell ⟨wb, 0, none⟩ (.slice a4 (k + 1) c4) = W9 at *
      clear y0 g0
      obtain ⟨y2, g2⟩ := O10.out.cel 0 rfl 2 _ rfl
      have O11 := Lib.hid (O10.out.set 2 (.slice a8 (k + 1) c8))
      clear O10
      refine wpAnyY_late 21 _ #[true, true, true, true, true, true, true, true, true, true, true, true, true, true, true, true, true, true, true, true, true, true, false, false] 2 (by kernel_rfl) (fun K hK => ?_)
      have HKK := Lib.hid hK
      clear hK
      simp only [List.drop_succ_cons, List.drop_zero]
      refine headH_mk (by rfl) ?_
      go_simp
      refine HKK.out _ _ ?_
      clear HKK K
      refine wpAnyY_late 22 _ #[true, true, true, true, true, true, true, true, true, true, true, true, true, true, true, true, true, true, true, true, true, true, true, false] 1 (by kernel_rfl) (fun K hK => ?_)
      have HKK := Lib.hid hK
      clear hK
      simp only [List.drop_succ_cons, List.drop_zero]
      refine headH_mk (by rfl) ?_
      go_simp
      refine HKK.out _ _ ?_
      clear HKK K
      refine wpAnyY_late 23 _ #[true, true, true, true, true, true, true, true, true, true, true, true, true, true, true, true, true, true, true, true, true, true, true, true] 0 (by kernel_rfl) (fun K hK => ?_)
      have HKK := Lib.hid hK
      clear hK
      simp only [List.drop_succ_cons, List.drop_zero]
      refine headH_mk (by rfl) ?_
      go_simp
      refine HKK.out _ _ ?_
      clear HKK K
      refine wpAnyY_done (by kernel_rfl) (NoPanic.normal ?_) _
      generalize W9.setCell ⟨wb, 2, none⟩ (.slice a8 (k + 1) c8) = W10 at *
      clear y2 g2
      have hfin : Mk8 w W10 wb b (k + 1) := by
        have h := (((((((O11.out.pick 6 rfl).pick 6 rfl).pick 3 rfl).pick 6 rfl).pick 5 rfl).pick 5 rfl).pick 6 rfl).rot
        refine ⟨ds ++ [⟨p, g, N, ⟨none, []⟩, none, 0⟩], a4, c4, a8, c8, ?_, by rw [List.length_append, HD.out.1]; rfl, fun d hd => ?_⟩
        · rw [show lptr (ds ++ [⟨p, g, N, ⟨none, []⟩, none, 0⟩]) = lptr ds ++ [.pointer (some ⟨p, 0, none⟩)] by unfold lptr; rw [List.map_append]; rfl,
            show xcs (ds ++ [⟨p, g, N, ⟨none, []⟩, none, 0⟩]) = xcs ds ++ [.int .i64 (-1), .slice none 0 0, .int .i64 (N : Int)] by unfold xcs; rw [List.flatMap_append]; rfl,
            show locs (ds ++ [⟨p, g, N, ⟨none, []⟩, none, 0⟩]) = locs ds ++ [locA ⟨p, g, N, ⟨none, []⟩, none, 0⟩] by unfold locs; rw [List.map_append]; rfl]
          exact h
        · rcases List.mem_append.1 hd with h | h
          · exact HD.out.2 d h
          · rw [List.mem_singleton.1 h]; exact ⟨rfl, rfl, rfl⟩
      have HF := Lib.hid hfin
      clear hfin O11
      go_wp2_with fail
      exact ⟨⟨k + 1, by omega, by go_num, HF⟩, by simp [intOf]; omega⟩
    · obtain rfl : k = 4 := by omega
      go_wp2_with fail
      go_ret
      exact ⟨_, _, rfl, hr.out⟩
theorem Mk8.st {w0 w : World} {wb b : Nat} (h : Mk8 w0 w wb b 4) : ∃ ds, St8 w0 w wb b ds [] 0 [] := by
  obtain ⟨ds, la, lc, xa, xc, h1, h2, h3⟩ := h
  refine ⟨ds, la, lc, xa, xc, [(none, 0, [])], none, 0, none, 0, h1, h2, fun d hd => ?_, List.mem_cons_self .., ?_⟩
  · obtain ⟨e1, e2, e3⟩ := h3 d hd
    rw [e1, e2, e3]
    exact List.mem_cons_self ..
  · unfold Inv8 alln
    have h4 : ds.flatMap qn = [] := List.flatMap_eq_nil_iff.2 (fun d hd => by unfold qn; rw [(h3 d hd).1]; rfl)
    rw [h4]
    exact List.Perm.refl _
end Go.Proofs.Ytmldfckeenahlaa
