/-
  The walk of the program's check of one instruction.
-/
import Derived.Test.YtdeilfnfpgjnnaaDoorWCode1
import Derived.LoopTactic
open Go Go.RowKit
set_option linter.unusedVariables false
namespace Go.Proofs.YtdeilfnfpgjnnaaDoor
/-- The table lies in its variable. -/
def ShAt (w : World) : Prop := ∀ k, k < 69 → w.cell? ⟨2, k, none⟩ = some (.int .i64 ((shapeL.getD k 0 : Nat) : Int))
theorem ShAt.below {w w' : World} (h : ShAt w) (hb : Below w.heap.size w w') : ShAt w' := fun k hk => cell_below (h k hk) hb
theorem shape_le (k : Nat) : shapeL.getD k 0 ≤ 10 := by
  by_cases h : k < 69
  · have : ∀ j : Fin 69, shapeL.getD j.val 0 ≤ 10 := by decide
    exact this ⟨k, h⟩
  · rw [List.getD_eq_getElem?_getD, List.getElem?_eq_none (by simp [shapeL]; omega)]; simp
theorem lim11 {p q r s t u v x a b c d : Prop} (h : p ∧ q ∧ r ∧ s ∧ t ∧ u ∧ v ∧ x ∧ a ∧ b ∧ c ∧ d) : d := h.2.2.2.2.2.2.2.2.2.2.2
def rest3 (x y z : Bool) : Nat → Int
  | 0 => if x then if y then if z then 0 else 4 else 4 else 4
  | 1 => if y then if z then 0 else 4 else 4
  | 2 => if z then 0 else 4
  | _ => 0
def IBlk (fa : Option Addr) (nf fc : Nat) (ca : Option Addr) (nc cc : Nat) (lk : Int) (ka : Option Addr) (nk kc : Nat) (k : Nat) (a b c : Int) (f0 f1 f2 : Nat) (s0 : Nat) (w wr : World) : Prop :=
  Blk wr s0 [.slice fa nf fc, .slice ca nc cc, .int .i64 lk, .slice ka nk kc] ∧ Blk wr (s0 + 1) [.int .i64 (k : Int), .int .i64 a, .int .i64 b, .int .i64 c] ∧ Blk wr (s0 + 1 + 1) [.int .i64 (f0 : Int), .int .i64 (f1 : Int), .int .i64 (f2 : Int)] ∧ Below s0 w wr
set_option maxRecDepth 100000 in
set_option maxHeartbeats 4000000 in
theorem checkIns_any (fa : Option Addr) (nf fc : Nat) (ca : Option Addr) (nc cc : Nat) (lk : Int) (ka : Option Addr) (nk kc : Nat) (o a b c : Int) (n : Nat) (w : World) (hg : ShAt w) (h1 : nf ≤ 1000) (h2 : nc ≤ 1000) (h3 : nk ≤ 1000) (h4 : 0 ≤ lk ∧ lk ≤ 1000) (h5 : n ≤ 1000) :
    Calls Tryd.prog 46 #[pv fa nf fc ca nc cc lk ka nk kc, .agg #[.int .i64 o, .int .i64 a, .int .i64 b, .int .i64 c], .int .i64 (n : Int)] w
      fun e w' => e = .returned (.int .i64 (insI nf nc nk lk n (o, a, b, c))) ∧ Below w.heap.size w w' := by
  have hi : insI nf nc nk lk n (o, a, b, c) = if wit o 0 22 then
    if wit a (loh (shapeL.getD (o.toNat * 3) 0) nf nc nk lk a n).1 (loh (shapeL.getD (o.toNat * 3) 0) nf nc nk lk a n).2 then
      if wit b (loh (shapeL.getD (o.toNat * 3 + 1) 0) nf nc nk lk a n).1 (loh (shapeL.getD (o.toNat * 3 + 1) 0) nf nc nk lk a n).2 then
        if wit c (loh (shapeL.getD (o.toNat * 3 + 2) 0) nf nc nk lk a n).1 (loh (shapeL.getD (o.toNat * 3 + 2) 0) nf nc nk lk a n).2 then 0 else 4
      else 4
    else 4
  else 9 := rfl
  generalize insI nf nc nk lk n (o, a, b, c) = r at hi ⊢
  have HB := fun f hf W => bounds_any f hf fa nf fc ca nc cc lk ka nk kc o a b c n W h1 h2 h3 h4 h5
  unfold pv at *
  by_cases ho : wit o 0 22 = true
  · rw [if_pos ho] at hi
    have ho2 : 0 ≤ o ∧ o ≤ 22 := by unfold wit at ho; simp at ho; exact ho
    obtain ⟨k, rfl⟩ : ∃ k : Nat, o = (k : Int) := ⟨o.toNat, by omega⟩
    rw [Int.toNat_natCast] at hi
    have k1 := hg (k * 3) (by omega)
    have k2 := hg (k * 3 + 1) (by omega)
    have k3 := hg (k * 3 + 2) (by omega)
    have g1 := shape_le (k * 3)
    have g2 := shape_le (k * 3 + 1)
    have g3 := shape_le (k * 3 + 2)
    generalize shapeL.getD (k * 3) 0 = f0 at *
    generalize shapeL.getD (k * 3 + 1) 0 = f1 at *
    generalize shapeL.getD (k * 3 + 2) 0 = f2 at *
    have hk23 : (k : Int) < 23 := by omega
    have hk0 : (0 : Int) ≤ (k : Int) := by omega
    have hd0 : w.heap.size ≠ 0 := by
      intro h0
      have : (2 : Nat) < w.heap.size := World.block_lt_of_cell? w _ k1
      omega
    obtain ⟨p0, hp0⟩ : ∃ p, wit a (loh f0 nf nc nk lk a n).1 (loh f0 nf nc nk lk a n).2 = p := ⟨_, rfl⟩
    obtain ⟨p1, hp1⟩ : ∃ p, wit b (loh f1 nf nc nk lk a n).1 (loh f1 nf nc nk lk a n).2 = p := ⟨_, rfl⟩
    obtain ⟨p2, hp2⟩ : ∃ p, wit c (loh f2 nf nc nk lk a n).1 (loh f2 nf nc nk lk a n).2 = p := ⟨_, rfl⟩
    rw [hp0, hp1, hp2] at hi
    have hi0 : r = rest3 p0 p1 p2 0 := hi
    have HP0 := Lib.hid hp0
    have HP1 := Lib.hid hp1
    have HP2 := Lib.hid hp2
    have HI := Lib.hid hi0
    have HO := Lib.hid ho
    have K1 := Lib.hid k1
    have K2 := Lib.hid k2
    have K3 := Lib.hid k3
    have hS : IBlk fa nf fc ca nc cc lk ka nk kc k a b c f0 f1 f2 w.heap.size w (((w.alloc (.cells #[.slice fa nf fc, .slice ca nc cc, .int .i64 lk, .slice ka nk kc] 33)).alloc (.cells #[.int .i64 (k : Int), .int .i64 a, .int .i64 b, .int .i64 c] 62)).alloc (.cells #[.int .i64 (f0 : Int), .int .i64 (f1 : Int), .int .i64 (f2 : Int)] 110)) :=
      ⟨((Blk.mk w _ _ _ rfl).below (below_alloc1 _ _)).below (below_alloc1 _ _), (Blk.mk _ _ _ _ (by simp)).below (below_alloc1 _ _), Blk.mk _ _ _ _ (by simp), ((below_alloc1 _ _).alloc (by simp) _).alloc (by simp; omega) _⟩
    have HB := Lib.hid HB
    obtain ⟨s0, hs0⟩ : ∃ s0, s0 = w.heap.size := ⟨_, rfl⟩
    rw [← hs0] at hS hd0
    have HS : Hid (r = rest3 p0 p1 p2 0 ∧ IBlk fa nf fc ca nc cc lk ka nk kc k a b c f0 f1 f2 s0 w _) := Lib.hid ⟨hi0, hS⟩
    have HW := Lib.hid hs0
    clear hi hi0 ho ho2 k1 k2 k3 hg hp0 hp1 hp2 hS hs0
    have i0 : ∀ w, (Instr.index 64 (.agg #[.int .i64 a, .int .i64 b, .int .i64 c]) (.int .i64 0)).run Tryd.prog w = .ok (.int .i64 a) w := fun _ => by kernel_rfl
    have i1 : ∀ w, (Instr.index 64 (.agg #[.int .i64 a, .int .i64 b, .int .i64 c]) (.int .i64 1)).run Tryd.prog w = .ok (.int .i64 b) w := fun _ => by kernel_rfl
    have i2 : ∀ w, (Instr.index 64 (.agg #[.int .i64 a, .int .i64 b, .int .i64 c]) (.int .i64 2)).run Tryd.prog w = .ok (.int .i64 c) w := fun _ => by kernel_rfl
    go_enter Tryd.func46, Tryd.ntmps46
    go_wp2_with fail
    refine (within_any _ _ _ _).mono ?_
    rintro e w1 ⟨rfl, rfl⟩
    rw [HO.out]
    have k1' : ∀ p q, ((w.alloc p).alloc q).cell? ⟨2, k * 3, none⟩ = some (.int .i64 (f0 : Int)) := fun p q => cell_below (cell_below K1.out (below_alloc1 _ _)) (below_alloc1 _ _)
    have k2' : ∀ p q, ((w.alloc p).alloc q).cell? ⟨2, k * 3 + 1, none⟩ = some (.int .i64 (f1 : Int)) := fun p q => cell_below (cell_below K2.out (below_alloc1 _ _)) (below_alloc1 _ _)
    have k3' : ∀ p q, ((w.alloc p).alloc q).cell? ⟨2, k * 3 + 2, none⟩ = some (.int .i64 (f2 : Int)) := fun p q => cell_below (cell_below K3.out (below_alloc1 _ _)) (below_alloc1 _ _)
    go_wp2_with fail
    rw [← HW.out]
    go_loopw [27] (fun s wr => ∃ i : Nat, i ≤ 3 ∧ s = .int .i64 (i : Int) ∧ Hid (r = rest3 p0 p1 p2 i ∧ IBlk fa nf fc ca nc cc lk ka nk kc k a b c f0 f1 f2 s0 w wr)) (fun s _ => 3 - (intOf s).toNat)
    case atStart => exact ⟨0, by omega, rfl, HS⟩
    case round =>
      obtain ⟨i, hi3, rfl, hr⟩ := hrel
      obtain ⟨hr1, hr2, hr3, hr4, hr5⟩ := hr.out
      have hk : ∀ w', Below wr.heap.size wr w' → w'.cell? ⟨s0, 0, none⟩ = some (.slice fa nf fc) ∧ w'.cell? ⟨s0, 1, none⟩ = some (.slice ca nc cc) ∧ w'.cell? ⟨s0, 2, none⟩ = some (.int .i64 lk) ∧ w'.cell? ⟨s0, 3, none⟩ = some (.slice ka nk kc) ∧
          w'.cell? ⟨s0 + 1, 0, none⟩ = some (.int .i64 (k : Int)) ∧ w'.cell? ⟨s0 + 1, 1, none⟩ = some (.int .i64 a) ∧ w'.cell? ⟨s0 + 1, 2, none⟩ = some (.int .i64 b) ∧ w'.cell? ⟨s0 + 1, 3, none⟩ = some (.int .i64 c) ∧
          w'.cell? ⟨s0 + 1 + 1, 0, none⟩ = some (.int .i64 (f0 : Int)) ∧ w'.cell? ⟨s0 + 1 + 1, 1, none⟩ = some (.int .i64 (f1 : Int)) ∧ w'.cell? ⟨s0 + 1 + 1, 2, none⟩ = some (.int .i64 (f2 : Int)) ∧ Below wr.heap.size wr w' := fun w' hb =>
        ⟨((hr2.below hb) 0 _ rfl).1, ((hr2.below hb) 1 _ rfl).1, ((hr2.below hb) 2 _ rfl).1, ((hr2.below hb) 3 _ rfl).1, ((hr3.below hb) 0 _ rfl).1, ((hr3.below hb) 1 _ rfl).1, ((hr3.below hb) 2 _ rfl).1, ((hr3.below hb) 3 _ rfl).1, ((hr4.below hb) 0 _ rfl).1, ((hr4.below hb) 1 _ rfl).1, ((hr4.below hb) 2 _ rfl).1, hb⟩
      have HK := Lib.hid hk
      have hnext : ∀ w', Below wr.heap.size wr w' → IBlk fa nf fc ca nc cc lk ka nk kc k a b c f0 f1 f2 s0 w w' := fun w' hb => ⟨hr2.below hb, hr3.below hb, hr4.below hb, hr5.trans (hb.mono (Nat.le_of_lt (hr2.lt (by simp))))⟩
      have HN := Lib.hid hnext
      have HR := Lib.hid hr1
      clear hk hnext hr1 hr2 hr3 hr4 hr5 hr
      have hi4 : i = 0 ∨ i = 1 ∨ i = 2 ∨ i = 3 := by omega
      rcases hi4 with rfl | rfl | rfl | rfl
      · go_wp2_with fail
        go_region_held3 (fun w' => w'.cell? ⟨s0, 0, none⟩ = some (.slice fa nf fc) ∧ w'.cell? ⟨s0, 1, none⟩ = some (.slice ca nc cc) ∧ w'.cell? ⟨s0, 2, none⟩ = some (.int .i64 lk) ∧ w'.cell? ⟨s0, 3, none⟩ = some (.slice ka nk kc) ∧ w'.cell? ⟨s0 + 1, 0, none⟩ = some (.int .i64 (k : Int)) ∧ w'.cell? ⟨s0 + 1, 1, none⟩ = some (.int .i64 a) ∧ w'.cell? ⟨s0 + 1, 2, none⟩ = some (.int .i64 b) ∧ w'.cell? ⟨s0 + 1, 3, none⟩ = some (.int .i64 c) ∧ w'.cell? ⟨s0 + 1 + 1, 0, none⟩ = some (.int .i64 (f0 : Int)) ∧ w'.cell? ⟨s0 + 1 + 1, 1, none⟩ = some (.int .i64 (f1 : Int)) ∧ w'.cell? ⟨s0 + 1 + 1, 2, none⟩ = some (.int .i64 (f2 : Int)) ∧ Below wr.heap.size wr w')
          ((refine HK.out _ ?_; repeat (first | exact Below.refl _ _ | exact lim11 (by assumption) | refine below_on ?_ hb5 | refine Below.drew ?_ | refine below_drewN ?_ _)))
          (first
            | (go_at_call 53; refine (HB.out f0 g1 _).mono ?_; rintro e w5 ⟨rfl, hb5⟩))
        rename_i hHeld
        have HF := Lib.hid (HN.out _ (lim11 hHeld))
        clear hHeld hb5
        go_wp2_with fail
        refine (within_any _ _ _ _).mono ?_
        rintro e w1 ⟨rfl, rfl⟩
        rw [HP0.out]
        cases p0
        · go_wp2_with fail
          go_ret
          exact ⟨congrArg (fun x => Ending.returned (.int .i64 x)) HR.out.symm, HW.out ▸ HF.out.2.2.2⟩
        · go_wp2_with fail
          exact ⟨⟨1, by omega, by go_num, Lib.hid ⟨HR.out, HF.out⟩⟩, by simp [intOf]⟩
      · go_wp2_with fail
        go_region_held3 (fun w' => w'.cell? ⟨s0, 0, none⟩ = some (.slice fa nf fc) ∧ w'.cell? ⟨s0, 1, none⟩ = some (.slice ca nc cc) ∧ w'.cell? ⟨s0, 2, none⟩ = some (.int .i64 lk) ∧ w'.cell? ⟨s0, 3, none⟩ = some (.slice ka nk kc) ∧ w'.cell? ⟨s0 + 1, 0, none⟩ = some (.int .i64 (k : Int)) ∧ w'.cell? ⟨s0 + 1, 1, none⟩ = some (.int .i64 a) ∧ w'.cell? ⟨s0 + 1, 2, none⟩ = some (.int .i64 b) ∧ w'.cell? ⟨s0 + 1, 3, none⟩ = some (.int .i64 c) ∧ w'.cell? ⟨s0 + 1 + 1, 0, none⟩ = some (.int .i64 (f0 : Int)) ∧ w'.cell? ⟨s0 + 1 + 1, 1, none⟩ = some (.int .i64 (f1 : Int)) ∧ w'.cell? ⟨s0 + 1 + 1, 2, none⟩ = some (.int .i64 (f2 : Int)) ∧ Below wr.heap.size wr w')
          ((refine HK.out _ ?_; repeat (first | exact Below.refl _ _ | exact lim11 (by assumption) | refine below_on ?_ hb5 | refine Below.drew ?_ | refine below_drewN ?_ _)))
          (first
            | (go_at_call 53; refine (HB.out f1 g2 _).mono ?_; rintro e w5 ⟨rfl, hb5⟩))
        rename_i hHeld
        have HF := Lib.hid (HN.out _ (lim11 hHeld))
        clear hHeld hb5
        go_wp2_with fail
        refine (within_any _ _ _ _).mono ?_
        rintro e w1 ⟨rfl, rfl⟩
        rw [HP1.out]
        cases p1
        · go_wp2_with fail
          go_ret
          exact ⟨congrArg (fun x => Ending.returned (.int .i64 x)) HR.out.symm, HW.out ▸ HF.out.2.2.2⟩
        · go_wp2_with fail
          exact ⟨⟨2, by omega, by go_num, Lib.hid ⟨HR.out, HF.out⟩⟩, by simp [intOf]⟩
      · go_wp2_with fail
        go_region_held3 (fun w' => w'.cell? ⟨s0, 0, none⟩ = some (.slice fa nf fc) ∧ w'.cell? ⟨s0, 1, none⟩ = some (.slice ca nc cc) ∧ w'.cell? ⟨s0, 2, none⟩ = some (.int .i64 lk) ∧ w'.cell? ⟨s0, 3, none⟩ = some (.slice ka nk kc) ∧ w'.cell? ⟨s0 + 1, 0, none⟩ = some (.int .i64 (k : Int)) ∧ w'.cell? ⟨s0 + 1, 1, none⟩ = some (.int .i64 a) ∧ w'.cell? ⟨s0 + 1, 2, none⟩ = some (.int .i64 b) ∧ w'.cell? ⟨s0 + 1, 3, none⟩ = some (.int .i64 c) ∧ w'.cell? ⟨s0 + 1 + 1, 0, none⟩ = some (.int .i64 (f0 : Int)) ∧ w'.cell? ⟨s0 + 1 + 1, 1, none⟩ = some (.int .i64 (f1 : Int)) ∧ w'.cell? ⟨s0 + 1 + 1, 2, none⟩ = some (.int .i64 (f2 : Int)) ∧ Below wr.heap.size wr w')
          ((refine HK.out _ ?_; repeat (first | exact Below.refl _ _ | exact lim11 (by assumption) | refine below_on ?_ hb5 | refine Below.drew ?_ | refine below_drewN ?_ _)))
          (first
            | (go_at_call 53; refine (HB.out f2 g3 _).mono ?_; rintro e w5 ⟨rfl, hb5⟩))
        rename_i hHeld
        have HF := Lib.hid (HN.out _ (lim11 hHeld))
        clear hHeld hb5
        go_wp2_with fail
        refine (within_any _ _ _ _).mono ?_
        rintro e w1 ⟨rfl, rfl⟩
        rw [HP2.out]
        cases p2
        · go_wp2_with fail
          go_ret
          exact ⟨congrArg (fun x => Ending.returned (.int .i64 x)) HR.out.symm, HW.out ▸ HF.out.2.2.2⟩
        · go_wp2_with fail
          exact ⟨⟨3, by omega, by go_num, Lib.hid ⟨HR.out, HF.out⟩⟩, by simp [intOf]⟩
      · go_wp2_with fail
        go_ret
        exact ⟨congrArg (fun x => Ending.returned (.int .i64 x)) HR.out.symm, HW.out ▸ (HN.out _ (Below.refl _ _)).2.2.2⟩
  · have ho' : wit o 0 22 = false := by simpa using ho
    rw [if_neg ho] at hi
    subst hi
    have HO := Lib.hid ho'
    clear ho ho'
    go_enter Tryd.func46, Tryd.ntmps46
    go_wp2_with fail
    refine (within_any _ _ _ _).mono ?_
    rintro e w1 ⟨rfl, rfl⟩
    rw [HO.out]
    go_wp2_with fail
    go_ret
    refine ⟨rfl, ?_⟩
    repeat (first | exact Below.refl _ _ | refine Below.drew ?_ | refine below_drewN ?_ _ | exact (Below.refl _ _).alloc (by simp) _ | refine Below.alloc ?_ (by simp) _)
end Go.Proofs.YtdeilfnfpgjnnaaDoor
