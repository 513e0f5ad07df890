/-
  Locks: Same.
-/
import Derived.Test.YthfleeimhnenpaaWLk3
open Go Go.RowKit
set_option linter.unusedVariables false
namespace Go.Proofs.Ythfleeimhnenpaa
set_option maxRecDepth 100000 in
set_option maxHeartbeats 4000000 in
theorem ksame_any (w : World) (p : Nat) (L : List Int) (F : List Nat) (a : Option Addr) (n c : Nat) (h : LockAt w p L F) (hn : n = L.length) (hi : IntsAt w a L) (hl : L.length ≤ 1000000) :
    Calls Try.prog 31 #[.pointer (some ⟨p, 0, none⟩), zv a n c] w fun r w' => r = .returned (.int .i64 0) ∧ Below w.heap.size w w' := by
  unfold zv
  obtain ⟨s0, hs0⟩ : ∃ s0, s0 = w.heap.size := ⟨_, rfl⟩
  have hO : Own w (w.alloc (.cells #[.slice a n c] 63)) [CelA s0 [.slice a n c]] := (Own.nil (Below.refl _ _)).alloc [.slice a n c] _ hs0
  have HO := Lib.hid hO
  have H := Lib.hid (h.chg (Chg.of_below (F := []) hO.bel) (by simp))
  have HI := Lib.hid (hi.below hO.bel)
  clear h hO
  cases L with
  | nil =>
    obtain rfl : n = 0 := hn
    clear hi
    go_enter Try.func31, Try.ntmps31
    go_wp2_with fail
    refine (kwaits_any _ p [] F H.out (by simp)).mono ?_
    rintro r w1 ⟨a', c', rfl, k1, k2, b1⟩
    rw [← hs0]
    obtain ⟨g0, -⟩ := (HO.out.step b1).cel 0 rfl 0 _ rfl
    have H1 := Lib.hid (H.out.chg (Chg.of_below (F := []) b1) (by simp))
    have B1 := Lib.hid (HO.out.step b1).bel
    simp only [List.tail_nil, List.length_nil]
    clear k1 k2 b1 hs0
    go_wp2_with fail
    refine (kowner_any _ p [] F H1.out).mono ?_
    rintro r w2 ⟨rfl, rfl⟩
    simp only [List.headD_nil]
    have hb := B1.out
    go_wp2
    go_ret
    exact ⟨rfl, hb⟩
  | cons x t =>
    have hnl := Lib.hid (show n = t.length + 1 from hn)
    have ht : t.length ≤ 1000000 := by simp at hl; omega
    clear hn hi
    go_enter Try.func31, Try.ntmps31
    go_wp2_with fail
    refine (kwaits_any _ p (x :: t) F H.out hl).mono ?_
    rintro r w1 ⟨a', c', rfl, k1, k2, b1⟩
    rw [← hs0]
    obtain ⟨g0, -⟩ := (HO.out.step b1).cel 0 rfl 0 _ rfl
    have H1 := Lib.hid (H.out.chg (Chg.of_below (F := []) b1) (by simp))
    have B1 := Lib.hid (HO.out.step b1).bel
    have K := Lib.hid k1.ints
    have KI := Lib.hid (HI.out.below b1)
    simp only [List.tail_cons] at K ⊢
    clear k1 k2 b1 hs0 hl H HI HO
    obtain ⟨b, off, rfl, e1⟩ := KI.out 0 (by simp)
    simp only [List.getElem_cons_zero, Nat.add_zero] at e1
    obtain ⟨m, hm⟩ : ∃ m, m = t.length := ⟨_, rfl⟩
    have hnl := hnl.out
    rw [← hm] at hnl ht ⊢
    have HM := Lib.hid hm
    clear hm
    have hn0 : ((n : Int) == 0) = false := by rw [beq_eq_false_iff_ne]; omega
    have hnp : (0 : Int) < (n : Int) := by omega
    have hnm : ((m : Int) == (n : Int) - 1) = true := by rw [beq_iff_eq]; omega
    have hnm2 : ((m : Int) != (n : Int) - 1) = false := by rw [bne_eq_false_iff_eq]; omega
    have hnm3 : (n : Int) - 1 = (m : Int) := by omega
    have HNM : Hid (n = m + 1) := Lib.hid hnl
    clear hnl hnm hnm2
    have hnn : n ≤ 1000001 := by have := HNM.out; omega
    go_wp2_with fail
    go_quiet ((go_at_call 32; exact Calls.quiet_of_same ((kowner_any (w1.drewN _) p (x :: t) F (H1.out.chg ((Chg.refl [] _).drewN _) (by simp))).mono (fun r w' h => ⟨h.1, h.2.symm⟩))))
    go_wp2_with fail
    go_loopw [40] (fun iv wr => ∃ i : Nat, i ≤ m ∧ iv = .int .i64 i ∧ wr = w1.drewN nq) (fun iv _ => m - (intOf iv).toNat)
    case atStart => exact ⟨0, by omega, rfl, rfl⟩
    case round =>
      obtain ⟨i, hi, rfl, rfl⟩ := hrel
      by_cases hlt : i < m
      · obtain ⟨b1, o1, rfl, q1⟩ := K.out i (by have := HM.out; omega)
        obtain ⟨b2, o2, hbo, q2⟩ := KI.out (i + 1) (by have := HM.out; simp; omega)
        simp only [Option.some.injEq, Addr.mk.injEq, and_true] at hbo
        obtain ⟨rfl, rfl⟩ := hbo
        simp only [List.getElem_cons_succ] at q2
        generalize t[i]'(by have := HM.out; omega) = v at q1 q2
        have hli : (i : Int) < (m : Int) := by omega
        have hli2 : (i : Int) + 1 < (n : Int) := by have := HNM.out; omega
        go_wp2
        exact ⟨⟨i + 1, by omega, by go_num, trivial⟩, by simp [intOf]; omega⟩
      · have hli : ¬ (i : Int) < (m : Int) := by omega
        have hb : Below w.heap.size w (w1.drewN nq) := below_drewN B1.out nq
        go_wp2
        go_ret
        exact ⟨rfl, hb⟩
end Go.Proofs.Ythfleeimhnenpaa
