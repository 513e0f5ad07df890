/-
  The line of how many locks there are; a case's line.
-/
import Derived.Test.YtdeilfnfpgjnnaaDoorAsW5
open Go Go.RowKit
set_option linter.unusedVariables false
set_option linter.unusedSimpArgs false
namespace Go.Proofs.YtdeilfnfpgjnnaaDoor
def locksM (r : Rd) (q : List Int × Int) : Rd × Int := if q.2 = 0 then (if r.told then (r, 11) else ({ r with lk := x3 q.1 0, told := true }, 0)) else (r, q.2)
set_option maxRecDepth 100000 in
set_option maxHeartbeats 2000000 in
theorem locks_any (b : Nat) (r : Rd) (R : List Asr) (a : Option Addr) (cap : Nat) (ws : List By) (w0 w : World) (hl : ws.length ≤ 100000) (hs : ∀ x ∈ ws, x.length ≤ 100000) (hg : GlA w0) (h : RdAt w0 w b r R) (hat : CellsAt w a (strs ws)) :
    Calls Tryd.prog 31 #[.pointer (some ⟨b, 0, none⟩), .slice a ws.length cap] w fun e w' =>
      e = .returned (.int .i64 (locksM r (numsM ws 1)).2) ∧ RdAt w0 w' b (locksM r (numsM ws 1)).1 R := by
  have HC := Lib.hid (numbers_any ws 1 a cap w (by omega) hl hs (hg.below h.bel) hat)
  obtain ⟨D, hD, ho⟩ := h
  have HO := Lib.hid ho
  have HD := Lib.hid hD
  obtain ⟨c1, c2, c3, hv, hc⟩ := numsV_agg ws 1
  rw [hv] at HC
  unfold locksM
  generalize numsM ws 1 = q at *
  obtain ⟨q1, q2⟩ := q
  generalize ws.length = m at *
  simp only at HC hc ⊢
  clear hat hs hg ho hD hv
  by_cases hq : q2 = 0
  · rw [if_pos hq]
    obtain ⟨e1, e2, e3⟩ := hc hq
    rw [← e1]
    subst hq
    clear hc e1 e2 e3
    by_cases ht : r.told = true
    · rw [if_pos ht]
      have HT := Lib.hid ht
      clear ht
      go_enter Tryd.func31, Tryd.ntmps31
      go_wp2_with fail
      refine HC.out.mono ?_
      rintro e w1 ⟨rfl, hb⟩
      have o1 := HO.out.step hb
      obtain ⟨g, hgg⟩ : ∃ g, g = w1.heap.size := ⟨_, rfl⟩
      have o2 := o1.alloc [.int .i64 c1, .int .i64 c2, .int .i64 c3] 64 (b := g) hgg
      have HO2 := Lib.hid o2
      clear o1 o2 hb HC
      go_upto_region 4 with fail
      rw [← hgg]
      generalize w1.alloc (.cells #[.int .i64 c1, .int .i64 c2, .int .i64 c3] 64) = w2 at *
      clear hgg
      obtain ⟨z4, f4⟩ := HO2.out.cel 1 rfl 4 _ rfl
      rw [HT.out] at z4
      have HR : Hid (RdAt w0 w2 b r R) := Lib.hid ⟨D, HD.out, HO2.out.drop⟩
      go_wp2_with fail
      go_ret
      exact ⟨rfl, HR.out⟩
    · rw [if_neg ht]
      have HT := Lib.hid (show r.told = false by simpa using ht)
      clear ht
      go_enter Tryd.func31, Tryd.ntmps31
      go_wp2_with fail
      refine HC.out.mono ?_
      rintro e w1 ⟨rfl, hb⟩
      have o1 := HO.out.step hb
      obtain ⟨g, hgg⟩ : ∃ g, g = w1.heap.size := ⟨_, rfl⟩
      have o2 := o1.alloc [.int .i64 c1, .int .i64 c2, .int .i64 c3] 64 (b := g) hgg
      have HO2 := Lib.hid o2
      clear o1 o2 hb HC
      go_upto_region 4 with fail
      rw [← hgg]
      generalize w1.alloc (.cells #[.int .i64 c1, .int .i64 c2, .int .i64 c3] 64) = w2 at *
      clear hgg
      obtain ⟨z4, f4⟩ := HO2.out.cel 1 rfl 4 _ rfl
      rw [HT.out] at z4
      obtain ⟨z2, f2⟩ := HO2.out.cel 1 rfl 2 _ rfl
      have z0 := (HO2.out.cel 0 rfl 0 _ rfl).1
      have o5 := ((HO2.out.setAt 1 rfl 2 (.int .i64 c1)).setAt 1 rfl 4 (.bool true)).drop
      have HR : Hid (RdAt w0 ((w2.setCell ⟨b, 2, none⟩ (.int .i64 c1)).setCell ⟨b, 4, none⟩ (.bool true)) b { r with lk := c1, told := true } R) := Lib.hid ⟨D, HD.out, o5⟩
      clear o5
      go_wp2_with fail
      go_ret
      exact ⟨rfl, HR.out⟩
  · rw [if_neg hq]
    have hqb : (q2 == 0) = false := by simpa using hq
    clear hc
    go_enter Tryd.func31, Tryd.ntmps31
    go_wp2_with fail
    refine HC.out.mono ?_
    rintro e w1 ⟨rfl, hb⟩
    have HR : Hid (RdAt w0 ((w1.alloc (.cells #[.int .i64 c1, .int .i64 c2, .int .i64 c3] 64))) b r R) := Lib.hid (RdAt.step ⟨D, HD.out, HO.out⟩ (hb.alloc (by have := hb.size; omega) _))
    go_wp2_with fail
    go_ret
    exact ⟨rfl, HR.out⟩
end Go.Proofs.YtdeilfnfpgjnnaaDoor
