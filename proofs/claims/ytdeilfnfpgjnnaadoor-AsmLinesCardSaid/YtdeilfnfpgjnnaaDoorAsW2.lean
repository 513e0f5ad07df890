/-
  The walks of a number and of numbers.
-/
import Derived.Test.YtdeilfnfpgjnnaaDoorAsW1
import Derived.Test.YtdeilfnfpgjnnaaDoorAsM
import Derived.Lib.AtoiErrMem
import Derived.Lib.LaidTab
import Derived.Deep.CutBlock
open Go Go.RowKit
set_option linter.unusedVariables false
set_option linter.unusedSimpArgs false
namespace Go.Proofs.YtdeilfnfpgjnnaaDoor
def str (l : By) : Value := .string (bs l)
/-- A table of words and numbers, cell by cell. -/
def tabc (l : List (By × Nat)) : List Value := l.flatMap fun x => [str x.1, .int .i64 (x.2 : Int)]
/-- What the packages' variables hold. -/
structure GlA (w : World) : Prop where
  sh : ShAt w
  er : ∃ te pe, w.cell? ⟨10, 0, none⟩ = some (.iface te pe)
  ml : ∃ m, w.cell? ⟨3, 0, none⟩ = some (.int .i64 m)
  pw : Lib.TabIs Tryd.prog w "internal/strconv.uint64pow10" .u64 Lib.pow10Tab
  ca : ∀ j v, (tabc casesL)[j]? = some v → w.cell? ⟨0, j, none⟩ = some v
  op : ∀ j v, (tabc opsL)[j]? = some v → w.cell? ⟨1, j, none⟩ = some v
theorem GlA.below {w w' : World} (h : GlA w) (hb : Below w.heap.size w w') : GlA w' where
  sh := h.sh.below hb
  er := by obtain ⟨te, pe, e⟩ := h.er; exact ⟨te, pe, cell_below e hb⟩
  ml := by obtain ⟨m, e⟩ := h.ml; exact ⟨m, cell_below e hb⟩
  pw := Lib.tabBelow_of_tabIs h.pw w' hb
  ca := fun j v e => cell_below (h.ca j v e) hb
  op := fun j v e => cell_below (h.op j v e) hb
set_option maxRecDepth 100000 in
set_option maxHeartbeats 1000000 in
theorem number_any (l : By) (w : World) (hs : l.length ≤ 100000) (hg : GlA w) :
    Calls Tryd.prog 52 #[.string (bs l)] w fun e w' => e = .returned (.tuple #[.int .i64 (if (numM l).2 = 0 then (numM l).1 else 0), .int .i64 (numM l).2]) ∧ Below w.heap.size w w' := by
  have HH := fun W => hasForm_any l W hs
  by_cases hf : frm l = true
  · have hp := parse_frm l hf
    rw [hf] at HH
    by_cases hn : (numM l).2 = 0
    · rw [if_pos hn] at hp
      have HP : Hid (∀ W, Calls Tryd.prog 64 #[.string (bs l), .int .i64 10, .int .i64 64] W fun e w' => e = .returned (.tuple #[.int .i64 (numM l).1, .nilIface]) ∧ Below W.heap.size W w') := Lib.hid fun W => by
        refine (Tryd.strconv_ParseInt_10_at64_ok (bs l) (by rw [bs_size]; omega) (numM l).1 (by rw [bs_list]; exact hp) W).mono ?_
        rintro e w' ⟨rfl, h⟩
        refine ⟨rfl, ?_⟩
        rcases h with rfl | ⟨t, rfl⟩
        · exact Below.refl _ _
        · exact Lib.bytesWorld_below _ _ _
      rw [if_pos hn, hn]
      generalize (numM l).1 = v at *
      have HH := Lib.hid HH
      clear hf hp hn hs
      go_enter Tryd.func52, Tryd.ntmps52
      go_wp2_with fail
      refine (HH.out _).mono ?_
      rintro e w' ⟨rfl, hw⟩
      subst w'
      go_wp2_with fail
      refine (HP.out _).mono ?_
      rintro e w' ⟨rfl, hb⟩
      go_wp2_with fail
      go_ret2
      exact ⟨rfl, hb⟩
    · rw [if_neg hn] at hp
      have h3 : (numM l).2 = 3 := by
        unfold numM at hn ⊢
        rw [if_pos hf] at hn ⊢
        by_cases h45 : l.head? = some 45
        · rw [if_pos h45] at hn ⊢
          by_cases hm : mag l.tail ≤ 9223372036854775808
          · rw [if_pos hm] at hn; exact absurd rfl hn
          · rw [if_neg hm]
        · rw [if_neg h45] at hn ⊢
          by_cases hm : mag l < 9223372036854775808
          · rw [if_pos hm] at hn; exact absurd rfl hn
          · rw [if_neg hm]
      have HP : Hid (∀ W, GlA W → Calls Tryd.prog 64 #[.string (bs l), .int .i64 10, .int .i64 64] W fun e w' => ∃ N, e = .returned (.tuple #[.int .i64 (Lib.intSat 64 l), .iface 142 (.pointer (some ⟨N, 0, none⟩))]) ∧ Below W.heap.size W w') := Lib.hid fun W hW => by
        obtain ⟨te, pe, e⟩ := hW.er
        refine (Tryd.strconv_ParseInt_10_at64_range (bs l) (by rw [bs_size]; omega) (by rw [bs_list]; exact hp) _ W e (.inr ⟨te, pe, rfl⟩)).mono ?_
        rintro e w' ⟨N, rfl, _, _, h⟩
        exact ⟨N, by rw [bs_list], h⟩
      rw [if_neg hn, h3]
      have HH := Lib.hid HH
      have HG := Lib.hid hg
      generalize Lib.intSat 64 l = v at *
      clear hf hp hn hs h3 hg
      go_enter Tryd.func52, Tryd.ntmps52
      go_wp2_with fail
      refine (HH.out _).mono ?_
      rintro e w' ⟨rfl, hw⟩
      subst w'
      go_wp2_with fail
      refine (HP.out _ HG.out).mono ?_
      rintro e w' ⟨N, rfl, hb⟩
      go_wp2_with fail
      go_ret2
      exact ⟨rfl, hb⟩
  · have hf2 : frm l = false := by simpa using hf
    have h1 : numM l = (0, 1) := by unfold numM; rw [if_neg hf]
    rw [hf2] at HH
    rw [h1, if_neg (by decide)]
    have HH := Lib.hid HH
    clear hf hf2 h1 hs
    go_enter Tryd.func52, Tryd.ntmps52
    go_wp2_with fail
    refine (HH.out _).mono ?_
    rintro e w' ⟨rfl, hw⟩
    subst w'
    go_wp2_with fail
    go_ret2
    exact ⟨rfl, Below.refl _ _⟩
end Go.Proofs.YtdeilfnfpgjnnaaDoor
