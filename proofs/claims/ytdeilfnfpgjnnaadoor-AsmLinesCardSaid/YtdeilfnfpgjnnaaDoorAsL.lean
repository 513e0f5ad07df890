/-
  Empty lines say nothing: the law.
-/
import Derived.Test.YtdeilfnfpgjnnaaDoorAsT2
import Derived.Test.YtdeilfnfpgjnnaaDoorAsN
import Derived.Test.YtdeilfnfpgjnnaaDoorWCut
import Derived.Test.YtdeilfnfpgjnnaaDoorIRow2
open Go Go.RowKit
set_option linter.unusedVariables false
set_option linter.unusedSimpArgs false
namespace Go.Proofs.YtdeilfnfpgjnnaaDoor
theorem prog_blk {w : World} {d : PD} {v : Value} (h : PVal w v d) (wx : World) (b : Nat) (cs : List Value) (hv : v = .agg cs.toArray) (hb : Blk wx b cs) : True := trivial
theorem awake_1 : parseM [102, 117, 110, 99, 10, 99, 111, 110, 115, 116, 32, 49, 32, 53, 10, 101, 109, 105, 116, 32, 49, 10] = (⟨[[(1, 1, 5, 0), (20, 1, 0, 0)]], [], 0, []⟩, -1, 0) := by rfl
theorem awake_2 : parseM [101, 109, 105, 116, 32, 49] = (⟨[], [], 0, []⟩, 0, 9) := by rfl
set_option maxRecDepth 100000 in
set_option maxHeartbeats 2000000 in
theorem awake_any (w : World) (hg : GlA w) : Calls Tryd.prog 6 #[] w fun e w' => e = .returned (.bool true) ∧ Below w.heap.size w w' := by
  have HP1 := Lib.hid (parse_any [102, 117, 110, 99, 10, 99, 111, 110, 115, 116, 32, 49, 32, 53, 10, 101, 109, 105, 116, 32, 49, 10] w (by decide) hg)
  have HP2 : Hid (∀ W, GlA W → _) := Lib.hid fun W hW => parse_any [101, 109, 105, 116, 32, 49] W (by decide) hW
  rw [awake_1] at HP1
  simp only [awake_2] at HP2
  have HG := Lib.hid hg
  clear hg
  go_enter Tryd.func6, Tryd.ntmps6
  go_wp2_with fail
  refine HP1.out.mono ?_
  rintro e w1 ⟨v1, rfl, hp, hb1⟩
  obtain ⟨fa, fc, ca, cc, ka, kc, rfl, hpa⟩ := hp
  obtain ⟨fb, fo, a', c', rfl, h0, _⟩ := hpa.1 0 (by decide)
  have h0 : w1.cell? ⟨fb, fo, none⟩ = some (.slice a' 2 c') := h0
  unfold pv
  simp only [List.length_cons, List.length_nil, Nat.zero_add]
  obtain ⟨b1, hb1e⟩ : ∃ b, b = w1.heap.size := ⟨_, rfl⟩
  obtain ⟨W2, hW2⟩ : ∃ W2, W2 = w1.alloc (.cells #[.slice (some ⟨fb, fo, none⟩) 1 fc, .slice ca 0 cc, .int .i64 0, .slice ka 0 kc] 33) := ⟨_, rfl⟩
  have hB2 : Below w1.heap.size w1 W2 := by rw [hW2]; exact below_alloc1 _ _
  have hK2 : Blk W2 b1 [.slice (some ⟨fb, fo, none⟩) 1 fc, .slice ca 0 cc, .int .i64 0, .slice ka 0 kc] := by rw [hW2]; exact Blk.mk _ _ _ _ hb1e
  have h02 := cell_below h0 hB2
  have HC2 := Lib.hid (HP2.out W2 (HG.out.below (hb1.trans (hB2.mono hb1.size))))
  have HS := Lib.hid (And.intro hb1e hW2)
  have HB := Lib.hid (hb1.trans (hB2.mono hb1.size))
  have HK := Lib.hid (And.intro hK2 h02)
  clear hb1e hW2 hB2 hK2 h02 h0 hpa hb1 HP1 HP2
  go_upto_region 2 with fail
  rw [← HS.out.1, ← HS.out.2]
  go_wp2_with fail
  refine HC2.out.mono ?_
  rintro e w3 ⟨v2, rfl, hp2, hb3⟩
  obtain ⟨fa2, fc2, ca2, cc2, ka2, kc2, rfl, hpa2⟩ := hp2
  unfold pv
  simp only [List.length_nil]
  have z0 := ((HK.out.1.below hb3).alloc (.cells #[.slice fa2 0 fc2, .slice ca2 0 cc2, .int .i64 0, .slice ka2 0 kc2] 33) 0 _ rfl).1
  have z1 := cell_below (cell_below HK.out.2 hb3) (below_alloc1 w3 (.cells #[.slice fa2 0 fc2, .slice ca2 0 cc2, .int .i64 0, .slice ka2 0 kc2] 33))
  have HE : Hid (Below w.heap.size w (w3.alloc (.cells #[.slice fa2 0 fc2, .slice ca2 0 cc2, .int .i64 0, .slice ka2 0 kc2] 33))) := Lib.hid ((HB.out.trans (hb3.mono HB.out.size)).alloc (by have := HB.out.size; have := hb3.size; omega) _)
  clear hpa2 hb3 HC2
  go_upto_region 3 with fail
  generalize w3.alloc (.cells #[.slice fa2 0 fc2, .slice ca2 0 cc2, .int .i64 0, .slice ka2 0 kc2] 33) = w4 at *
  go_wp2_with fail
  go_ret
  exact ⟨rfl, HE.out⟩
end Go.Proofs.YtdeilfnfpgjnnaaDoor
