/-
  The seventeenth law's fit, awake.
-/
import Derived.Test.YtkjhaofodlpnmaaWSrc5
import Derived.Test.YtkjhaofodlpnmaaWGrd3
open Go Go.RowKit
set_option linter.unusedVariables false
namespace Go.Proofs.Ytkjhaofodlpnmaa
theorem LDraw.oracle {l : List Nat} {t : List Rec} {kind n : Int} {S' : Src} {v e : Int} {u : List Value} (h : LDraw ⟨[], l, t⟩ kind n S' v e u) (ht : t.length < l.length) :
    S' = ⟨[], l, t ++ [(kind, l.getD t.length 0 % cnt n)]⟩ ∧ v = ((l.getD t.length 0 % cnt n : Nat) : Int) ∧ e = 0 ∧ u = uz := by
  rcases h with ⟨h, _⟩ | ⟨_, h, _⟩ | ⟨_, x, h, h1, h2, h3, h4⟩
  · simp [Src.many] at h; omega
  · simp [drawAt] at h
  · simp [drawAt] at h
    subst h
    exact ⟨h1, h2, h3, h4⟩
theorem LDraw.spent {S S' : Src} {kind n : Int} {v e : Int} {u : List Value} (h : LDraw S kind n S' v e u) (ht : S.taken.length = S.many) : S' = S ∧ v = 0 ∧ e = 1 ∧ u = uz := by
  rcases h with ⟨_, h⟩ | ⟨h, _⟩ | ⟨h, _⟩
  · exact h
  · omega
  · omega
theorem and_255q (k : Int) : bits BinOp.and IntKind.i64 k 255 = k % 256 := by
  show IntKind.i64.wrap (((BitVec.ofInt 64 k) &&& (BitVec.ofInt 64 255)).toNat : Int) = k % 256
  have e : (BitVec.ofInt 64 255).toNat = 255 := by decide
  rw [BitVec.toNat_and, e, nat_mask8, IntKind.wrap_i64, BitVec.toNat_ofInt]; omega
/-- A draw that is asked: of a kind that there is, of how many. -/
def fitK (k : Int) : Int := 1 + k % 256 % 4
def fitN (n : Int) : Int := if 1099511627776 < n then n % 1099511627776 else n
theorem fitN_le (n : Int) : fitN n ≤ 1099511627776 := by unfold fitN; split <;> omega
set_option maxRecDepth 100000 in
set_option maxHeartbeats 1000000 in
theorem fit_any (w : World) (k n : Int) (hn : n < 9223372036854775808) :
    Calls Try.prog 11 #[.agg #[.int .i64 k, .int .i64 n]] w fun r w' => r = .returned (.tuple #[.int .i64 (fitK k), .int .i64 (fitN n)]) ∧ Below w.heap.size w w' := by
  have hk : IntKind.i64.wrap (1 + (bits BinOp.and IntKind.i64 k 255).tmod 4) = fitK k := by
    rw [and_255q, Int.tmod_eq_emod_of_nonneg (by omega), IntKind.wrap_i64]; unfold fitK; omega
  have hk2 : IntKind.i64.wrap ((bits BinOp.and IntKind.i64 k 255).tmod 4) = (bits BinOp.and IntKind.i64 k 255).tmod 4 := by
    rw [and_255q, Int.tmod_eq_emod_of_nonneg (by omega), IntKind.wrap_i64]; omega
  have hb : Below w.heap.size w (w.alloc (.cells #[.int .i64 k, .int .i64 n] 41)) := below_alloc1 _ _
  have HB := Lib.hid hb
  clear hb
  by_cases h : 1099511627776 < n
  · have e : fitN n = n % 1099511627776 := by unfold fitN; rw [if_pos h]
    have hw : IntKind.i64.wrap (n.tmod 1099511627776) = n.tmod 1099511627776 := by rw [Int.tmod_eq_emod_of_nonneg (by omega), IntKind.wrap_i64]; omega
    rw [e]
    clear e hn
    go_enter Try.func11, Try.ntmps11
    go_wp2
    exact bodyPost_ret (v := .tuple #[.int .i64 (fitK k), .int .i64 (n % 1099511627776)]) (by simp [results, Try.results11]) rfl ⟨rfl, HB.out⟩
  · have e : fitN n = n := by unfold fitN; rw [if_neg h]
    rw [e]
    clear e hn
    go_enter Try.func11, Try.ntmps11
    go_wp2
    exact bodyPost_ret (v := .tuple #[.int .i64 (fitK k), .int .i64 n]) (by simp [results, Try.results11]) rfl ⟨rfl, HB.out⟩
set_option maxRecDepth 100000 in
set_option maxHeartbeats 2000000 in
theorem awake17_any (w : World) : Calls Try.prog 4 #[] w fun r w' => r = .returned (.bool true) ∧ Below w.heap.size w w' := by
  have h1 : Calls Try.prog 6 #[.slice (some ⟨w.heap.size, 0, none⟩) 2 2] (w.alloc (.cells #[.int .u64 7, .int .u64 9] 35)) fun r w' => ∃ p, r = .returned (.pointer (some ⟨p, 0, none⟩)) ∧ Own w w' (SrcA p 0 ⟨[], [7, 9], []⟩ .nilFunc :: []) ∧ Below (w.alloc (.cells #[.int .u64 7, .int .u64 9] 35)).heap.size (w.alloc (.cells #[.int .u64 7, .int .u64 9] 35)) w' :=
    onew_any (Own.nil (below_alloc1 w (.cells (numc [7, 9]).toArray 35))) (some ⟨w.heap.size, 0, none⟩) 2 [7, 9] (CellsAt.new w (numc [7, 9]) _ rfl) (by simp) (by simp)
  have H1 := Lib.hid h1
  clear h1
  have hfine : ∀ t : List Rec, t.length ≤ 2 → Src.fine ⟨[], [7, 9], t⟩ 0 := fun t ht => ⟨⟨by simp, by simp⟩, ⟨by simp, by simp⟩, by simp [Src.many], by simpa [Src.many] using ht, by simp; omega⟩
  have HFN := Lib.hid hfine
  clear hfine
  go_enter Try.func4, Try.ntmps4
  go_wp2_with fail
  refine H1.out.mono ?_
  rintro r w1 ⟨p, rfl, o1, -⟩
  clear H1
  have hd1 := ldraw_any o1 (HFN.out [] (by simp)) 1 5 (by omega)
  have HD1 := Lib.hid hd1
  clear hd1 o1
  go_wp2_with fail
  refine HD1.out.mono ?_
  rintro r w2 ⟨S1, v1, e1, u1, hl, rfl, o2⟩
  obtain ⟨rfl, hv, rfl, rfl⟩ := hl.oracle (by simp)
  obtain rfl : v1 = 2 := by rw [hv]; rfl
  clear HD1 hl hv
  unfold uz
  have hd2 := ldraw_any (o2.step (below_alloc1 w2 (.cells uz.toArray 44))) (HFN.out _ (by simp)) 4 3 (by omega)
  have HD2 := Lib.hid hd2
  clear hd2 o2
  unfold uz at HD2
  go_wp2_with fail
  refine HD2.out.mono ?_
  rintro r w3 ⟨S2, v2, e2, u2, hl, rfl, o3⟩
  obtain ⟨rfl, hv, rfl, rfl⟩ := hl.oracle (by simp)
  obtain rfl : v2 = 0 := by rw [hv]; rfl
  clear HD2 hl hv
  unfold uz
  have hd3 := ldraw_any (o3.step (below_alloc1 w3 (.cells uz.toArray 44))) (HFN.out _ (by simp)) 1 5 (by omega)
  have HD3 := Lib.hid hd3
  clear hd3 o3
  unfold uz at HD3
  go_wp2_with fail
  refine HD3.out.mono ?_
  rintro r w4 ⟨S3, v3, e3, u3, hl, rfl, o4⟩
  obtain ⟨rfl, rfl, rfl, rfl⟩ := hl.spent (by simp [Src.many])
  clear HD3 hl
  unfold uz
  have o5 := o4.step (below_alloc1 w4 (.cells uz.toArray 44))
  have hd4 := sleft_any o5 (by simp [Src.many]) (by simp [Src.many])
  have HB := Lib.hid o5.bel
  have HD4 := Lib.hid hd4
  clear hd4 o4 o5
  unfold uz at HD4 HB
  simp only [Src.many, List.length_cons, List.length_nil, List.length_append] at HD4
  go_wp2_with fail
  refine HD4.out.mono ?_
  rintro r w5 ⟨rfl, m, rfl⟩
  have HB2 := Lib.hid (below_drewN HB.out m)
  clear HD4 HB
  go_wp2
  go_ret
  exact ⟨rfl, HB2.out⟩
end Go.Proofs.Ytkjhaofodlpnmaa
