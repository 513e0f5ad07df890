/-
  Programs and cases that came in as arguments, and the table that the row lists: what they are in memory.
-/
import Derived.Test.YtjanangcfgmdeaaDoorCards
import Derived.Test.YtjanangcfgmdeaaDoorTie
import Derived.Test.YtjanangcfgmdeaaDoorW10In
import Derived.Test.YtjanangcfgmdeaaDoorActsK4
import Derived.WalkKit
import Derived.ProofKit
import Derived.OpenShut
import Derived.ChangeOld
import Derived.Below
import Derived.LaidMore
import Derived.MakeChecks
import Derived.Deep.DeepHandedRow
import Derived.Lib.LaidTab
open Go Go.RowKit Go.ChangeShapes Go.WideShapes Go.ChangeAt Go.Deep
set_option linter.unusedVariables false
namespace Go.Proofs.YtjanangcfgmdeaaDoor
/-- The table's rows. -/
def tblZ : List (List Int) := (List.range 23).map fun i => (List.range 3).map fun j => ((shapeL.getD (i * 3 + j) 0 : Nat) : Int)
theorem tbl_laid : (Rows.laid_shunter_code_shapes : DataW Unit) = .agg (tblZ.map fun r => .agg (r.map fun z => .lit (.int .i64 z))) := by kernel_rfl
theorem tbl_at : ((List.range 69).all fun k => ((tblZ.getD (k / 3) []).getD (k % 3) 0 == ((shapeL.getD k 0 : Nat) : Int)) && decide ((tblZ.getD (k / 3) []).length = 3)) = true := by kernel_rfl
theorem sh_of_laid {W : World} (h : laidMetH Tryd.prog [("shunter/code.shapes", Rows.laid_shunter_code_shapes)] W) : ShAt W := by
  rw [MakeChecks.laidMetH_plain _ _ _ (by kernel_rfl)] at h
  obtain ⟨ps, ⟨g, t, cs, fuel, p, q, hg, ht, hv, hd, _, _⟩, _⟩ := h
  obtain rfl := Option.some.inj ((show Tryd.prog.globalNamed "shunter/code.shapes" = some 0 by kernel_rfl).symm.trans hg)
  obtain rfl := Option.some.inj ((show (Tryd.prog.globals[0]?).map (·.type) = some 67 by kernel_rfl).symm.trans ht)
  obtain ⟨xs, m, _, ex, _, hl, hel⟩ := DataW.trod_array Tryd.underlying67 hd
  have c3 : Tryd.prog.cellsOf 66 = 3 := by kernel_rfl
  have c1 : Tryd.prog.cellsOf 65 = 1 := by kernel_rfl
  intro k hk
  have htb := List.all_eq_true.1 tbl_at k (List.mem_range.2 hk)
  rw [Bool.and_eq_true] at htb
  have htb1 : (tblZ.getD (k / 3) []).getD (k % 3) 0 = ((shapeL.getD k 0 : Nat) : Int) := by simpa using htb.1
  have htb2 : (tblZ.getD (k / 3) []).length = 3 := of_decide_eq_true htb.2
  have hi : k / 3 < 23 := by omega
  have hj : k % 3 < 3 := by omega
  have hE := hel (k / 3) hi
  rw [c3, List.getElem?_eq_getElem (by omega : k / 3 < xs.length)] at hE
  have e3 : xs.map (·.1) = tblZ.map fun r => .agg (r.map fun z => .lit (.int .i64 z)) := by
    have e0 := (Prod.mk.inj ex).1
    rw [tbl_laid] at e0
    exact (DataW.agg.inj e0).symm
  have htl : tblZ.length = 23 := by kernel_rfl
  have e4 : xs[k / 3].1 = .agg ((tblZ.getD (k / 3) []).map fun z => .lit (.int .i64 z)) := by
    have h1 : (xs.map (·.1))[k / 3]? = (tblZ.map fun r => (DataW.agg (r.map fun z => .lit (.int .i64 z)) : DataW Unit))[k / 3]? := by rw [e3]
    rw [List.getElem?_map, List.getElem?_map, List.getElem?_eq_getElem (by omega : k / 3 < xs.length), List.getElem?_eq_getElem (by omega : k / 3 < tblZ.length)] at h1
    simp only [Option.map_some, Option.some.injEq] at h1
    rw [h1, List.getD, List.getElem?_eq_getElem (by omega : k / 3 < tblZ.length)]; rfl
  obtain ⟨ys, m2, _, ey, _, hyl, hey⟩ := DataW.trod_array Tryd.underlying66 hE
  have hF := hey (k % 3) hj
  rw [c1, Nat.mul_one, List.getElem?_eq_getElem (by omega : k % 3 < ys.length)] at hF
  obtain ⟨z, f1, f2, _⟩ := DataW.trod_int Tryd.underlying65 hF
  have e5 : ys.map (·.1) = (tblZ.getD (k / 3) []).map fun z => .lit (.int .i64 z) := by
    have e0 : xs[k / 3].1 = .agg (ys.map (·.1)) := by rw [ey]
    rw [e4] at e0
    exact (DataW.agg.inj e0).symm
  have hz : z = ((shapeL.getD k 0 : Nat) : Int) := by
    have h1 : (ys.map (·.1))[k % 3]? = ((tblZ.getD (k / 3) []).map fun z => (DataW.lit (.int .i64 z) : DataW Unit))[k % 3]? := by rw [e5]
    rw [List.getElem?_map, List.getElem?_map, List.getElem?_eq_getElem (by omega : k % 3 < ys.length), List.getElem?_eq_getElem (by omega : k % 3 < (tblZ.getD (k / 3) []).length), f2] at h1
    simp only [Option.map_some, Option.some.injEq, DataW.lit.injEq, Lit.int.injEq, true_and] at h1
    rw [← htb1, h1]
    rw [List.getD_eq_getElem?_getD (l := tblZ.getD (k / 3) []), List.getElem?_eq_getElem (by omega : k % 3 < (tblZ.getD (k / 3) []).length)]; rfl
  rw [World.var?_cell hg hv k, ← hz]
  have hc0 : ((((cs.toList.drop (k / 3 * 3)).take 3).drop (k % 3)).take 1)[0]? = some (.int .i64 z) := by rw [f1]; rfl
  have : cs.toList[k]? = some (.int .i64 z) := by
    rw [List.getElem?_take, if_pos (by omega), List.getElem?_drop, List.getElem?_take, if_pos (by omega), List.getElem?_drop] at hc0
    rwa [show k / 3 * 3 + (k % 3 + 0) = k by omega] at hc0
  simpa using this
/-- A reading's bulk is at least 1. -/
theorem bulk_one {H : Type} (d : DataW H) : 1 ≤ Rows.uptoBulk d := by
  cases d with
  | lit l => cases l <;> simp [Rows.uptoBulk]
  | nil => simp [Rows.uptoBulk]
  | ptr d => simp [Rows.uptoBulk]
  | slice elems spare => simp [Rows.uptoBulk]
  | agg parts => simp [Rows.uptoBulk]
  | iface t d => simp [Rows.uptoBulk]
  | map entries => simp [Rows.uptoBulk]
  | held h => simp [Rows.uptoBulk]
theorem bulk_part {H : Type} {d : DataW H} {l : List (DataW H)} (h : d ∈ l) : Rows.uptoBulk d ≤ Rows.uptoBulkAll l := by
  induction l with
  | nil => cases h
  | cons x r ih =>
    simp only [Rows.uptoBulkAll]
    cases List.mem_cons.1 h with
    | inl e => subst e; omega
    | inr e => have := ih e; omega
theorem bulk_len {H : Type} (l : List (DataW H)) : l.length ≤ Rows.uptoBulkAll l := by
  induction l with
  | nil => simp [Rows.uptoBulkAll]
  | cons x r ih => have := bulk_one x; simp only [Rows.uptoBulkAll, List.length_cons]; omega
section
variable {H : Type} {enc : TypeId × Value → H} {W : World} {base : Nat} {sp : Nat → Bool} {held : Bool}
/-- Any slice that came in. -/
theorem slice_of {P : Program} {t e : TypeId} {fuel : Nat} {V : Value} {x : DataW H × List MemPlace} (ht : P.underlying t = some (.slice e)) (h : DataW.trod enc P W base sp held fuel t [V] = some x) :
    ∃ a len cap, V = .slice a len cap ∧ len ≤ cap ∧ cap ≤ maxLen ∧ len ≤ Rows.uptoBulk x.1 := by
  rcases DataW.trod_slice ht h with ⟨hcs, hx⟩ | ⟨a, len, cap, elems, rest, n, _, hcs, hx, _, h1, h2, h3, _⟩
  · simp at hcs
    exact ⟨none, 0, 0, hcs, Nat.le_refl _, Nat.zero_le _, Nat.zero_le _⟩
  · simp at hcs
    refine ⟨some a, len, cap, hcs, h1, h2, ?_⟩
    rw [hx]
    have := bulk_len (elems.map (·.1))
    simp only [Rows.uptoBulk, List.length_map] at this ⊢
    omega
/-- A function's instructions. -/
theorem ins_of {fuel : Nat} {a : Option Addr} {len cap : Nat} {x : DataW H × List MemPlace} (h : DataW.trod enc Tryd.prog W base sp held fuel 40 [.slice a len cap] = some x) :
    ∃ l : List In4, l.length = len ∧ InsAt W a l ∧ ∀ y ∈ l, i64b y.2.2.1 := by
  obtain ⟨l, h1, _, _, h4, h5⟩ := isActsK4_of Tryd.underlying40 Tryd.underlying43 (by kernel_rfl) rfl rfl rfl rfl (by kernel_rfl) (by kernel_rfl) (by kernel_rfl) (by kernel_rfl) Tryd.underlying3 Tryd.underlying3 Tryd.underlying3 Tryd.underlying3 h
  exact ⟨l, h1.symm, h4, fun y hy => bounds_i64 (h5 y hy).2.2.1⟩
/-- All functions. -/
theorem funs_of {fuel : Nat} {V : Value} {x : DataW H × List MemPlace} (h : DataW.trod enc Tryd.prog W base sp held fuel 22 [V] = some x) :
    ∃ a len cap, ∃ l : List (List In4), V = .slice a len cap ∧ l.length = len ∧ len ≤ cap ∧ cap ≤ maxLen ∧ FunC W a l ∧ (∀ f ∈ l, ∀ y ∈ f, i64b y.2.2.1) ∧ len ≤ Rows.uptoBulk x.1 ∧ ∀ f ∈ l, f.length ≤ Rows.uptoBulk x.1 := by
  obtain ⟨a, len, cap, rfl, h1, h2, h3⟩ := slice_of Tryd.underlying22 h
  rcases DataW.trod_slice Tryd.underlying22 h with ⟨hcs, hx⟩ | ⟨b, len', cap', elems, rest, n, _, hcs, hx, _, _, _, hel, hat, _⟩
  · simp at hcs
    obtain ⟨rfl, rfl, rfl⟩ := hcs
    exact ⟨none, 0, 0, [], rfl, rfl, h1, h2, fun i hi => by simp at hi, fun f hf => by simp at hf, h3, fun f hf => by simp at hf⟩
  · simp at hcs
    obtain ⟨rfl, rfl, rfl⟩ := hcs
    have c1 : Tryd.prog.cellsOf 40 = 1 := by kernel_rfl
    have hv : ∀ i : Fin len, ∃ l : List In4, ∃ ai ci, W.cell? (b.add i.val) = some (.slice ai l.length ci) ∧ l.length ≤ ci ∧ ci ≤ maxLen ∧ InsAt W ai l ∧ (∀ y ∈ l, i64b y.2.2.1) ∧ l.length ≤ Rows.uptoBulk x.1 := fun i => by
      have g := hat i.val i.isLt
      rw [c1, Nat.mul_one, List.getElem?_eq_getElem (by omega : i.val < elems.length)] at g
      obtain ⟨cs', g1, g2⟩ := Option.bind_eq_some_iff.1 g
      obtain ⟨_, hlen, hcell⟩ := World.cells?_some g1
      match cs', hlen with
      | [v], _ =>
        have e0 := hcell 0 (by omega)
        obtain ⟨ai, li, ci, rfl, k1, k2, k3⟩ := slice_of Tryd.underlying40 g2
        obtain ⟨l, l1, l2, l3⟩ := ins_of g2
        subst l1
        refine ⟨l, ai, ci, by simpa [Addr.add] using e0, k1, k2, l2, l3, Nat.le_trans k3 ?_⟩
        rw [hx]
        have hm : (elems[i.val]'(by omega)).1 ∈ elems.map (·.1) := List.mem_map.2 ⟨_, List.getElem_mem _, rfl⟩
        have := bulk_part hm
        simp only [Rows.uptoBulk]
        omega
    refine ⟨some b, len, cap, List.ofFn fun i : Fin len => Classical.choose (hv i), rfl, by simp, h1, h2, fun i hi => ?_, fun f hf => ?_, h3, fun f hf => ?_⟩
    · simp at hi
      obtain ⟨ai, ci, q1, q2, q3, q4, _⟩ := Classical.choose_spec (hv ⟨i, hi⟩)
      simp only [List.getElem_ofFn]
      obtain ⟨bb, off, spot⟩ := b
      obtain rfl : spot = none := by
        obtain ⟨_, _, _, g0, _⟩ := hv ⟨0, by omega⟩
        simpa [Addr.add] using World.cell?_spot g0
      exact ⟨bb, off, ai, ci, rfl, by rw [← Go.WideShapes.add_plain]; exact q1, q2, q3, q4⟩
    · obtain ⟨i, hi, rfl⟩ := List.mem_iff_getElem.1 hf
      simp at hi
      simp only [List.getElem_ofFn]
      obtain ⟨ai, ci, q1, q2, q3, q4, q5, _⟩ := Classical.choose_spec (hv ⟨i, hi⟩)
      exact q5
    · obtain ⟨i, hi, rfl⟩ := List.mem_iff_getElem.1 hf
      simp at hi
      simp only [List.getElem_ofFn]
      obtain ⟨ai, ci, q1, q2, q3, q4, _, q6⟩ := Classical.choose_spec (hv ⟨i, hi⟩)
      exact q6
theorem ints_of {fuel : Nat} {a : Option Addr} {len cap : Nat} {x : DataW H × List MemPlace} (h : DataW.trod enc Tryd.prog W base sp held fuel 23 [.slice a len cap] = some x) : ∃ l : List Int, l.length = len ∧ IntsAt W a l := by
  rcases open_ints Tryd.underlying23 Tryd.underlying3 (by kernel_rfl) h with ⟨hcs, _⟩ | ⟨b, l', c', zs, hcs, _, hl, hm, hz, _, hcell, _⟩
  · simp at hcs
    obtain ⟨rfl, rfl, rfl⟩ := hcs
    exact ⟨[], rfl, fun i hi => by simp at hi⟩
  · simp at hcs
    obtain ⟨rfl, rfl, rfl⟩ := hcs
    have hzl : len ≤ zs.length := by rw [hz]; split <;> omega
    refine ⟨zs.take len, by rw [List.length_take]; omega, fun i hi => ?_⟩
    rw [List.length_take] at hi
    have g := hcell i (by omega)
    obtain ⟨bb, off, spot⟩ := b
    obtain rfl : spot = none := by simpa [Addr.add] using World.cell?_spot (hcell 0 (by omega))
    rw [Go.WideShapes.add_plain] at g
    refine ⟨bb, off, rfl, ?_⟩
    rw [g]
    simp [List.getD, List.getElem?_eq_getElem (by omega : i < zs.length)]
theorem cases_of {fuel : Nat} {a : Option Addr} {len cap : Nat} {x : DataW H × List MemPlace} (h : DataW.trod enc Tryd.prog W base sp held fuel 24 [.slice a len cap] = some x) : ∃ l : List Ca3, l.length = len ∧ CasAt W a l := by
  obtain ⟨l, h1, _, _, h4, _⟩ := isActs3_of Tryd.underlying24 Tryd.underlying49 (by kernel_rfl) rfl rfl rfl (by kernel_rfl) (by kernel_rfl) (by kernel_rfl) Tryd.underlying3 Tryd.underlying3 Tryd.underlying3 h
  exact ⟨l, h1.symm, h4⟩
/-- A program that came in. -/
theorem isPg_of {r : Reach} {b0 : Nat} {v : Value} {d : DataW H} {p : List MemPlace} (hv : Value.okWide Tryd.prog W r b0 26 v) (h : DataW.Trod enc Tryd.prog W base sp held 26 v d p) :
    ∃ fa nf fc ca nc cc lk ka nk kc dd, v = .agg #[.slice fa nf fc, .slice ca nc cc, .int .i64 lk, .slice ka nk kc] ∧ IsPg W fa nf fc ca nc cc lk ka nk kc dd ∧
      (Rows.uptoBulk d ≤ 1048576 → dd.fs.length ≤ 2000000 ∧ (∀ f ∈ dd.fs, f.length ≤ 2000000) ∧ dd.cs.length ≤ 2000000 ∧ dd.ks.length ≤ 2000000) := by
  obtain ⟨v0, v1, v2, v3, y0, y1, y2, y3, n, rfl, rfl, _, g0, g1, g2, g3⟩ := Go.Joins.open_agg4 Tryd.underlying26 (by kernel_rfl) (by kernel_rfl) hv h
  obtain ⟨fa, nf, fc, fs, rfl, f1, f2, f3, f4, f5, f6, f7⟩ := funs_of g0
  obtain ⟨ca, nc, cc, rfl, c1, c2, c3⟩ := slice_of Tryd.underlying23 g1
  obtain ⟨cs, c4, c5⟩ := ints_of g1
  obtain ⟨lk, e2, _, _⟩ := DataW.trod_int Tryd.underlying3 g2
  obtain rfl : v2 = .int .i64 lk := by simpa using e2
  obtain ⟨ka, nk, kc, rfl, k1, k2, k3⟩ := slice_of Tryd.underlying24 g3
  obtain ⟨ks, k4, k5⟩ := cases_of g3
  refine ⟨fa, nf, fc, ca, nc, cc, lk, ka, nk, kc, ⟨fs, cs, lk, ks⟩, rfl, ⟨f1, c4, k4, rfl, ⟨f2, f3⟩, by omega, by omega, f4, c5, k5, f5⟩, fun hb => ?_⟩
  simp only [Rows.uptoBulk, Rows.uptoBulkAll] at hb
  exact ⟨by simp only; omega, fun f hf => by have := f7 f hf; omega, by simp only; omega, by simp only; omega⟩
/-- A case that came in. -/
theorem case_of {r : Reach} {b0 : Nat} {v : Value} {d : DataW H} {p : List MemPlace} (hv : Value.okWide Tryd.prog W r b0 49 v) (h : DataW.Trod enc Tryd.prog W base sp held 49 v d p) : ∃ c0 c1 c2 : Int, v = .agg #[.int .i64 c0, .int .i64 c1, .int .i64 c2] := by
  obtain ⟨v0, v1, v2, y0, y1, y2, n, rfl, rfl, _, g0, g1, g2⟩ := Go.Joins.open_agg3 Tryd.underlying49 (by kernel_rfl) (by kernel_rfl) hv h
  obtain ⟨c0, e0, _, _⟩ := DataW.trod_int Tryd.underlying3 g0
  obtain ⟨c1, e1, _, _⟩ := DataW.trod_int Tryd.underlying3 g1
  obtain ⟨c2, e2, _, _⟩ := DataW.trod_int Tryd.underlying3 g2
  exact ⟨c0, c1, c2, by simp at e0 e1 e2; rw [e0, e1, e2]⟩
end
end Go.Proofs.YtjanangcfgmdeaaDoor
