/-
  What the rows' lists of variables give.
-/
import Derived.Test.YtdeilfnfpgjnnaaDoorCards
import Derived.Test.YtdeilfnfpgjnnaaDoorTie
import Derived.Test.YtdeilfnfpgjnnaaDoorAsW2
import Derived.WalkKit
import Derived.ProofKit
import Derived.OpenShut
import Derived.ChangeArms
import Derived.ChangeOld
import Derived.Below
import Derived.LaidMore
import Derived.MakeChecks
import Derived.Deep.DeepHandedRow
import Derived.Lib.LaidTab
import Derived.Stop.LaidErr
import Derived.Shelf.Vars
open Go Go.RowKit Go.ChangeShapes Go.WideShapes Go.ChangeAt Go.Deep
set_option linter.unusedVariables false
set_option linter.unusedSimpArgs false
namespace Go.Proofs.YtdeilfnfpgjnnaaDoor
def tblZ : List (List Int) := (List.range 23).map fun i => (List.range 3).map fun j => ((shapeL.getD (i * 3 + j) 0 : Nat) : Int)
theorem tbl_laid : (Rows.laid_shunter_code_shapes : DataW Unit) = .agg (tblZ.map fun r => .agg (r.map fun z => .lit (.int .i64 z))) := by kernel_rfl
theorem tbl_at : ((List.range 69).all fun k => ((tblZ.getD (k / 3) []).getD (k % 3) 0 == ((shapeL.getD k 0 : Nat) : Int)) && decide ((tblZ.getD (k / 3) []).length = 3)) = true := by kernel_rfl
theorem sh_of_laid {W : World} {r : List (String × DataW Unit)} (h : laidMet Tryd.prog (("shunter/code.shapes", Rows.laid_shunter_code_shapes) :: r) W) : ShAt W := by
  obtain ⟨ps, ⟨g, t, cs, fuel, p, q, hg, ht, hv, hd, _, _⟩, _⟩ := h
  obtain rfl := Option.some.inj ((show Tryd.prog.globalNamed "shunter/code.shapes" = some 2 by kernel_rfl).symm.trans hg)
  obtain rfl := Option.some.inj ((show (Tryd.prog.globals[2]?).map (·.type) = some 111 by kernel_rfl).symm.trans ht)
  obtain ⟨xs, m, _, ex, _, hl, hel⟩ := DataW.trod_array Tryd.underlying111 hd
  have c3 : Tryd.prog.cellsOf 110 = 3 := by kernel_rfl
  have c1 : Tryd.prog.cellsOf 109 = 1 := by kernel_rfl
  intro k hk
  have htb := List.all_eq_true.1 tbl_at k (List.mem_range.2 hk)
  rw [Bool.and_eq_true] at htb
  have htb1 : (tblZ.getD (k / 3) []).getD (k % 3) 0 = ((shapeL.getD k 0 : Nat) : Int) := by simpa using htb.1
  have htb2 : (tblZ.getD (k / 3) []).length = 3 := of_decide_eq_true htb.2
  have hi : k / 3 < 23 := by omega
  have hj : k % 3 < 3 := by omega
  have hE := hel (k / 3) hi
  rw [c3, List.getElem?_eq_getElem (by omega : k / 3 < xs.length)] at hE
  have e3 : xs.map (·.1) = tblZ.map fun r => .agg (r.map fun z => .lit (.int .i64 z)) := by
    have e0 := (Prod.mk.inj ex).1
    rw [tbl_laid] at e0
    exact (DataW.agg.inj e0).symm
  have htl : tblZ.length = 23 := by kernel_rfl
  have e4 : xs[k / 3].1 = .agg ((tblZ.getD (k / 3) []).map fun z => .lit (.int .i64 z)) := by
    have h1 : (xs.map (·.1))[k / 3]? = (tblZ.map fun r => (DataW.agg (r.map fun z => .lit (.int .i64 z)) : DataW Unit))[k / 3]? := by rw [e3]
    rw [List.getElem?_map, List.getElem?_map, List.getElem?_eq_getElem (by omega : k / 3 < xs.length), List.getElem?_eq_getElem (by omega : k / 3 < tblZ.length)] at h1
    simp only [Option.map_some, Option.some.injEq] at h1
    rw [h1, List.getD, List.getElem?_eq_getElem (by omega : k / 3 < tblZ.length)]; rfl
  obtain ⟨ys, m2, _, ey, _, hyl, hey⟩ := DataW.trod_array Tryd.underlying110 hE
  have hF := hey (k % 3) hj
  rw [c1, Nat.mul_one, List.getElem?_eq_getElem (by omega : k % 3 < ys.length)] at hF
  obtain ⟨z, f1, f2, _⟩ := DataW.trod_int Tryd.underlying109 hF
  have e5 : ys.map (·.1) = (tblZ.getD (k / 3) []).map fun z => .lit (.int .i64 z) := by
    have e0 : xs[k / 3].1 = .agg (ys.map (·.1)) := by rw [ey]
    rw [e4] at e0
    exact (DataW.agg.inj e0).symm
  have hz : z = ((shapeL.getD k 0 : Nat) : Int) := by
    have h1 : (ys.map (·.1))[k % 3]? = ((tblZ.getD (k / 3) []).map fun z => (DataW.lit (.int .i64 z) : DataW Unit))[k % 3]? := by rw [e5]
    rw [List.getElem?_map, List.getElem?_map, List.getElem?_eq_getElem (by omega : k % 3 < ys.length), List.getElem?_eq_getElem (by omega : k % 3 < (tblZ.getD (k / 3) []).length), f2] at h1
    simp only [Option.map_some, Option.some.injEq, DataW.lit.injEq, Lit.int.injEq, true_and] at h1
    rw [← htb1, h1]
    rw [List.getD_eq_getElem?_getD (l := tblZ.getD (k / 3) []), List.getElem?_eq_getElem (by omega : k % 3 < (tblZ.getD (k / 3) []).length)]; rfl
  rw [World.var?_cell hg hv k, ← hz]
  have hc0 : ((((cs.toList.drop (k / 3 * 3)).take 3).drop (k % 3)).take 1)[0]? = some (.int .i64 z) := by rw [f1]; rfl
  have : cs.toList[k]? = some (.int .i64 z) := by
    rw [List.getElem?_take, if_pos (by omega), List.getElem?_drop, List.getElem?_take, if_pos (by omega), List.getElem?_drop] at hc0
    rwa [show k / 3 * 3 + (k % 3 + 0) = k by omega] at hc0
  simpa using this
/-- A table of words and numbers. -/
theorem tab_of_laid {W : World} {r : List (String × DataW Unit)} {name : String} {D : DataW Unit} {L : List (By × Nat)} {g ta n : Nat} (hL : L.length = n)
    (hD : D = .agg (L.map fun x => .agg [.lit (.string x.1), .lit (.int .i64 (x.2 : Int))])) (hgn : Tryd.prog.globalNamed name = some g) (hgt : (Tryd.prog.globals[g]?).map (·.type) = some ta) (hu : Tryd.prog.underlying ta = some (.array n 57))
    (h : laidMet Tryd.prog ((name, D) :: r) W) : ∀ j v, (tabc L)[j]? = some v → W.cell? ⟨g, j, none⟩ = some v := by
  obtain ⟨ps, ⟨g', t', cs, fuel, p, q, hg, ht, hv, hd, _, _⟩, _⟩ := h
  obtain rfl := Option.some.inj (hgn.symm.trans hg)
  obtain rfl := Option.some.inj (hgt.symm.trans ht)
  obtain ⟨xs, m, _, ex, _, hl, hel⟩ := DataW.trod_array hu hd
  have c2 : Tryd.prog.cellsOf 57 = 2 := by kernel_rfl
  have cs1 : Tryd.prog.cellsOf 9 = 1 := by kernel_rfl
  have ci1 : Tryd.prog.cellsOf 3 = 1 := by kernel_rfl
  intro j v hj
  have hjl : j < n * 2 := by
    have h1 := (List.getElem?_eq_some_iff.1 hj).1
    have h2 : (tabc L).length = L.length * 2 := flat_len (fun x : By × Nat => [str x.1, .int .i64 (x.2 : Int)]) 2 (fun _ => rfl) L
    omega
  have hi : j / 2 < n := by omega
  have hE := hel (j / 2) hi
  rw [c2, List.getElem?_eq_getElem (by omega : j / 2 < xs.length)] at hE
  have e3 : xs.map (·.1) = L.map fun x => (DataW.agg [.lit (.string x.1), .lit (.int .i64 (x.2 : Int))] : DataW Unit) := by
    have e0 := (Prod.mk.inj ex).1
    rw [hD] at e0
    exact (DataW.agg.inj e0).symm
  have hiL : j / 2 < L.length := by omega
  have e4 : xs[j / 2].1 = .agg [.lit (.string L[j / 2].1), .lit (.int .i64 (L[j / 2].2 : Int))] := by
    have h1 : (xs.map (·.1))[j / 2]? = (L.map fun x => (DataW.agg [.lit (.string x.1), .lit (.int .i64 (x.2 : Int))] : DataW Unit))[j / 2]? := by rw [e3]
    rw [List.getElem?_map, List.getElem?_map, List.getElem?_eq_getElem (by omega : j / 2 < xs.length), List.getElem?_eq_getElem hiL] at h1
    simpa using h1
  obtain ⟨ys, m2, _, ey, _, hyl, hey⟩ := DataW.trod_struct Tryd.underlying57 hE
  have hyl2 : ys.length = 2 := hyl
  have h0 := hey 0 _ rfl
  have h1 := hey 1 _ rfl
  have h0 : DataW.trod _ Tryd.prog W _ _ _ m2 9 ((((cs.toList.drop (j / 2 * 2)).take 2).drop 0).take 1) = ys[0]? := cs1 ▸ h0
  have h1 : DataW.trod _ Tryd.prog W _ _ _ m2 3 ((((cs.toList.drop (j / 2 * 2)).take 2).drop 1).take 1) = ys[1]? := ci1 ▸ h1
  rw [List.getElem?_eq_getElem (by omega)] at h0 h1
  obtain ⟨s, f1, f2, _⟩ := DataW.trod_string Tryd.underlying9 h0
  obtain ⟨z, g1, g2, _⟩ := DataW.trod_int Tryd.underlying3 h1
  have e5 : ys.map (·.1) = [.lit (.string L[j / 2].1), .lit (.int .i64 (L[j / 2].2 : Int))] := by
    have e0 : xs[j / 2].1 = .agg (ys.map (·.1)) := by rw [ey]
    rw [e4] at e0
    exact (DataW.agg.inj e0).symm
  have es : s.data.toList = L[j / 2].1 := by
    have h2 : (ys.map (·.1))[0]? = some (DataW.lit (.string L[j / 2].1) : DataW Unit) := by rw [e5]; rfl
    rw [List.getElem?_map, List.getElem?_eq_getElem (by omega : 0 < ys.length), f2] at h2
    simpa using h2
  have ez : z = (L[j / 2].2 : Int) := by
    have h2 : (ys.map (·.1))[1]? = some (DataW.lit (.int .i64 (L[j / 2].2 : Int)) : DataW Unit) := by rw [e5]; rfl
    rw [List.getElem?_map, List.getElem?_eq_getElem (by omega : 1 < ys.length), g2] at h2
    simpa using h2
  have hb : s = bs L[j / 2].1 := by rw [← es]; rfl
  have hcell : ∀ k u, k < 2 → (((cs.toList.drop (j / 2 * 2)).take 2).drop k).take 1 = [u] → W.cell? ⟨g, j / 2 * 2 + k, none⟩ = some u := fun k u hk e => by
    rw [World.var?_cell hg hv (j / 2 * 2 + k)]
    have hc0 : ((((cs.toList.drop (j / 2 * 2)).take 2).drop k).take 1)[0]? = some u := by rw [e]; rfl
    rw [List.getElem?_take, if_pos (by omega), List.getElem?_drop, List.getElem?_take, if_pos (by omega), List.getElem?_drop] at hc0
    simpa using hc0
  have k0 := hcell 0 (.string s) (by omega) f1
  have k1 := hcell 1 (.int .i64 z) (by omega) g1
  have hflat := fun k (hk : k < 2) => flat_at (fun x : By × Nat => [str x.1, .int .i64 (x.2 : Int)]) 2 (fun _ => rfl) L (j / 2) k hiL hk
  have hjj : j / 2 * 2 + j % 2 = j := by omega
  have hm : j % 2 = 0 ∨ j % 2 = 1 := by omega
  rcases hm with hm | hm
  · have := hflat 0 (by omega)
    have ej : j / 2 * 2 + 0 = j := by omega
    rw [ej] at this k0
    unfold tabc at hj
    rw [this] at hj
    simp only [List.getElem?_cons_zero, Option.some.injEq] at hj
    rw [← hj, k0, hb]
    rfl
  · have := hflat 1 (by omega)
    have ej : j / 2 * 2 + 1 = j := by omega
    rw [ej] at this k1
    unfold tabc at hj
    rw [this] at hj
    simp only [List.getElem?_cons_succ, List.getElem?_cons_zero, Option.some.injEq] at hj
    rw [← hj, k1, ez]
theorem err_named (u : TypeId) (h : Tryd.prog.typeName? 3 u = some "*errors.errorString") : u = 154 :=
  typeName_ptr_named (nm := "errors.errorString") (by rw [show "*" ++ "errors.errorString" = "*errors.errorString" by decide]; kernel_rfl) (by kernel_rfl) (by decide) u (by rw [show "*" ++ "errors.errorString" = "*errors.errorString" by decide]; exact h)
theorem gl_of_laid {W : World} (hL : laidMetH Tryd.prog Rows.asmLinesRow.laid W) (hS : W.ShapedOpen Tryd.prog) : GlA W := by
  rw [MakeChecks.laidMetH_plain _ _ _ (by kernel_rfl)] at hL
  have h3 := hL.tail.tail
  have h5 := h3.tail.tail
  have h6 := h5.tail
  have h8 := h6.tail.tail
  have h9 := h8.tail
  refine ⟨sh_of_laid h5, ?_, ?_, ?_, ?_, ?_⟩
  · obtain ⟨a, s, h1, _⟩ := laid_sentinel (tp := 154) (te := 156) (ts := 9) h6 (show Tryd.prog.globalNamed "strconv.ErrRange" = some 10 by kernel_rfl) (by kernel_rfl) Tryd.underlying122
      err_named Tryd.underlying154 Tryd.underlying156 rfl rfl Tryd.underlying9 (by kernel_rfl) (by kernel_rfl)
    exact ⟨_, _, by have := World.var?_cell (show Tryd.prog.globalNamed "strconv.ErrRange" = some 10 by kernel_rfl) h1 0; simpa using this⟩
  · exact cell_of_shapedOpen_int (t := 3) (zero := #[.int .i64 0]) hS (of_decide_eq_true (by kernel_rfl)) (by kernel_rfl) (by kernel_rfl) (by kernel_rfl) (by kernel_rfl) Tryd.underlying3
  · exact Lib.tabIs_of_head (rest := _) (show Tryd.prog.globalNamed "internal/strconv.uint64pow10" = some 4 by kernel_rfl) (by kernel_rfl) Tryd.underlying126 Tryd.underlying102 (by kernel_rfl) (by kernel_rfl) h3
  · exact tab_of_laid (L := casesL) rfl (by kernel_rfl) (by kernel_rfl) (by kernel_rfl) Tryd.underlying58 h8
  · exact tab_of_laid (L := opsL) rfl (by kernel_rfl) (by kernel_rfl) (by kernel_rfl) Tryd.underlying63 h9
end Go.Proofs.YtdeilfnfpgjnnaaDoor
