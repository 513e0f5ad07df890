/-
  Frames: the table of what registers alone decide.
-/
import Derived.Test.YtfllplfpeibocaaRows
import Derived.Test.YtfllplfpeibocaaIRow
import Derived.MapKept
import Derived.WideMake
import Derived.Deep.QuietTactic
import Derived.BigQuiet
import Derived.WalkSmall
import Derived.Deep.DeepCutAuto
import Derived.RegionTactic
import Derived.Deep.RegionHeld3
import Derived.Deep.RegionWith
import Derived.Deep.RegionLaw
open Go Go.RowKit
set_option linter.unusedVariables false
namespace Go.Proofs.Ytfllplfpeibocaa
/-- A map of the call's own, as it lies. -/
def MapAt (w : World) (r : Nat) (es : List MapEntry) (c : Nat) : Prop := w.heap[r]? = some (.map es.toArray c)
theorem MapAt.lt {w : World} {r c : Nat} {es : List MapEntry} (h : MapAt w r es c) : r < w.heap.size := (Array.getElem?_eq_some_iff.1 h).1
theorem run_mapUpdate_new {P : Program} {w : World} {mty kt et : TypeId} {r c : Nat} {n : Int} {val : Value} {es : List MapEntry} (hm : P.underlying mty = some (.map kt et)) (hk : P.underlying kt = some (.int .i64)) (hb : MapAt w r es c)
    (hf : Instr.findNow (.int .i64) (.int .i64 n) es 0 = some none) :
    (Instr.mapUpdate mty (.map (some r)) (.int .i64 n) val).run P w = .ok () { w with heap := w.heap.setIfInBounds r (.map (es ++ [(⟨.int .i64 n, val, c⟩ : MapEntry)]).toArray (c + 1)) } := by
  have hc : (Instr.checkKey false 10000 kt (.int .i64 n)).run P w = .ok () w := MapKept.run_checkKey (k := .int .i64 n) hk (by simp [MapKept.IsKey]) false 9999
  have hb' : w.heap[r]? = some (.map es.toArray c) := hb
  simp [Instr.mapUpdate, run_underlying hm, MapKept.run_getObj_map hb', hc, MapKept.run_findKey hk hf, MapKept.run_setObj_map _ hb', Result.andThen]
theorem wpList_insert_new {P : Program} {w : World} {ops : Array Oper} {rest : List Oper} {o : Oper} {a : Act} {Q : Exit → Act → World → Prop}
    (hg : o.guard = none) (m x v : Operand) (t : TypeId) (hop : o.op = Op.insert t m x v) {kt et : TypeId} {r c : Nat} (n : Int) (val : Value) (es : List MapEntry) (hm : P.underlying t = some (.map kt et)) (hk : P.underlying kt = some (.int .i64))
    (he : a.eval m = .map (some r)) (hx : a.eval x = .int .i64 n) (hv : a.eval v = val) (hb : MapAt w r es c) (hf : Instr.findNow (.int .i64) (.int .i64 n) es 0 = some none)
    (hK : ∀ w', MapAt w' r (es ++ [(⟨.int .i64 n, val, c⟩ : MapEntry)]) (c + 1) → Chg [r] w w' → wpList P ops Q rest (a.put o.dst undef) w') : wpList P ops Q (o :: rest) a w := by
  refine wpList_plain hg fun K' hK' => ?_
  have hrun := run_mapUpdate_new (P := P) (w := w) (n := n) (val := val) hm hk hb hf
  unfold Oper.wp
  simp [execOp, hop, he, hx, hv, hrun, Result.andThen]
  refine hK' _ _ (by
    have h := hK { w with heap := w.heap.setIfInBounds r (.map (es ++ [(⟨.int .i64 n, val, c⟩ : MapEntry)]).toArray (c + 1)) } ?_ ?_
    · simpa using h
    · unfold MapAt; simp [hb.lt]
    · refine ⟨rfl, rfl, rfl, by simp, fun k hk hn => ?_⟩
      simp [Array.getElem?_setIfInBounds]
      intro e; subst e; simp at hn)
def fnv (k : Nat) : Value := .func (.func k) #[] #[]
/-- What registers alone decide. -/
def tableEs : List MapEntry := [⟨.int .i64 0, fnv 15, 0⟩, ⟨.int .i64 1, fnv 16, 1⟩, ⟨.int .i64 2, fnv 17, 2⟩, ⟨.int .i64 3, fnv 18, 3⟩,
  ⟨.int .i64 4, fnv 19, 4⟩, ⟨.int .i64 5, fnv 20, 5⟩, ⟨.int .i64 6, fnv 21, 6⟩, ⟨.int .i64 7, fnv 22, 7⟩, ⟨.int .i64 8, fnv 23, 8⟩]
set_option maxRecDepth 100000 in
set_option maxHeartbeats 2000000 in
theorem alone_any (w : World) : Calls Try.prog 14 #[] w fun e w' => e = .returned (.map (some w.heap.size)) ∧ MapAt w' w.heap.size tableEs 9 ∧ Below w.heap.size w w' := by
  have hmm : ∀ (w : World), (Instr.makeMap 46 none).run Try.prog w = .ok (.map (some w.heap.size)) (w.alloc (.map #[] 0)) := fun w => run_makeMap_plain w _
  have h0 : MapAt (w.alloc (.map #[] 0)) w.heap.size [] 0 := heap_alloc_new w _
  have b0 : Below w.heap.size w (w.alloc (.map #[] 0)) := below_alloc1 _ _
  have st : ∀ w1 w2 : World, Below w.heap.size w w1 → Chg [w.heap.size] w1 w2 → Below w.heap.size w w2 := fun _ _ h c => Chg.below h c (fun x hx => by simp at hx; omega)
  have ST := Lib.hid st
  clear st
  go_enter Try.func14, Try.ntmps14
  go_wp2_with (refine wpList_insert_new rfl _ _ _ 46 rfl _ _ _ Try.underlying46 Try.underlying36 (by rfl) (by rfl) (by rfl) (by assumption) (by rfl) ?_; intro w1 h1 c1; have b1 := ST.out _ _ (by assumption) c1; clear c1)
  go_ret
  exact ⟨rfl, h1, b1⟩
end Go.Proofs.Ytfllplfpeibocaa
