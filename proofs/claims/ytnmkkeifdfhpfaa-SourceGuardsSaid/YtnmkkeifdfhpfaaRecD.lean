/-
  A region that draws its order, in a call that was deferred, with recover in it: each of the orders that there are. No program is named here.
-/
import Derived.Test.YtnmkkeifdfhpfaaSegH2
import Derived.Recover
open Go Go.RowKit
set_option linter.unusedVariables false
namespace Go.Proofs.Ytnmkkeifdfhpfaa
/-- All orders that may come up. -/
def orders (md : Region.Mode) (ops : Array Oper) : Nat → Array Bool → List Nat → List (List Nat)
  | 0, _, acc => [acc.reverse]
  | fuel + 1, listed, acc => if Region.ready md ops listed = [] then [acc.reverse] else (Region.ready md ops listed).flatMap fun i => orders md ops fuel (listed.setIfInBounds i true) (i :: acc)
theorem go_orders (md : Region.Mode) (ops : Array Oper) : ∀ (fuel t : Nat) (listed : Array Bool) (acc : List Nat), Region.linearise.go md ops fuel t listed acc ∈ orders md ops fuel listed acc
  | 0, t, listed, acc => by simp [Region.linearise.go, orders]
  | fuel + 1, t, listed, acc => by
    simp only [Region.linearise.go, orders]
    change (match (Region.ready md ops listed)[t % (Region.ready md ops listed).length]? with
      | some i => Region.linearise.go md ops fuel (t / (Region.ready md ops listed).length) (listed.setIfInBounds i true) (i :: acc)
      | none => acc.reverse) ∈ _
    by_cases h0 : Region.ready md ops listed = []
    · rw [if_pos h0, h0]; simp
    · rw [if_neg h0]
      have hlt : t % (Region.ready md ops listed).length < (Region.ready md ops listed).length := Nat.mod_lt _ (List.length_pos_iff.2 h0)
      rw [List.getElem?_eq_getElem hlt]
      exact List.mem_flatMap.2 ⟨_, List.getElem_mem hlt, go_orders md ops fuel _ _ _⟩
section
variable {P : Program} {Q : Exit → Act → List Frame → World → Prop} {a : Act} {cs : List Frame} {w : World}
theorem wpS_region_draw {id : Nat} {ops : Array Oper} (hm : P.follows .mixedOrders = true) (L : List (List Nat)) (hL : orders .any ops ops.size (Array.replicate ops.size false) [] = L) (h : ∀ l ∈ L, wpOpsS P ops Q l a cs w.drew) : (Code.region id ops true).wpS P Q a cs w :=
  fun b k hb hr => by
    have hs : Region.schedule (P.follows .mixedOrders) ops (w.tape w.drawn (.order b.fn id)) ∈ L := by
      rw [← hL]
      simp only [Region.schedule, hm, Bool.true_or, if_true]
      exact go_orders _ _ _ _ _ _
    obtain ⟨e, a', cs', w', q, r⟩ := wp_opsS _ a cs w.drew (h _ hs) b k hb hr
    exact ⟨e, a', cs', w', q, .of_steps (.one step_region_draw) r⟩
theorem opsS_rec {ops : Array Oper} {i : Nat} {rest : List Nat} {o : Oper} {v : Value} {cs' : List Frame} {w' : World} (ho : ops[i]? = some o) (hw : Region.wanted o (yielded ops a.tmps) = true) (hr : (execOp a.eval o).run P w = .ok .recover w') (hc : recoverD cs = some (v, cs'))
    (h : wpOpsS P ops Q rest (a.put o.dst v) cs' w') : wpOpsS P ops Q (i :: rest) a cs w := by
  simp only [wpOpsS, ho, hw, hr, hc, if_true]; exact h
theorem opsS_val {ops : Array Oper} {i : Nat} {rest : List Nat} {o : Oper} {v : Value} {w' : World} (ho : ops[i]? = some o) (hw : Region.wanted o (yielded ops a.tmps) = true) (hr : (execOp a.eval o).run P w = .ok (.value v) w')
    (h : wpOpsS P ops Q rest (a.put o.dst v) cs w') : wpOpsS P ops Q (i :: rest) a cs w := by
  simp only [wpOpsS, ho, hw, hr, if_true, Oper.upon]; exact h
theorem opsS_skip {ops : Array Oper} {i : Nat} {rest : List Nat} {o : Oper} {w' : World} (ho : ops[i]? = some o) (hw : Region.wanted o (yielded ops a.tmps) = true) (hr : (execOp a.eval o).run P w = .ok .skip w')
    (h : wpOpsS P ops Q rest (a.put o.dst undef) cs w') : wpOpsS P ops Q (i :: rest) a cs w := by
  simp only [wpOpsS, ho, hw, hr, if_true, Oper.upon]; exact h
end
end Go.Proofs.Ytnmkkeifdfhpfaa
