/-
  A source of the document's in a box: its rows in a pool.
-/
import Derived.Test.YtkjhaofodlpnmaaW17Chn1
open Go Go.RowKit
set_option linter.unusedVariables false
namespace Go.Proofs.Ytkjhaofodlpnmaa
abbrev Rows17 := List (Option Addr × List Value)
def RefC (w : World) (rs : Rows17) (X : RSrc) (na : Option Addr) (nc : Nat) (ta : Option Addr) (tc : Nat) (ka : Option Addr) (kc : Nat) : Prop :=
  OldN w na X.nums ∧ X.nums.length ≤ nc ∧ (ta, recCells X.tape) ∈ rs ∧ X.tape.length ≤ tc ∧ (ka, recCells X.taken) ∈ rs ∧ X.taken.length ≤ kc
theorem RefC.more {w : World} {rs rs' : Rows17} {X : RSrc} {na ta ka : Option Addr} {nc tc kc : Nat} (h : RefC w rs X na nc ta tc ka kc) (hs : ∀ r ∈ rs, r ∈ rs') : RefC w rs' X na nc ta tc ka kc :=
  ⟨h.1, h.2.1, hs _ h.2.2.1, h.2.2.2.1, hs _ h.2.2.2.2.1, h.2.2.2.2.2⟩
theorem RefC.rows {w wr : World} {rs : Rows17} {As : List Asr} {X : RSrc} {na ta ka : Option Addr} {nc tc kc : Nat} (h : RefC w rs X na nc ta tc ka kc) (ho : Own w wr As) (i : Nat) (hi : As[i]? = some (PoolG rs)) : RRows wr X na nc ta tc ka kc :=
  ⟨h.1.at ho.bel, h.2.1, (ho.poolGGet i hi h.2.2.1).1, h.2.2.2.1, (ho.poolGGet i hi h.2.2.2.2.1).1, h.2.2.2.2.2⟩
theorem RefC.after {w wr w' : World} {rs : Rows17} {As : List Asr} {X : RSrc} {na ta ka : Option Addr} {nc tc kc : Nat} {kind n : Int} {r : Ending} (h : RefC w rs X na nc ta tc ka kc) (ho : Own w wr (PoolG rs :: As)) (hr : RPost wr X kind n na ta ka r w') :
    ∃ rs' na' nc' ta' tc' ka' kc', r = .returned (.tuple #[rval (rdraw X kind n).1 na' nc' ta' tc' ka' kc', .int .i64 ((rdraw X kind n).2.1 : Int), .int .i64 (rdraw X kind n).2.2]) ∧ Own w w' (PoolG rs' :: As) ∧ (∀ q ∈ rs, q ∈ rs') ∧ RefC w rs' (rdraw X kind n).1 na' nc' ta' tc' ka' kc' := by
  obtain ⟨hb, na', nc', ta', tc', ka', kc', rfl, ⟨r1, r2, r3, r4, r5, r6⟩, q1, q2, q3⟩ := hr
  obtain ⟨h1, h2, h3, h4, h5, h6⟩ := h
  have hta := (ho.poolGGet 0 rfl h3).2
  have hka := (ho.poolGGet 0 rfl h5).2
  have hs := hb.size
  have o1 := ho.poolGAdd hb (a' := ka') (cs := recCells (rdraw X kind n).1.taken) r5 (fun x hx => by
    rcases q3 x hx with h | h
    · have := hka x h; omega
    · exact h.2) (fun x hx => by
    rcases q3 x hx with h | h
    · exact .inl ⟨_, h5, h⟩
    · exact .inr h.1)
  have o2 := o1.poolGAdd (Below.refl _ _) (a' := ta') (cs := recCells (rdraw X kind n).1.tape) r3 (fun x hx => by
    have := hta x (q2 x hx); omega) (fun x hx => .inl ⟨(ta, recCells X.tape), List.mem_cons_of_mem _ h3, q2 x hx⟩)
  have hn0 : X.nums = [] → (rdraw X kind n).1.nums = [] := by
    intro hx
    obtain ⟨xn, xt, xi, xk⟩ := X
    simp only at hx
    subst hx
    cases xi with
    | true =>
      cases xt with
      | nil => rfl
      | cons r t => unfold rdraw; simp only [if_true]; split <;> rfl
    | false => rfl
  exact ⟨_, na', nc', ta', tc', ka', kc', rfl, o2, fun q hq => List.mem_cons_of_mem _ (List.mem_cons_of_mem _ hq), h1.next (below_on ho.bel hb) r1 q1 hn0, r2, List.mem_cons_self, r4, List.mem_cons_of_mem _ List.mem_cons_self, r6⟩
end Go.Proofs.Ytkjhaofodlpnmaa
