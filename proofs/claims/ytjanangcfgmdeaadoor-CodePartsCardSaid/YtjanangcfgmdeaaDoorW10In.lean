/-
  A program as an argument.
-/
import Derived.Test.YtjanangcfgmdeaaDoorWCSome1
open Go Go.RowKit
set_option linter.unusedVariables false
namespace Go.Proofs.YtjanangcfgmdeaaDoor
/-- A program by value, in memory. -/
def IsPg (w : World) (fa : Option Addr) (nf fc : Nat) (ca : Option Addr) (nc cc : Nat) (lk : Int) (ka : Option Addr) (nk kc : Nat) (d : PD) : Prop :=
  d.fs.length = nf ∧ d.cs.length = nc ∧ d.ks.length = nk ∧ d.lk = lk ∧ (nf ≤ fc ∧ fc ≤ maxLen) ∧ nc ≤ maxLen ∧ nk ≤ maxLen ∧ FunC w fa d.fs ∧ IntsAt w ca d.cs ∧ CasAt w ka d.ks ∧ Fits d
theorem IsPg.below {w w' : World} {fa : Option Addr} {nf fc : Nat} {ca : Option Addr} {nc cc : Nat} {lk : Int} {ka : Option Addr} {nk kc : Nat} {d : PD} (h : IsPg w fa nf fc ca nc cc lk ka nk kc d) (hb : Below w.heap.size w w') : IsPg w' fa nf fc ca nc cc lk ka nk kc d := by
  obtain ⟨h1, h2, h3, h4, h5, h6, h7, h8, h9, h10, h11⟩ := h
  exact ⟨h1, h2, h3, h4, h5, h6, h7, h8.below hb, h9.below hb, h10.below hb, h11⟩
theorem IsPg.some {w : World} {fa : Option Addr} {nf fc : Nat} {ca : Option Addr} {nc cc : Nat} {lk : Int} {ka : Option Addr} {nk kc : Nat} {d : PD} (h : IsPg w fa nf fc ca nc cc lk ka nk kc d) :
    Calls Tryd.prog 6 #[.agg #[.slice fa nf fc, .slice ca nc cc, .int .i64 lk, .slice ka nk kc]] w fun r w' => SomeP w r w' := by
  obtain ⟨h1, h2, h3, h4, h5, h6, h7, h8, h9, h10, h11⟩ := h
  unfold maxLen at h6 h7
  have := some_any fa fc ca cc ka kc d w h8 h9 h10 h11 (by rw [h1]; exact h5.1) h5.2 (by omega) (by omega)
  rw [h1, h2, h3, h4] at this
  exact this
theorem FunC.funAt {w : World} {a : Option Addr} {l : List (List In4)} (h : FunC w a l) : FunAt w a l := fun i hi => by
  obtain ⟨b, off, a', c', h1, h2, _, _, h3⟩ := h i hi
  exact ⟨b, off, a', c', h1, h2, h3⟩
end Go.Proofs.YtjanangcfgmdeaaDoor
