/-
  The walk of the law's made: its first loop; what the two loops keep.
-/
import Derived.Test.YtphjgfjfeehjhaaRfW
import Derived.Test.YtphjgfjfeehjhaaPkF
import Derived.Test.YtphjgfjfeehjhaaActsK4
open Go Go.RowKit
set_option linter.unusedVariables false
namespace Go.Proofs.Ytphjgfjfeehjhaa
theorem info_pc : (Try.prog.info? 49).map (fun i => (i.zero, i.size, i.bytes)) = some (some (.pointer none), 1, 8) := by kernel_rfl
theorem ptrs_one (ps : List Pl) : ∀ v ∈ ptrs ps, v.oneCell' = true := fun v hv => by
  unfold ptrs at hv; rw [List.mem_map] at hv; obtain ⟨p, _, rfl⟩ := hv; rfl
theorem ptrs_len (ps : List Pl) : (ptrs ps).length = ps.length := by unfold ptrs; rw [List.length_map]
theorem chs_snoc (ps : List Pl) (Cs : List Ch) (p : Pl) (C : Ch) (h : ps.length = Cs.length) : chs (ps ++ [p]) (Cs ++ [C]) = chs ps Cs ++ [ChanA p.1 p.2 C] := by
  unfold chs; rw [List.zipWith_append h]; rfl
/-- The channels, the document's, and their rows. -/
def TwoSt (w0 w : World) (n : Nat) (la : Option Addr) (lc : Nat) (xa : Option Addr) (xc : Nat) (ps : List Pl) (Cs : List Ch) (xs : List Rf) (rs : List Rw) (R : List Asr) : Prop :=
  ps.length = n ∧ Alike ps Cs xs ∧ (∀ x ∈ xs, x.In rs) ∧ (∀ p ∈ ps, p.2 ≤ 16) ∧ Own w0 w (chs ps Cs ++ RowGA 1 la lc n (ptrs ps) :: RowGA 5 xa xc n (rfs xs) :: PoolR rs :: R)
theorem TwoSt.step {w0 w w' : World} {n : Nat} {la : Option Addr} {lc : Nat} {xa : Option Addr} {xc : Nat} {ps : List Pl} {Cs : List Ch} {xs : List Rf} {rs : List Rw} {R : List Asr} (h : TwoSt w0 w n la lc xa xc ps Cs xs rs R) (hb : Below w.heap.size w w') : TwoSt w0 w' n la lc xa xc ps Cs xs rs R :=
  ⟨h.1, h.2.1, h.2.2.1, h.2.2.2.1, h.2.2.2.2.step hb⟩
/-- The rows' pieces ahead of the channels. -/
theorem Own.front {w0 w : World} {As : List Asr} {A B C : Asr} {R : List Asr} (h : Own w0 w (As ++ A :: B :: C :: R)) : Own w0 w (A :: B :: C :: (As ++ R)) := by
  refine h.perm ?_
  have h1 : (As ++ A :: B :: C :: R).Perm ((A :: B :: C :: R) ++ As) := List.perm_append_comm
  refine h1.trans ?_
  simp only [List.cons_append]
  exact ((List.perm_append_comm (l₁ := R) (l₂ := As)).cons C |>.cons B |>.cons A)
theorem Own.rear {w0 w : World} {As : List Asr} {A B C : Asr} {R : List Asr} (h : Own w0 w (A :: B :: C :: (As ++ R))) : Own w0 w (As ++ A :: B :: C :: R) := by
  refine h.perm (List.Perm.symm ?_)
  have h1 : (As ++ A :: B :: C :: R).Perm ((A :: B :: C :: R) ++ As) := List.perm_append_comm
  refine h1.trans ?_
  simp only [List.cons_append]
  exact ((List.perm_append_comm (l₁ := R) (l₂ := As)).cons C |>.cons B |>.cons A)
/-- One channel more, in both rows. -/
theorem TwoSt.more {w0 w w1 w2 : World} {n : Nat} {la la' : Option Addr} {lc lc' : Nat} {xa xa' : Option Addr} {xc xc' : Nat} {ps : List Pl} {Cs : List Ch} {xs : List Rf} {rs : List Rw} {R : List Asr} {p N : Nat} (h : TwoSt w0 w n la lc xa xc ps Cs xs rs R) (hN : N ≤ 16)
    (hr0 : (1, none, 0, 0, []) ∈ rs ∧ (3, none, 0, 0, []) ∈ rs)
    (ho : Own w0 w1 (ChanA p N ⟨[], [], [], false⟩ :: (chs ps Cs ++ RowGA 1 la lc n (ptrs ps) :: RowGA 5 xa xc n (rfs xs) :: PoolR rs :: R)))
    (k1 : RowG 1 w2 la' lc' (n + 1) (ptrs ps ++ ptrs [(p, N)])) (c1 : Chg (blk la) w1 w2) (f1 : ∀ x ∈ blk la', x ∈ blk la ∨ w1.heap.size ≤ x) {w3 w4 : World} (b3 : Below w2.heap.size w2 w3)
    (k2 : RowG 5 w4 xa' xc' (n + 1) (rfs xs ++ rfc ⟨N, ⟨[], [], [], false⟩, none, 0, none, 0, none, 0⟩)) (c2 : Chg (blk xa) w3 w4) (f2 : ∀ x ∈ blk xa', x ∈ blk xa ∨ w3.heap.size ≤ x) :
    TwoSt w0 w4 (n + 1) la' lc' xa' xc' (ps ++ [(p, N)]) (Cs ++ [⟨[], [], [], false⟩]) (xs ++ [⟨N, ⟨[], [], [], false⟩, none, 0, none, 0, none, 0⟩]) rs R := by
  obtain ⟨h1, h2, h3, h4, -⟩ := h
  have hlen := h2.len
  have o2 : Own w0 w1 (RowGA 1 la lc n (ptrs ps) :: RowGA 5 xa xc n (rfs xs) :: PoolR rs :: (ChanA p N ⟨[], [], [], false⟩ :: chs ps Cs ++ R)) := Own.front (As := ChanA p N ⟨[], [], [], false⟩ :: chs ps Cs) ho
  have o3 := Own.rowTurn o2 k1 c1 f1
  have o4 := Own.rowTurn ((o3.step b3).pick 1 rfl) k2 c2 f2
  have o5 : Own w0 w4 (RowGA 1 la' lc' (n + 1) (ptrs ps ++ ptrs [(p, N)]) :: RowGA 5 xa' xc' (n + 1) (rfs xs ++ rfc ⟨N, ⟨[], [], [], false⟩, none, 0, none, 0, none, 0⟩) :: PoolR rs :: (ChanA p N ⟨[], [], [], false⟩ :: chs ps Cs ++ R)) := o4.pick 1 rfl
  have o6 := Own.rear (As := ChanA p N ⟨[], [], [], false⟩ :: chs ps Cs) o5
  refine ⟨by simp [h1], ⟨?_, ?_⟩, fun x hx => ?_, fun q hq => ?_, ?_⟩
  · rw [List.map_append, List.map_append, h2.1]; rfl
  · rw [List.map_append, h2.2]; rfl
  · rcases List.mem_append.1 hx with h | h
    · exact h3 x h
    · obtain rfl := by simpa using h
      exact ⟨hr0.1, hr0.2, hr0.2⟩
  · rcases List.mem_append.1 hq with h | h
    · exact h4 q h
    · obtain rfl := by simpa using h
      exact hN
  · have e1 : ptrs (ps ++ [(p, N)]) = ptrs ps ++ ptrs [(p, N)] := by unfold ptrs; rw [List.map_append]
    have e2 : rfs (xs ++ [⟨N, ⟨[], [], [], false⟩, none, 0, none, 0, none, 0⟩]) = rfs xs ++ rfc ⟨N, ⟨[], [], [], false⟩, none, 0, none, 0, none, 0⟩ := by unfold rfs; rw [List.flatMap_append]; simp
    rw [e1, e2, chs_snoc ps Cs (p, N) _ (by omega)]
    refine o6.perm ?_
    have h5 : (ChanA p N ⟨[], [], [], false⟩ :: chs ps Cs).Perm (chs ps Cs ++ [ChanA p N ⟨[], [], [], false⟩]) := (List.perm_append_singleton _ _).symm
    exact h5.append_right _
end Go.Proofs.Ytphjgfjfeehjhaa
