/-
  A map that counts numbers that come once each.
-/
import Derived.Test.YtmldfckeenahlaaWDo8b
import Derived.Maps.OwnSet
import Derived.WalkArith
open Go Go.RowKit Go.Maps
set_option linter.unusedVariables false
namespace Go.Proofs.Ytmldfckeenahlaa
theorem lawI8 : Keyed Try.prog 3 := int_keyed Try.underlying3
theorem zeroI8 (w : World) : (zeroValue 3).run Try.prog w = .ok (.int .i64 0) w := by kernel_rfl
/-- Each of M is there once; nothing else is. -/
def Cnt (w : World) (r : Nat) (M : List Int) : Prop :=
  ∃ D, w.ownsMap (H := Unit) Try.prog 3 (plainElem Try.prog 3) r M.length D ∧ (∀ v, v ∈ M → has D (.int .i64 v) = true ∧ D.atKey (.int .i64 v) (.lit (.int .i64 0)) = .lit (.int .i64 1)) ∧ (∀ v, v ∉ M → has D (.int .i64 v) = false) ∧ Maps.size D = M.length
def CntA (r : Nat) (M : List Int) : Asr where
  at_ w F := F = [r] ∧ Cnt w r M
  lt := by rintro w F ⟨rfl, D, h, _⟩ x hx; simp at hx; subst hx; exact h.lt
  chg := by
    rintro w w' F G ⟨rfl, D, h, h2⟩ c hd
    have hl := h.lt
    obtain ⟨es, clock, hb, hF, hs, hD⟩ := h
    exact ⟨rfl, D, ⟨es, clock, by rw [c.block r hl (hd r (by simp))]; exact hb, hF, hs, hD⟩, h2⟩
theorem wf8 {v : Int} (h : 0 ≤ v ∧ v < 1000) : (Lit.int .i64 v).wf = true := WalkArith.wf_i64 (by omega)
theorem key8 {v : Int} (h : 0 ≤ v ∧ v < 1000) : keyOf Try.prog 3 (.int .i64 v) = some (.int .i64 v) := keyOf_int_mk Try.underlying3 (wf8 h)
theorem Own.cntNew {w0 w : World} {R : List Asr} (h : Own w0 w R) {r : Nat} (hr : r = w.heap.size) : Own w0 (w.alloc (.map #[] 0)) (CntA r [] :: R) := by
  subst hr
  exact h.add (below_alloc1 _ _) (A := CntA w.heap.size []) (F := [w.heap.size]) ⟨rfl, _, World.ownsMap_made _ _ _ _, fun v hv => by simp at hv, fun v _ => rfl, rfl⟩ (fun x hx => by simp at hx; omega)
theorem Own.cnt {w0 w : World} {r : Nat} {M : List Int} {R : List Asr} (h : Own w0 w (CntA r M :: R)) (v : Int) (hv : 0 ≤ v ∧ v < 1000) (hn : v ∉ M) (hl : M.length ≤ 1000) :
    (Instr.lookup 31 (.map (some r)) (.int .i64 v) false).run Try.prog w = .ok (.int .i64 0) w ∧ ∃ w', (Instr.mapUpdate 31 (.map (some r)) (.int .i64 v) (.int .i64 1)).run Try.prog w = .ok () w' ∧ Own w0 w' (CntA r (M ++ [v]) :: R) := by
  obtain ⟨F, ⟨_, D, hD, h1, h2, h3⟩, _⟩ := h.fact 0 rfl
  refine ⟨?_, ?_⟩
  · obtain ⟨c, hrun, hat, hwc⟩ := hD.lookup_int lawI8 Try.underlying31 Try.underlying3 (zeroI8 _) (key8 hv)
    rw [atKey_of_not_has (h2 v hn)] at hat
    have hc : c = 0 := by simpa using hat.symm
    rw [hc] at hrun
    exact hrun
  · obtain ⟨w', hrun, hD', hg⟩ := hD.update lawI8 Try.underlying31 (by unfold maxLen; omega) (key8 hv) (plainElem_int Try.underlying3 (a := 1) (by decide))
    refine ⟨w', hrun, Own.turn (As := [CntA r M]) (As' := [CntA r (M ++ [v])]) (R := R) h (fun F hF => ?_)⟩
    obtain ⟨rfl, _⟩ := sep_one.1 hF
    refine ⟨[r], sep_one.2 ⟨rfl, D.put (.int .i64 v) (.lit (.int .i64 1)), by rw [List.length_append]; exact hD', fun u hu => ?_, fun u hu => ?_, ?_⟩, (grownBy_chg hg).mono (by simp), fun x hx => .inl hx⟩
    · have hkl : WideAt.IsKeyLit (Lit.int .i64 v) := by first | trivial | simp [WideAt.IsKeyLit]
      by_cases e : u = v
      · subst e
        exact ⟨has_put_same hD.isMap hkl _, atKey_put_same hD.isMap hkl _ _⟩
      · have hu' : u ∈ M := by rcases List.mem_append.1 hu with h | h; exact h; exact absurd (List.mem_singleton.1 h) e
        have hne : (Lit.int .i64 u) ≠ .int .i64 v := fun hc => e (by injection hc)
        rw [has_put_other hne, atKey_put_other hne]
        exact h1 u hu'
    · have e : u ≠ v := fun hc => hu (by rw [hc]; simp)
      have hne : (Lit.int .i64 u) ≠ .int .i64 v := fun hc => e (by injection hc)
      rw [has_put_other hne]
      exact h2 u (fun hc => hu (List.mem_append.2 (.inl hc)))
    · rw [size_put (hD.tidy lawI8), h2 v hn, h3, List.length_append]; rfl
theorem Own.cntGet {w0 w : World} {r : Nat} {M : List Int} {R : List Asr} (h : Own w0 w (CntA r M :: R)) (v : Int) (hv : 0 ≤ v ∧ v < 1000) (hn : v ∈ M) :
    (Instr.lookup 31 (.map (some r)) (.int .i64 v) false).run Try.prog w = .ok (.int .i64 1) w := by
  obtain ⟨F, ⟨_, D, hD, h1, h2, h3⟩, _⟩ := h.fact 0 rfl
  obtain ⟨c, hrun, hat, hwc⟩ := hD.lookup_int lawI8 Try.underlying31 Try.underlying3 (zeroI8 _) (key8 hv)
  rw [(h1 v hn).2] at hat
  have hc : c = 1 := by simpa using hat.symm
  rw [hc] at hrun
  exact hrun
theorem Own.cntLen {w0 w : World} {r : Nat} {M : List Int} {R : List Asr} (h : Own w0 w (CntA r M :: R)) (ty : TypeId) :
    (Builtin.len_ #[31] ty #[.map (some r)]).run Try.prog w = .ok (.int .i64 (M.length : Int)) w := by
  obtain ⟨F, ⟨_, D, hD, h1, h2, h3⟩, _⟩ := h.fact 0 rfl
  rw [hD.len Try.underlying31 ty, h3]
/-- What comes next isn't there yet. -/
theorem nodup_next {M l rest : List Int} (h : (M ++ (l ++ rest)).Nodup) (j : Nat) (hj : j < l.length) : l[j] ∉ M ++ l.take j := fun hc => by
  have e : M ++ (l ++ rest) = (M ++ l.take j) ++ (l[j] :: (l.drop (j + 1) ++ rest)) := by
    have h1 := List.take_append_drop j l
    rw [List.drop_eq_getElem_cons hj] at h1
    have h2 : l ++ rest = l.take j ++ (l[j] :: (l.drop (j + 1) ++ rest)) := by
      rw [← List.cons_append, ← List.append_assoc, h1]
    rw [h2]
    simp
  rw [e] at h
  exact (List.nodup_append.1 h).2.2 _ hc _ (List.mem_cons_self ..) rfl
theorem take_next (M l : List Int) (j : Nat) (hj : j < l.length) : (M ++ l.take j) ++ [l[j]] = M ++ l.take (j + 1) := by
  rw [List.take_add_one, List.getElem?_eq_getElem hj, List.append_assoc]; rfl
end Go.Proofs.Ytmldfckeenahlaa
