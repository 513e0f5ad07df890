/-
  The law's world: two queues at once, for Steal.
-/
import Derived.Test.YtmldfckeenahlaaWDo8h
open Go Go.RowKit
set_option linter.unusedVariables false
namespace Go.Proofs.Ytmldfckeenahlaa
theorem mSteal_perm (N : Nat) (q f : LQ) : ((mSteal N q f).1.nx.toList ++ (mSteal N q f).1.l ++ ((mSteal N q f).2.1.nx.toList ++ (mSteal N q f).2.1.l) ++ (mSteal N q f).2.2.toList).Perm (q.nx.toList ++ q.l ++ (f.nx.toList ++ f.l)) := by
  unfold mSteal
  cases hl : f.l with
  | nil => simp
  | cons x t =>
    obtain ⟨m, hm⟩ : ∃ m, min (((x :: t).length + 1) / 2) (N - q.l.length + 1) = m + 1 := ⟨min (((x :: t).length + 1) / 2) (N - q.l.length + 1) - 1, by simp only [List.length_cons]; omega⟩
    rw [List.perm_iff_count]
    intro a
    have h := congrArg (List.count a) (List.take_append_drop m t)
    rw [List.count_append] at h
    simp only [hm, List.take_succ_cons, List.tail_cons, List.drop_succ_cons, Option.toList_some, List.count_append, List.count_cons, List.count_nil]
    omega
theorem two_perm {α : Type} : ∀ (l : List α) (i k : Nat) (d e : α), i ≠ k → l[i]? = some d → l[k]? = some e → ∃ r : List α, l.Perm (d :: e :: r) ∧ ∀ d' e', ((l.set i d').set k e').Perm (d' :: e' :: r)
  | [], i, k, d, e, _, h, _ => by simp at h
  | x :: t, 0, 0, d, e, hne, _, _ => absurd rfl hne
  | x :: t, 0, k + 1, d, e, _, h, g => by
    have hk : t[k]? = some e := g
    have hx : x = d := by simpa using h
    subst hx
    refine ⟨t.eraseIdx k, (pick_perm t k e hk).cons _, fun d' e' => ?_⟩
    exact ((back_perm t k e' (List.getElem?_eq_some_iff.1 hk).1).symm).cons _
  | x :: t, i + 1, 0, d, e, _, h, g => by
    have hi : t[i]? = some d := h
    have hx : x = e := by simpa using g
    subst hx
    refine ⟨t.eraseIdx i, ((pick_perm t i d hi).cons _).trans (List.Perm.swap _ _ _), fun d' e' => ?_⟩
    exact (((back_perm t i d' (List.getElem?_eq_some_iff.1 hi).1).symm).cons _).trans (List.Perm.swap _ _ _)
  | x :: t, i + 1, k + 1, d, e, hne, h, g => by
    obtain ⟨r, h1, h2⟩ := two_perm t i k d e (by omega) h g
    refine ⟨x :: r, (h1.cons x).trans ((List.Perm.swap _ _ _).trans ((List.Perm.swap _ _ _).cons _)), fun d' e' => ?_⟩
    exact ((h2 d' e').cons x).trans ((List.Perm.swap _ _ _).trans ((List.Perm.swap _ _ _).cons _))
theorem Inv8.two {ds : List Qd} {gl out gl' out' : List Int} {nx : Nat} (h : Inv8 ds gl nx out) {i k : Nat} (hne : i ≠ k) {d e d' e' : Qd} (hi : ds[i]? = some d) (hk : ds[k]? = some e) (hp : (qn d' ++ qn e' ++ (gl' ++ out')).Perm (qn d ++ qn e ++ (gl ++ out))) : Inv8 ((ds.set i d').set k e') gl' nx out' := by
  obtain ⟨r, h1, h2⟩ := two_perm ds i k d e hne hi hk
  have h3 := h1.flatMap_right qn
  have h4 := (h2 d' e').flatMap_right qn
  clear h1 h2
  unfold Inv8 alln at *
  rw [List.perm_iff_count] at *
  intro a
  have g1 := h a
  have g2 := hp a
  have g3 := h3 a
  have g4 := h4 a
  simp only [List.count_append, List.flatMap_cons] at *
  omega
section
variable {w0 w : World} {A B C D E F T : Asr} {ds : List Qd}
/-- Two queues stand ahead; what is put back is another state's. -/
theorem loc_two {i k : Nat} {d e : Qd} (hne : i ≠ k) (hi : ds[i]? = some d) (hk : ds[k]? = some e) : ∃ r : List Asr, (∀ w0 w, Own w0 w (A :: B :: C :: D :: E :: F :: (locs ds ++ [T])) → Own w0 w (locA d :: locA e :: A :: B :: C :: D :: E :: F :: T :: r)) ∧
    ∀ (w0 w : World) (A B C D E F T : Asr) (d' e' : Qd), Own w0 w (locA d' :: locA e' :: A :: B :: C :: D :: E :: F :: T :: r) → Own w0 w (A :: B :: C :: D :: E :: F :: (locs ((ds.set i d').set k e') ++ [T])) := by
  obtain ⟨r, h1, h2⟩ := two_perm ds i k d e hne hi hk
  have key : ∀ (A B C D E F T d e : Asr) (l r : List Asr), l.Perm (d :: e :: r) → (A :: B :: C :: D :: E :: F :: (l ++ [T])).Perm (d :: e :: A :: B :: C :: D :: E :: F :: T :: r) := fun A B C D E F T d e l r h => by
    have g1 : (A :: B :: C :: D :: E :: F :: (l ++ [T])).Perm ([A, B, C, D, E, F, T] ++ (d :: e :: r)) :=
      ((List.perm_append_singleton T l).trans (h.cons T)).append_left [A, B, C, D, E, F]
    exact g1.trans (List.perm_append_comm.trans ((List.perm_append_comm (l₁ := r) (l₂ := [A, B, C, D, E, F, T])).append_left [d, e]))
  refine ⟨locs r, fun w0 w h => h.perm (key _ _ _ _ _ _ _ _ _ _ _ (h1.map locA)), fun w0 w A B C D E F T d' e' h => h.perm (key _ _ _ _ _ _ _ _ _ _ _ ((h2 d' e').map locA)).symm⟩
end
end Go.Proofs.Ytmldfckeenahlaa
