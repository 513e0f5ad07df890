/-
  The law's got.
-/
import Derived.Test.YtmldfckeenahlaaWDo8r
open Go Go.RowKit
set_option linter.unusedVariables false
namespace Go.Proofs.Ytmldfckeenahlaa
theorem info_i8 : (Try.prog.info? 3).map (fun i => (i.zero, i.size, i.bytes)) = some (some (.int .i64 0), 1, 8) := by kernel_rfl
set_option maxRecDepth 100000 in
set_option maxHeartbeats 4000000 in
theorem got_any {w0 w : World} {wb : Nat} {c0 c1 c2 c3 c4 : Value} {oa : Option Addr} {oc : Nat} {out : List Int} {R : List Asr} (h : Own w0 w (CelA wb [c0, c1, c2, c3, c4, .slice oa out.length oc] :: RowA oa oc out :: R)) (x : Option Int) (hx : ∀ v, x = some v → 0 ≤ v) (hl : out.length ≤ 1000) :
    Calls Try.prog 21 #[.pointer (some ⟨wb, 0, none⟩), .int .i64 (x.getD (-1)), .bool x.isSome, .int .i64 (x.getD (-1))] w fun r w' => r = .returned (.bool true) ∧ ∃ oa' oc', Own w0 w' (CelA wb [c0, c1, c2, c3, c4, .slice oa' (out ++ x.toList).length oc'] :: RowA oa' oc' (out ++ x.toList) :: R) := by
  cases x with
  | none =>
    simp only [Option.getD_none, Option.isSome_none, Option.toList_none, List.append_nil]
    have H := Lib.hid h
    clear h
    go_enter Try.func21, Try.ntmps21
    go_wp2_with fail
    go_ret
    exact ⟨rfl, oa, oc, H.out⟩
  | some v =>
    have hv := hx v rfl
    simp only [Option.getD_some, Option.isSome_some, Option.toList_some]
    obtain ⟨n0, hi0, hz0, hz1, hz2⟩ := info_parts info_i8
    have Ni := Lib.hid hi0; clear hi0
    have Nz0 := Lib.hid hz0; clear hz0
    have Nz1 := Lib.hid hz1; clear hz1
    have Nz2 := Lib.hid hz2; clear hz2
    obtain ⟨f5, -⟩ := h.cel 0 rfl 5 _ rfl
    obtain ⟨m, hm⟩ : ∃ m, out.length = m := ⟨_, rfl⟩
    rw [hm] at f5 hl
    have HM := Lib.hid hm
    have O2 := Lib.hid (h.step (below_alloc1 w (.cells #[.int .i64 v] 3)))
    clear h hm hx
    go_enter Try.func21, Try.ntmps21
    go_wp2_with (at_builtin; refine wpList_append_rowG (n := m) (m := 1) (cs := intc out) (ds := intc [v]) rfl _ _ 35 rfl 3 n0 _ Try.underlying35 Ni.out Nz0.out Nz1.out Nz2.out rfl (by omega) (by omega) rfl rfl (by have h1 := RowG.of_row (O2.out.row 1 rfl); rw [HM.out] at h1; exact h1) (CellsAt.new w (intc [v]) _ (by first | rfl | simp)) rfl (intc_one _) (by omega) ?_)
    intro a9 c9 w9 k9 ch9 f9
    rw [← intc_app] at k9
    obtain ⟨k10, k11⟩ := k9.to_row
    have o9 := ((O2.out.pick 1 rfl).app k10 ch9 (fun x hx => by have := f9 x hx; simpa using this)).pick 1 rfl
    obtain ⟨y5, g5⟩ := o9.cel 0 rfl 5 _ rfl
    have hfin := o9.set 5 (.slice a9 (m + 1) c9)
    have HF := Lib.hid hfin
    clear o9 k9 k10 k11 ch9 f9 hfin O2 f5
    go_wp2_with fail
    go_ret
    have e : (out ++ [v]).length = m + 1 := by rw [List.length_append, HM.out]; rfl
    rw [e]
    exact ⟨rfl, a9, c9, HF.out⟩
theorem perm_got {A B X gl gl' out : List Int} (h : (A ++ (gl' ++ X)).Perm (B ++ gl)) : (A ++ (gl' ++ (out ++ X))).Perm (B ++ (gl ++ out)) := by
  rw [List.perm_iff_count] at *
  intro a
  have := h a
  simp only [List.count_append] at *
  omega
theorem mFetch_perm (N : Nat) (q : LQ) (gl : List Int) (k : Int) : ((mFetch N q gl k).1.nx.toList ++ (mFetch N q gl k).1.l ++ ((mFetch N q gl k).2.1 ++ (mFetch N q gl k).2.2.toList)).Perm (q.nx.toList ++ q.l ++ gl) := by
  unfold mFetch
  cases gl with
  | nil => simp
  | cons x t =>
    obtain ⟨s, hs⟩ : ∃ s, mShare N q (x :: t) k = s + 1 := ⟨mShare N q (x :: t) k - 1, by have := mShare_pos N q (x :: t) k; omega⟩
    simp only [hs, List.take_succ_cons, List.tail_cons, List.drop_succ_cons]
    rw [List.perm_iff_count]
    intro a
    have h := congrArg (List.count a) (List.take_append_drop s t)
    rw [List.count_append] at h
    simp only [List.count_append, List.count_cons, List.count_nil, Option.toList_some]
    omega
section
variable {w0 w : World} {A B C D E F T : Asr} {ds : List Qd}
theorem Own.locOutT (h : Own w0 w (A :: B :: C :: D :: E :: F :: (locs ds ++ [T]))) {i : Nat} {d : Qd} (hi : ds[i]? = some d) : Own w0 w (locA d :: A :: B :: C :: D :: E :: F :: (locs ds ++ [T]).eraseIdx i) :=
  h.pick (i + 6) (by
    have hl : i < (locs ds).length := (List.getElem?_eq_some_iff.1 (locs_at hi)).1
    show (locs ds ++ [T])[i]? = _
    rw [List.getElem?_append_left hl]; exact locs_at hi)
theorem Own.locInT {i : Nat} {d : Qd} (h : Own w0 w (locA d :: A :: B :: C :: D :: E :: F :: (locs ds ++ [T]).eraseIdx i)) (hi : i < ds.length) : Own w0 w (A :: B :: C :: D :: E :: F :: (locs (ds.set i d) ++ [T])) := by
  have h1 : Own w0 w (locA d :: (A :: B :: C :: D :: E :: F :: (locs ds ++ [T])).eraseIdx (i + 6)) := h
  have h2 := h1.back (by simp [locs]; omega)
  have h3 : Own w0 w (A :: B :: C :: D :: E :: F :: (locs ds ++ [T]).set i (locA d)) := h2
  rw [List.set_append_left _ _ (by simpa [locs] using hi), locs_set] at h3
  exact h3
theorem Own.dropEnd (h : Own w0 w (A :: B :: C :: D :: E :: F :: (locs ds ++ [T]))) : Own w0 w (A :: B :: C :: D :: E :: F :: locs ds) :=
  (Own.perm (As := (A :: B :: C :: D :: E :: F :: locs ds) ++ [T]) h List.perm_append_comm).drop
end
end Go.Proofs.Ytmldfckeenahlaa
