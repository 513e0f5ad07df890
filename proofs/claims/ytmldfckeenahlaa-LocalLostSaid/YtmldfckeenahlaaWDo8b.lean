/-
  The law's world of four queues: its state.
-/
import Derived.Test.YtmldfckeenahlaaWDo8a
open Go Go.RowKit
set_option linter.unusedVariables false
namespace Go.Proofs.Ytmldfckeenahlaa
abbrev Rr := Option Addr × Nat × List Int
/-- Rows that come to the pool together. -/
theorem Own.poolAddL {w0 w w' : World} {As : List Asr} {rs : List Rr} (h : Own w0 w (PoolA rs :: As)) (hb : Below w.heap.size w w') (news : List Rr)
    (ha : ∀ r ∈ news, RowAt w' r.1 r.2.1 r.2.2 ∧ ∀ x ∈ blk r.1, (∃ q ∈ rs, x ∈ blk q.1) ∨ w.heap.size ≤ x) : Own w0 w' (PoolA (news ++ rs) :: As) := by
  obtain ⟨h1, F, ⟨F1, F2, rfl, ⟨h2, h2'⟩, h3, h4⟩, h5⟩ := h
  have hs := h1.size
  have hs2 := hb.size
  refine ⟨below_on h1 hb, (F1 ++ (news.flatMap fun r => blk r.1).filter (fun x => decide (w.heap.size ≤ x))) ++ F2, ⟨_, F2, rfl, ⟨fun x hx => ?_, fun q hq => ?_⟩, fun x hx hc => ?_, h4.chg (Chg.of_below (F := []) hb) (fun _ _ => by simp)⟩, fun x hx => ?_⟩
  · rcases List.mem_append.1 hx with h | h
    · have := h2 x h; omega
    · obtain ⟨r, hr, hxr⟩ := List.mem_flatMap.1 (List.mem_filter.1 h).1
      exact (ha r hr).1.lt x hxr
  · rcases List.mem_append.1 hq with hq | hq
    · refine ⟨fun x hx' => ?_, (ha q hq).1⟩
      rcases (ha q hq).2 x hx' with ⟨r, hr, h⟩ | h
      · exact List.mem_append.2 (.inl ((h2' r hr).1 x h))
      · exact List.mem_append.2 (.inr (List.mem_filter.2 ⟨List.mem_flatMap.2 ⟨q, hq, hx'⟩, by simpa using h⟩))
    · exact ⟨fun x hx => List.mem_append.2 (.inl ((h2' q hq).1 x hx)), (h2' q hq).2.below hb⟩
  · rcases List.mem_append.1 hx with h | h
    · exact h3 x h hc
    · have h6 : decide (w.heap.size ≤ x) = true := (List.mem_filter.1 h).2
      have h7 := h4.lt x hc
      have h8 := of_decide_eq_true h6
      omega
  · rcases List.mem_append.1 hx with h | h
    · rcases List.mem_append.1 h with h | h
      · exact h5 x (by simp [h])
      · have h6 : decide (w.heap.size ≤ x) = true := (List.mem_filter.1 h).2
        have h8 := of_decide_eq_true h6
        omega
    · exact h5 x (by simp [h])
/-- The world's pieces: ds: the program's queues; es: the document's; gl, yl: the global rows. -/
def D8 (w0 w : World) (wb b : Nat) (la : Option Addr) (lc : Nat) (xa : Option Addr) (xc : Nat) (ds es : List Qd) (rs : List Rr) (gl yl : List Int) (ya : Option Addr) (yc : Nat) (nx : Int) (out : List Int) (oa : Option Addr) (oc : Nat) : Prop :=
  Own w0 w (CelA wb [.slice la 4 lc, .pointer (some ⟨b, 0, none⟩), .slice xa 4 xc, .slice ya yl.length yc, .int .i64 nx, .slice oa out.length oc] :: RowGA 1 la lc 4 (lptr ds) :: gloA b gl :: RowGA 3 xa xc 4 (xcs es) :: PoolA rs :: RowA oa oc out :: locs ds)
section
variable {w0 w : World} {A B C D E F : Asr} {ds : List Qd}
theorem Own.locOut (h : Own w0 w (A :: B :: C :: D :: E :: F :: locs ds)) {i : Nat} {d : Qd} (hi : ds[i]? = some d) : Own w0 w (locA d :: A :: B :: C :: D :: E :: F :: (locs ds).eraseIdx i) := h.pick (i + 6) (by simpa using locs_at hi)
theorem Own.locIn {i : Nat} {d : Qd} (h : Own w0 w (locA d :: A :: B :: C :: D :: E :: F :: (locs ds).eraseIdx i)) (hi : i < ds.length) : Own w0 w (A :: B :: C :: D :: E :: F :: locs (ds.set i d)) := by
  have h1 : Own w0 w (locA d :: (A :: B :: C :: D :: E :: F :: locs ds).eraseIdx (i + 6)) := h
  have h2 := h1.back (by simp [locs]; omega)
  rw [← locs_set]
  exact h2
end
/-- All numbers of a queue. -/
def qn (d : Qd) : List Int := d.q.nx.toList ++ d.q.l
def alln (ds : List Qd) : List Int := ds.flatMap qn
/-- Each number stands in one place. -/
def Inv8 (ds : List Qd) (gl : List Int) (nx : Nat) (out : List Int) : Prop := (alln ds ++ (gl ++ out)).Perm ((List.range nx).map fun n : Nat => (n : Int))
theorem alln_out {ds : List Qd} {i : Nat} {d : Qd} (h : ds[i]? = some d) : (alln ds).Perm (qn d ++ alln (ds.eraseIdx i)) := (pick_perm ds i d h).flatMap_right qn
theorem alln_in (ds : List Qd) (i : Nat) (d : Qd) (h : i < ds.length) : (alln (ds.set i d)).Perm (qn d ++ alln (ds.eraseIdx i)) := ((back_perm ds i d h).flatMap_right qn).symm
theorem Inv8.nonneg {ds : List Qd} {gl out : List Int} {nx : Nat} (h : Inv8 ds gl nx out) : ∀ v ∈ alln ds ++ (gl ++ out), 0 ≤ v ∧ v < nx := fun v hv => by
  obtain ⟨n, hn, rfl⟩ := List.mem_map.1 (h.mem_iff.1 hv)
  have := List.mem_range.1 hn
  omega
theorem Inv8.len {ds : List Qd} {gl out : List Int} {nx : Nat} (h : Inv8 ds gl nx out) : (alln ds).length + (gl.length + out.length) = nx := by
  have := h.length_eq
  simpa using this
/-- One queue, the global row, what was handed out are others; maybe one number more. -/
theorem Inv8.next {ds : List Qd} {gl out gl' out' : List Int} {nx : Nat} (h : Inv8 ds gl nx out) {i : Nat} {d d' : Qd} (hi : ds[i]? = some d) (more : Nat) (hp : (qn d' ++ (gl' ++ out')).Perm ((qn d ++ (gl ++ out)) ++ ((List.range more).map fun n : Nat => ((nx + n : Nat) : Int)))) : Inv8 (ds.set i d') gl' (nx + more) out' := by
  have hil := (List.getElem?_eq_some_iff.1 hi).1
  have e : (List.range (nx + more)).map (fun n : Nat => (n : Int)) = (List.range nx).map (fun n : Nat => (n : Int)) ++ (List.range more).map fun n : Nat => ((nx + n : Nat) : Int) := by
    rw [List.range_add, List.map_append, List.map_map]; rfl
  unfold Inv8 at *
  rw [e, List.perm_iff_count] at *
  intro a
  have h1 := h a
  have h2 := hp a
  have h3 := (alln_out hi).count_eq a
  have h4 := (alln_in ds i d' hil).count_eq a
  simp only [List.count_append] at *
  omega
theorem Inv8.one {ds : List Qd} {gl out gl' out' : List Int} {nx : Nat} (h : Inv8 ds gl nx out) {i : Nat} {d d' : Qd} (hi : ds[i]? = some d) (hp : (qn d' ++ (gl' ++ out')).Perm ((nx : Int) :: (qn d ++ (gl ++ out)))) : Inv8 (ds.set i d') gl' (nx + 1) out' := by
  refine h.next hi 1 (hp.trans ?_)
  simp only [List.range_one, List.map_cons, List.map_nil, Nat.add_zero]
  exact (List.perm_append_singleton _ _).symm
theorem Inv8.same {ds : List Qd} {gl out gl' out' : List Int} {nx : Nat} (h : Inv8 ds gl nx out) {i : Nat} {d d' : Qd} (hi : ds[i]? = some d) (hp : (qn d' ++ (gl' ++ out')).Perm (qn d ++ (gl ++ out))) : Inv8 (ds.set i d') gl' nx out' := by
  refine h.next hi 0 (hp.trans ?_)
  simp
theorem mPut_perm (N : Nat) (q : LQ) (v : Int) (gl : List Int) : ((mPut N q v gl).1.nx.toList ++ (mPut N q v gl).1.l ++ (mPut N q v gl).2.1).Perm (v :: (q.nx.toList ++ q.l ++ gl)) := by
  rw [List.perm_iff_count]
  intro a
  have h := congrArg (List.count a) (List.take_append_drop (q.l.length / 2) q.l)
  rw [List.count_append] at h
  unfold mPut
  split
  · simp only [List.count_append, List.count_cons, List.count_nil]; omega
  · simp only [List.count_append, List.count_cons, List.count_nil]; omega
theorem mPut_nx (N : Nat) (q : LQ) (v : Int) (gl : List Int) : (mPut N q v gl).1.nx = q.nx := by unfold mPut; split <;> rfl
theorem mTurn_perm (N : Nat) (q : LQ) (gl : List Int) : ((mTurn N q gl).1.l ++ (mTurn N q gl).2.1).Perm (q.nx.toList ++ q.l ++ gl) := by
  unfold mTurn
  cases hq : q.nx with
  | none => simp
  | some v =>
    have h := mPut_perm N ⟨none, q.l⟩ v gl
    rw [mPut_nx] at h
    simpa using h
theorem mReady_perm (N : Nat) (q : LQ) (v : Int) (gl : List Int) : ((mReady N q v gl).1.nx.toList ++ (mReady N q v gl).1.l ++ (mReady N q v gl).2.1).Perm (v :: (q.nx.toList ++ q.l ++ gl)) := by
  unfold mReady
  simpa using (mTurn_perm N q gl).cons v
theorem mGet_perm (q : LQ) : ((mGet q).1.nx.toList ++ (mGet q).1.l ++ (mGet q).2.toList).Perm (q.nx.toList ++ q.l) := by
  unfold mGet
  cases hq : q.nx with
  | some v => simp
  | none =>
    cases hl : q.l with
    | nil => simp [hq, hl]
    | cons x t => simp
/-- The state behind any calls. -/
def St8 (w0 w : World) (wb b : Nat) (ds : List Qd) (gl : List Int) (nx : Nat) (out : List Int) : Prop :=
  ∃ la lc xa xc rs ya yc oa oc, D8 w0 w wb b la lc xa xc ds ds rs gl gl ya yc nx out oa oc ∧ ds.length = 4 ∧ (∀ d ∈ ds, (d.xa, d.xc, d.q.l) ∈ rs) ∧ (ya, yc, gl) ∈ rs ∧ Inv8 ds gl nx out
end Go.Proofs.Ytmldfckeenahlaa
