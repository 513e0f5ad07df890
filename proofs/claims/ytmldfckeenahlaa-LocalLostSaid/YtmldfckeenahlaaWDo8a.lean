/-
  The law's world of four queues: its pieces of memory, and the calls on them.
-/
import Derived.Test.YtmldfckeenahlaaWRef8d
import Derived.Test.YtmldfckeenahlaaWLoc6
import Derived.Test.YtmldfckeenahlaaWLoc5
import Derived.Test.YtmldfckeenahlaaSegY
import Derived.Test.YtmldfckeenahlaaRowG2
import Derived.Test.YtmldfckeenahlaaPool
import Derived.Test.YtmldfckeenahlaaWLoc3
open Go Go.RowKit
set_option linter.unusedVariables false
namespace Go.Proofs.Ytmldfckeenahlaa
/-- A queue, and the document's: where it lies, its room, who is in it; where the document's row lies. -/
structure Qd where
  p : Nat
  g : Nat
  N : Nat
  q : LQ
  xa : Option Addr
  xc : Nat
def locA (d : Qd) : Asr where
  at_ w F := F = [d.p, d.g] ∧ LocAt w d.p d.g d.N d.q
  lt := by rintro w F ⟨rfl, h⟩ x hx; have := h.lt; simp at hx; rcases hx with rfl | rfl <;> omega
  chg := by rintro w w' F G ⟨rfl, h⟩ c hd; exact ⟨rfl, h.chg c (hd _ (by simp)) (hd _ (by simp))⟩
def gloA (b : Nat) (gl : List Int) : Asr where
  at_ w F := GloAt w b gl F
  lt := fun h => h.lt
  chg := fun h c hd => h.chg c hd
def locs (ds : List Qd) : List Asr := ds.map locA
def lptr (ds : List Qd) : List Value := ds.map fun d => .pointer (some ⟨d.p, 0, none⟩)
def xcell (d : Qd) : List Value := [.int .i64 d.q.num, .slice d.xa d.q.l.length d.xc, .int .i64 (d.N : Int)]
def xcs (ds : List Qd) : List Value := ds.flatMap xcell
theorem locs_at {ds : List Qd} {i : Nat} {d : Qd} (h : ds[i]? = some d) : (locs ds)[i]? = some (locA d) := by unfold locs; rw [List.getElem?_map, h]; rfl
theorem locs_set (ds : List Qd) (i : Nat) (d : Qd) : (locs ds).set i (locA d) = locs (ds.set i d) := by unfold locs; rw [List.map_set]
theorem lptr_at {ds : List Qd} {i : Nat} {d : Qd} (h : ds[i]? = some d) : (lptr ds)[i]? = some (.pointer (some ⟨d.p, 0, none⟩)) := by unfold lptr; rw [List.getElem?_map, h]; rfl
theorem lptr_set {ds : List Qd} {i : Nat} {d d' : Qd} (h : ds[i]? = some d) (e : d'.p = d.p) : lptr (ds.set i d') = lptr ds := by
  unfold lptr
  rw [List.map_set]
  apply List.ext_getElem?
  intro j
  by_cases hj : i = j
  · subst hj
    have hl := (List.getElem?_eq_some_iff.1 h).1
    rw [List.getElem?_set_self (by simpa using hl), List.getElem?_map, h, e]; rfl
  · rw [List.getElem?_set_ne hj]
theorem xcs_len (ds : List Qd) : (xcs ds).length = ds.length * 3 := flat_len xcell 3 (fun _ => rfl) ds
theorem CellsAt.xq {w : World} {a : Option Addr} {ds : List Qd} (h : CellsAt w a (xcs ds)) {i : Nat} {d : Qd} (hd : ds[i]? = some d) : ∃ b off, a = some ⟨b, off, none⟩ ∧ w.cell? ⟨b, off + i * 3, none⟩ = some (.int .i64 d.q.num) ∧ w.cell? ⟨b, off + i * 3 + 1, none⟩ = some (.slice d.xa d.q.l.length d.xc) ∧ w.cell? ⟨b, off + i * 3 + 2, none⟩ = some (.int .i64 (d.N : Int)) := by
  obtain ⟨hi, rfl⟩ := List.getElem?_eq_some_iff.1 hd
  obtain ⟨b, off, rfl, hc⟩ := CellsAt.rec (f := xcell) (s := 3) (fun _ => rfl) h i hi (by omega)
  exact ⟨b, off, rfl, hc 0 _ rfl, hc 1 _ rfl, hc 2 _ rfl⟩
theorem Own.locPick {w0 w : World} {ds : List Qd} {R : List Asr} (h : Own w0 w (locs ds ++ R)) {i : Nat} {d : Qd} (hi : ds[i]? = some d) :
    ∃ R', (∀ w', Own w0 w' (locs ds ++ R) → Own w0 w' (locA d :: R')) ∧ ∀ w' d', Own w0 w' (locA d' :: R') → Own w0 w' (locs (ds.set i d') ++ R) := by
  have hl : i < (locs ds).length := (List.getElem?_eq_some_iff.1 (locs_at hi)).1
  refine ⟨_, fun w' h' => h'.pick i (by rw [List.getElem?_append_left hl]; exact locs_at hi), fun w' d' h' => ?_⟩
  have := h'.back (by rw [List.length_append]; omega)
  rw [List.set_append_left _ _ hl, locs_set] at this
  exact this
/-- A record of the document's row is another one. -/
theorem Own.xqSet {w0 w : World} {As : List Asr} {b off cap n : Nat} {ds : List Qd} (h : Own w0 w (RowGA 3 (some ⟨b, off, none⟩) cap n (xcs ds) :: As)) (i : Nat) (d : Qd) (hi : i < ds.length) :
    Own w0 (((w.setCell ⟨b, off + i * 3, none⟩ (.int .i64 d.q.num)).setCell ⟨b, off + i * 3 + 1, none⟩ (.slice d.xa d.q.l.length d.xc)).setCell ⟨b, off + i * 3 + 2, none⟩ (.int .i64 (d.N : Int))) (RowGA 3 (some ⟨b, off, none⟩) cap n (xcs (ds.set i d)) :: As) := by
  have hl := xcs_len ds
  have e := flat_set xcell 3 (fun _ => rfl) ds i d hi
  have h1 := h.rowSet (i * 3) (.int .i64 d.q.num) (by omega)
  have h2 := h1.rowSet (i * 3 + 1) (.slice d.xa d.q.l.length d.xc) (by simp; omega)
  have h3 := h2.rowSet (i * 3 + 2) (.int .i64 (d.N : Int)) (by simp; omega)
  simp only [← Nat.add_assoc] at h3
  have e2 : xcs (ds.set i d) = (((xcs ds).set (i * 3) (.int .i64 d.q.num)).set (i * 3 + 1) (.slice d.xa d.q.l.length d.xc)).set (i * 3 + 2) (.int .i64 (d.N : Int)) := by
    unfold xcs; rw [← e]; rfl
  rw [e2]
  exact h3
/-- A call on a queue and the global row. -/
theorem Own.lgCall {w0 w : World} {d : Qd} {q' : LQ} {b : Nat} {gl gl' : List Int} {R : List Asr} (h : Own w0 w (locA d :: gloA b gl :: R)) {f : FuncId} {args : Array Value} {ret : Ending → Prop}
    (hc : ∀ F, LocAt w d.p d.g d.N d.q → GloAt w b gl F → d.p ∉ F → d.g ∉ F → Calls Try.prog f args w fun r w' => ret r ∧ LocAt w' d.p d.g d.N q' ∧ Chg (d.p :: d.g :: F) w w' ∧ ∃ F', GloAt w' b gl' F' ∧ ∀ x ∈ F', x ∈ F ∨ w.heap.size ≤ x) :
    Calls Try.prog f args w fun r w' => ret r ∧ Own w0 w' (locA ⟨d.p, d.g, d.N, q', d.xa, d.xc⟩ :: gloA b gl' :: R) := by
  refine h.call2 (fun F G hF hG hd => ?_)
  obtain ⟨rfl, h1⟩ := hF
  have hp : d.p ∉ G := hd _ (by simp)
  have hg : d.g ∉ G := hd _ (by simp)
  have hlt := h1.lt
  refine (hc G h1 hG hp hg).mono ?_
  rintro r w' ⟨k1, k2, k3, F', k4, k5⟩
  exact ⟨k1, [d.p, d.g], F', ⟨rfl, k2⟩, k4, fun x hx hc => by
    simp at hx
    rcases k5 x hc with h | h
    · rcases hx with rfl | rfl
      · exact hp h
      · exact hg h
    · rcases hx with rfl | rfl <;> omega, k3, fun x hx => .inl (by simp at hx ⊢; rcases hx with rfl | rfl <;> simp), fun x hx => by
    rcases k5 x hx with h | h
    · exact .inl (by simp [h])
    · exact .inr h⟩
section
variable {w0 w : World} {d : Qd} {b : Nat} {gl : List Int} {R : List Asr}
theorem own_put8 (h : Own w0 w (locA d :: gloA b gl :: R)) (v : Int) (hl : gl.length ≤ 1000000) :
    Calls Try.prog 18 #[.pointer (some ⟨d.p, 0, none⟩), .int .i64 v, .pointer (some ⟨b, 0, none⟩)] w fun r w' => r = .returned (.int .i64 ((mPut d.N d.q v gl).2.2 : Int)) ∧ Own w0 w' (locA ⟨d.p, d.g, d.N, (mPut d.N d.q v gl).1, d.xa, d.xc⟩ :: gloA b (mPut d.N d.q v gl).2.1 :: R) :=
  h.lgCall (fun F h1 h2 h3 h4 => lput_any w d.p d.g d.N b d.q gl F v h1 h2 h3 h4 hl)
theorem own_ready8 (h : Own w0 w (locA d :: gloA b gl :: R)) (v : Int) (hl : gl.length ≤ 1000000) :
    Calls Try.prog 13 #[.pointer (some ⟨d.p, 0, none⟩), .int .i64 v, .pointer (some ⟨b, 0, none⟩)] w fun r w' => r = .returned (.int .i64 ((mReady d.N d.q v gl).2.2 : Int)) ∧ Own w0 w' (locA ⟨d.p, d.g, d.N, (mReady d.N d.q v gl).1, d.xa, d.xc⟩ :: gloA b (mReady d.N d.q v gl).2.1 :: R) :=
  h.lgCall (fun F h1 h2 h3 h4 => lready_any w d.p d.g d.N b d.q gl F v h1 h2 h3 h4 hl)
theorem own_turn8 (h : Own w0 w (locA d :: gloA b gl :: R)) (hl : gl.length ≤ 1000000) :
    Calls Try.prog 26 #[.pointer (some ⟨d.p, 0, none⟩), .pointer (some ⟨b, 0, none⟩)] w fun r w' => r = .returned (.int .i64 ((mTurn d.N d.q gl).2.2 : Int)) ∧ Own w0 w' (locA ⟨d.p, d.g, d.N, ⟨none, (mTurn d.N d.q gl).1.l⟩, d.xa, d.xc⟩ :: gloA b (mTurn d.N d.q gl).2.1 :: R) :=
  h.lgCall (fun F h1 h2 h3 h4 => lturn_any w d.p d.g d.N b d.q gl F h1 h2 h3 h4 hl)
theorem own_fetch8 (h : Own w0 w (locA d :: gloA b gl :: R)) (k : Int) (hl : gl.length ≤ 1000000) :
    Calls Try.prog 22 #[.pointer (some ⟨d.p, 0, none⟩), .pointer (some ⟨b, 0, none⟩), .int .i64 k] w fun r w' => r = .returned (gotv (mFetch d.N d.q gl k).2.2) ∧ Own w0 w' (locA ⟨d.p, d.g, d.N, (mFetch d.N d.q gl k).1, d.xa, d.xc⟩ :: gloA b (mFetch d.N d.q gl k).2.1 :: R) :=
  h.lgCall (fun F h1 h2 h3 h4 => (lfetch_any w d.p d.g d.N b d.q gl F k h1 h2 h3 h4 hl).mono fun r w' ⟨k1, k2, k3, k4⟩ => ⟨k1, k2, k3, F, k4, fun x hx => .inl hx⟩)
theorem own_get8 (h : Own w0 w (locA d :: R)) :
    Calls Try.prog 14 #[.pointer (some ⟨d.p, 0, none⟩)] w fun r w' => r = .returned (gotv (mGet d.q).2) ∧ Own w0 w' (locA ⟨d.p, d.g, d.N, (mGet d.q).1, d.xa, d.xc⟩ :: R) :=
  h.call1 (fun F ⟨e, h1⟩ => (lget_any w d.p d.g d.N d.q h1).mono fun r w' ⟨k1, k2, k3⟩ => ⟨k1, [d.p, d.g], ⟨rfl, k2⟩, by rw [e]; exact k3, fun x hx => .inl (by rw [e]; exact hx)⟩)
theorem own_steal8 {e : Qd} (h : Own w0 w (locA d :: locA e :: R)) :
    Calls Try.prog 24 #[.pointer (some ⟨d.p, 0, none⟩), .pointer (some ⟨e.p, 0, none⟩)] w fun r w' => r = .returned (gotv (mSteal d.N d.q e.q).2.2) ∧ Own w0 w' (locA ⟨d.p, d.g, d.N, (mSteal d.N d.q e.q).1, d.xa, d.xc⟩ :: locA ⟨e.p, e.g, e.N, (mSteal d.N d.q e.q).2.1, e.xa, e.xc⟩ :: R) := by
  refine h.call2 (fun F G hF hG hd => ?_)
  obtain ⟨rfl, h1⟩ := hF
  obtain ⟨rfl, h2⟩ := hG
  have d1 : d.p ≠ e.p := fun hc => hd d.p (by simp) (by simp [hc])
  have d2 : d.p ≠ e.g := fun hc => hd d.p (by simp) (by simp [hc])
  have d3 : d.g ≠ e.p := fun hc => hd d.g (by simp) (by simp [hc])
  have d4 : d.g ≠ e.g := fun hc => hd d.g (by simp) (by simp [hc])
  refine (lsteal_any w d.p d.g d.N e.p e.g e.N d.q e.q h1 h2 d1 d2 d3 d4).mono ?_
  rintro r w' ⟨k1, k2, k3, k4⟩
  exact ⟨k1, [d.p, d.g], [e.p, e.g], ⟨rfl, k2⟩, ⟨rfl, k3⟩, hd, by simpa using k4, fun x hx => .inl (by simp at hx ⊢; omega), fun x hx => .inl (by simp at hx ⊢; omega)⟩
theorem own_gput8 (h : Own w0 w (gloA b gl :: R)) (a : Option Addr) (n c : Nat) (m : List Int) (hn : n = m.length) (hm : IntsAt w a m) (hl : gl.length + m.length ≤ 1000000000) :
    Calls Try.prog 28 #[.pointer (some ⟨b, 0, none⟩), .slice a n c] w fun r w' => r = .returned (.tuple #[]) ∧ Own w0 w' (gloA b (gl ++ m) :: R) :=
  h.call1 (fun F h1 => (gput_any w b gl F h1 a n c m hn hm hl).mono fun r w' ⟨k1, k2, F', k3, k4⟩ => ⟨k1, F', k3, k2, k4⟩)
theorem own_gtake8 (h : Own w0 w (gloA b gl :: R)) (k : Int) (hl : gl.length ≤ 1000000) :
    Calls Try.prog 29 #[.pointer (some ⟨b, 0, none⟩), .int .i64 k] w fun r w' => ∃ a' c', r = .returned (.slice a' (takes k gl.length) c') ∧ Own w0 w' (RowA a' c' (gl.take (takes k gl.length)) :: gloA b (gl.drop (takes k gl.length)) :: R) := by
  refine (Own.call (As := [gloA b gl]) (R := R) h (post := fun r l => ∃ a' c', r = .returned (.slice a' (takes k gl.length) c') ∧ l = [RowA a' c' (gl.take (takes k gl.length)), gloA b (gl.drop (takes k gl.length))]) (fun F hF => ?_)).mono ?_
  · have h1 := sep_one.1 hF
    have hlt := h1.lt
    refine (gtake_any w b gl F k h1 hl).mono ?_
    rintro r w' ⟨a', c', k1, k2, k3, k4, k5⟩
    refine ⟨_, ⟨a', c', k1, rfl⟩, blk a' ++ F, ⟨blk a', F, rfl, ⟨rfl, k2⟩, fun x hx hc => by have := k3 x hx; have := hlt x hc; omega, sep_one.2 k4⟩, k5, fun x hx => ?_⟩
    rcases List.mem_append.1 hx with h | h
    · exact .inr (k3 x h)
    · exact .inl h
  · rintro r w' ⟨_, ⟨a', c', k1, rfl⟩, k3⟩
    exact ⟨a', c', k1, k3⟩
end
end Go.Proofs.Ytmldfckeenahlaa
