/-
  Pieces of memory that don't meet: what a call does to some of them leaves the others. No program is named here.
-/
import Derived.Test.YtdeilfnfpgjnnaaDoorIRow
open Go Go.RowKit
set_option linter.unusedVariables false
namespace Go.Proofs.YtdeilfnfpgjnnaaDoor
/-- What holds of a world, and of which blocks it speaks. -/
structure Asr where
  at_ : World → List Nat → Prop
  lt : ∀ {w F}, at_ w F → ∀ x ∈ F, x < w.heap.size
  chg : ∀ {w w' F G}, at_ w F → Chg G w w' → (∀ x ∈ F, x ∉ G) → at_ w' F
def Sep (w : World) : List Asr → List Nat → Prop
  | [], F => F = []
  | A :: As, F => ∃ F1 F2, F = F1 ++ F2 ∧ A.at_ w F1 ∧ (∀ x ∈ F1, x ∉ F2) ∧ Sep w As F2
theorem Sep.lt {w : World} : ∀ {As : List Asr} {F : List Nat}, Sep w As F → ∀ x ∈ F, x < w.heap.size
  | [], F, h, x, hx => by unfold Sep at h; subst h; simp at hx
  | A :: As, F, h, x, hx => by
    obtain ⟨F1, F2, rfl, h1, h2, h3⟩ := h
    rcases List.mem_append.1 hx with hx | hx
    · exact A.lt h1 x hx
    · exact h3.lt x hx
theorem Sep.chg {w w' : World} {G : List Nat} (c : Chg G w w') : ∀ {As : List Asr} {F : List Nat}, Sep w As F → (∀ x ∈ F, x ∉ G) → Sep w' As F
  | [], F, h, _ => h
  | A :: As, F, h, hd => by
    obtain ⟨F1, F2, rfl, h1, h2, h3⟩ := h
    exact ⟨F1, F2, rfl, A.chg h1 c (fun x hx => hd x (by simp [hx])), h2, Sep.chg c h3 (fun x hx => hd x (by simp [hx]))⟩
theorem Sep.perm {w : World} {As Bs : List Asr} (hp : As.Perm Bs) : ∀ {F : List Nat}, Sep w As F → ∃ F', Sep w Bs F' ∧ ∀ x, x ∈ F' ↔ x ∈ F := by
  induction hp with
  | nil => exact fun h => ⟨_, h, fun _ => Iff.rfl⟩
  | cons A _ ih =>
    intro F h
    obtain ⟨F1, F2, rfl, h1, h2, h3⟩ := h
    obtain ⟨F', h4, h5⟩ := ih h3
    exact ⟨F1 ++ F', ⟨F1, F', rfl, h1, fun x hx hc => h2 x hx ((h5 x).1 hc), h4⟩, fun x => by simp [h5]⟩
  | swap A B l =>
    intro F h
    obtain ⟨F1, _, rfl, h1, h2, F2, F3, rfl, h3, h4, h5⟩ := h
    exact ⟨F2 ++ (F1 ++ F3), ⟨F2, _, rfl, h3, fun x hx hc => by
      rcases List.mem_append.1 hc with h | h
      · exact h2 x h (by simp [hx])
      · exact h4 x hx h, F1, F3, rfl, h1, fun x hx hc => h2 x hx (by simp [hc]), h5⟩, fun x => by simp; constructor <;> (intro h; rcases h with h | h | h <;> simp [h])⟩
  | trans _ _ i1 i2 =>
    intro F h
    obtain ⟨F1, h1, e1⟩ := i1 h
    obtain ⟨F2, h2, e2⟩ := i2 h1
    exact ⟨F2, h2, fun x => (e2 x).trans (e1 x)⟩
theorem Sep.split {w : World} : ∀ {As Bs : List Asr} {F : List Nat}, Sep w (As ++ Bs) F → ∃ F1 F2, F = F1 ++ F2 ∧ Sep w As F1 ∧ (∀ x ∈ F1, x ∉ F2) ∧ Sep w Bs F2
  | [], Bs, F, h => ⟨[], F, rfl, rfl, fun x hx => by simp at hx, h⟩
  | A :: As, Bs, F, h => by
    obtain ⟨F1, F2, rfl, h1, h2, h3⟩ := h
    obtain ⟨F3, F4, rfl, h4, h5, h6⟩ := h3.split
    exact ⟨F1 ++ F3, F4, by simp, ⟨F1, F3, rfl, h1, fun x hx hc => h2 x hx (by simp [hc]), h4⟩, fun x hx hc => by
      rcases List.mem_append.1 hx with h | h
      · exact h2 x h (by simp [hc])
      · exact h5 x h hc, h6⟩
theorem Sep.app {w : World} : ∀ {As Bs : List Asr} {F G : List Nat}, Sep w As F → Sep w Bs G → (∀ x ∈ F, x ∉ G) → Sep w (As ++ Bs) (F ++ G)
  | [], Bs, F, G, h, k, _ => by unfold Sep at h; subst h; exact k
  | A :: As, Bs, F, G, h, k, d => by
    obtain ⟨F1, F2, rfl, h1, h2, h3⟩ := h
    exact ⟨F1, F2 ++ G, by simp, h1, fun x hx hc => by
      rcases List.mem_append.1 hc with h | h
      · exact h2 x hx h
      · exact d x (by simp [hx]) h, h3.app k (fun x hx => d x (by simp [hx]))⟩
/-- Pieces of what was made behind w0. -/
def Own (w0 w : World) (As : List Asr) : Prop := Below w0.heap.size w0 w ∧ ∃ F, Sep w As F ∧ ∀ x ∈ F, w0.heap.size ≤ x
theorem Own.bel {w0 w : World} {As : List Asr} (h : Own w0 w As) : Below w0.heap.size w0 w := h.1
theorem Own.nil {w0 w : World} (h : Below w0.heap.size w0 w) : Own w0 w [] := ⟨h, [], rfl, fun x hx => by simp at hx⟩
theorem Own.perm {w0 w : World} {As Bs : List Asr} (h : Own w0 w As) (hp : As.Perm Bs) : Own w0 w Bs := by
  obtain ⟨h1, F, h2, h3⟩ := h
  obtain ⟨F', h4, h5⟩ := h2.perm hp
  exact ⟨h1, F', h4, fun x hx => h3 x ((h5 x).1 hx)⟩
theorem Own.drop {w0 w : World} {A : Asr} {As : List Asr} (h : Own w0 w (A :: As)) : Own w0 w As := by
  obtain ⟨h1, F, ⟨F1, F2, rfl, h2, h3, h4⟩, h5⟩ := h
  exact ⟨h1, F2, h4, fun x hx => h5 x (by simp [hx])⟩
theorem Own.dropL {w0 w : World} {As Bs : List Asr} (h : Own w0 w (As ++ Bs)) : Own w0 w Bs := by
  induction As with
  | nil => exact h
  | cons A As ih => exact ih h.drop
theorem Own.head {w0 w : World} {A : Asr} {As : List Asr} (h : Own w0 w (A :: As)) : ∃ F, A.at_ w F ∧ ∀ x ∈ F, w0.heap.size ≤ x := by
  obtain ⟨h1, F, ⟨F1, F2, rfl, h2, h3, h4⟩, h5⟩ := h
  exact ⟨F1, h2, fun x hx => h5 x (by simp [hx])⟩
theorem Own.step {w0 w w' : World} {As : List Asr} (h : Own w0 w As) (hb : Below w.heap.size w w') : Own w0 w' As := by
  obtain ⟨h1, F, h2, h3⟩ := h
  exact ⟨below_on h1 hb, F, h2.chg (Chg.of_below (F := []) hb) (fun _ _ => by simp), h3⟩
theorem Own.add {w0 w w' : World} {As : List Asr} (h : Own w0 w As) (hb : Below w.heap.size w w') {A : Asr} {F : List Nat} (hA : A.at_ w' F) (hF : ∀ x ∈ F, w.heap.size ≤ x) : Own w0 w' (A :: As) := by
  obtain ⟨h1, F2, h2, h3⟩ := h
  exact ⟨below_on h1 hb, F ++ F2, ⟨F, F2, rfl, hA, fun x hx hc => by have := h2.lt x hc; have := hF x hx; omega, h2.chg (Chg.of_below (F := []) hb) (fun _ _ => by simp)⟩, fun x hx => by
    rcases List.mem_append.1 hx with h | h
    · exact Nat.le_trans h1.size (hF x h)
    · exact h3 x h⟩
/-- Some pieces come to be others. -/
theorem Own.turn {w0 w w' : World} {As As' R : List Asr} (h : Own w0 w (As ++ R)) (hc : ∀ F, Sep w As F → ∃ F', Sep w' As' F' ∧ Chg F w w' ∧ ∀ x ∈ F', x ∈ F ∨ w.heap.size ≤ x) : Own w0 w' (As' ++ R) := by
  obtain ⟨h1, F, h2, h3⟩ := h
  obtain ⟨F1, F2, rfl, h4, h5, h6⟩ := h2.split
  obtain ⟨F', k1, k2, k3⟩ := hc F1 h4
  have hs := h1.size
  refine ⟨Chg.below h1 k2 (fun x hx => h3 x (by simp [hx])), F' ++ F2, k1.app (h6.chg k2 (fun x hx hc => h5 x hc hx)) (fun x hx hc => ?_), fun x hx => ?_⟩
  · rcases k3 x hx with h | h
    · exact h5 x h hc
    · have := h6.lt x hc; omega
  · rcases List.mem_append.1 hx with h | h
    · rcases k3 x h with h | h
      · exact h3 x (by simp [h])
      · omega
    · exact h3 x (by simp [h])
/-- .. by a call. -/
theorem Own.call {w0 w : World} {As R : List Asr} (h : Own w0 w (As ++ R)) {P : Program} {f : FuncId} {args : Array Value} {post : Ending → List Asr → Prop}
    (hc : ∀ F, Sep w As F → Calls P f args w fun r w' => ∃ As', post r As' ∧ ∃ F', Sep w' As' F' ∧ Chg F w w' ∧ ∀ x ∈ F', x ∈ F ∨ w.heap.size ≤ x) :
    Calls P f args w fun r w' => ∃ As', post r As' ∧ Own w0 w' (As' ++ R) := by
  have h' := h
  obtain ⟨h1, F, h2, h3⟩ := h'
  obtain ⟨F1, F2, rfl, h4, h5, h6⟩ := h2.split
  have hs := h1.size
  refine (hc F1 h4).mono ?_
  rintro r w' ⟨As', hp, F', k1, k2, k3⟩
  refine ⟨As', hp, Chg.below h1 k2 (fun x hx => h3 x (by simp [hx])), F' ++ F2, k1.app (h6.chg k2 (fun x hx hc => h5 x hc hx)) (fun x hx hc => ?_), fun x hx => ?_⟩
  · rcases k3 x hx with h | h
    · exact h5 x h hc
    · have := h6.lt x hc; omega
  · rcases List.mem_append.1 hx with h | h
    · rcases k3 x h with h | h
      · exact h3 x (by simp [h])
      · omega
    · exact h3 x (by simp [h])
theorem sep_one {w : World} {A : Asr} {F : List Nat} : Sep w [A] F ↔ A.at_ w F := by
  constructor
  · rintro ⟨F1, F2, rfl, h1, h2, h3⟩
    unfold Sep at h3; subst h3; simpa using h1
  · intro h; exact ⟨F, [], by simp, h, fun _ _ => by simp, rfl⟩
/-- One piece, by a call whose answer tells it. -/
theorem Own.call1 {w0 w : World} {A A' : Asr} {R : List Asr} (h : Own w0 w (A :: R)) {P : Program} {f : FuncId} {args : Array Value} {ret : Ending → Prop}
    (hc : ∀ F, A.at_ w F → Calls P f args w fun r w' => ret r ∧ ∃ F', A'.at_ w' F' ∧ Chg F w w' ∧ ∀ x ∈ F', x ∈ F ∨ w.heap.size ≤ x) :
    Calls P f args w fun r w' => ret r ∧ Own w0 w' (A' :: R) := by
  have := Own.call (As := [A]) (R := R) h (P := P) (f := f) (args := args) (post := fun r l => ret r ∧ l = [A']) (fun F hF => (hc F (sep_one.1 hF)).mono (by
    rintro r w' ⟨h1, F', h2, h3, h4⟩; exact ⟨[A'], ⟨h1, rfl⟩, F', sep_one.2 h2, h3, h4⟩))
  refine this.mono ?_
  rintro r w' ⟨_, ⟨h1, rfl⟩, h2⟩
  exact ⟨h1, h2⟩
/-- Two pieces. -/
theorem Own.call2 {w0 w : World} {A B A' B' : Asr} {R : List Asr} (h : Own w0 w (A :: B :: R)) {P : Program} {f : FuncId} {args : Array Value} {ret : Ending → Prop}
    (hc : ∀ F G, A.at_ w F → B.at_ w G → (∀ x ∈ F, x ∉ G) → Calls P f args w fun r w' => ret r ∧ ∃ F' G', A'.at_ w' F' ∧ B'.at_ w' G' ∧ (∀ x ∈ F', x ∉ G') ∧ Chg (F ++ G) w w' ∧ (∀ x ∈ F', x ∈ F ++ G ∨ w.heap.size ≤ x) ∧ ∀ x ∈ G', x ∈ F ++ G ∨ w.heap.size ≤ x) :
    Calls P f args w fun r w' => ret r ∧ Own w0 w' (A' :: B' :: R) := by
  have := Own.call (As := [A, B]) (R := R) h (P := P) (f := f) (args := args) (post := fun r l => ret r ∧ l = [A', B']) (fun F hF => by
    obtain ⟨F1, F2, rfl, h1, h2, h3⟩ := hF
    refine (hc F1 F2 h1 (sep_one.1 h3) h2).mono ?_
    rintro r w' ⟨k1, F', G', k2, k3, k4, k5, k6, k7⟩
    exact ⟨[A', B'], ⟨k1, rfl⟩, F' ++ G', ⟨F', G', rfl, k2, k4, sep_one.2 k3⟩, k5, fun x hx => by
      rcases List.mem_append.1 hx with h | h
      · exact k6 x h
      · exact k7 x h⟩)
  refine this.mono ?_
  rintro r w' ⟨_, ⟨h1, rfl⟩, h2⟩
  exact ⟨h1, h2⟩
/-- The piece at a place comes first, .. -/
theorem pick_perm {α : Type} : ∀ (l : List α) (i : Nat) (a : α), l[i]? = some a → l.Perm (a :: l.eraseIdx i)
  | [], i, a, h => by simp at h
  | x :: l, 0, a, h => by simp at h; subst h; simp
  | x :: l, i + 1, a, h => by
    simp only [List.getElem?_cons_succ] at h
    exact ((pick_perm l i a h).cons x).trans (.swap a x _)
/-- .. and goes back there as another. -/
theorem back_perm {α : Type} : ∀ (l : List α) (i : Nat) (a : α), i < l.length → (a :: l.eraseIdx i).Perm (l.set i a)
  | [], i, a, h => by simp at h
  | x :: l, 0, a, h => by simp
  | x :: l, i + 1, a, h => by
    simp only [List.eraseIdx_cons_succ, List.set_cons_succ]
    exact (List.Perm.swap x a _).trans ((back_perm l i a (by simpa using h)).cons x)
theorem Own.pick {w0 w : World} {As : List Asr} (h : Own w0 w As) (i : Nat) {A : Asr} (hi : As[i]? = some A) : Own w0 w (A :: As.eraseIdx i) := h.perm (pick_perm As i A hi)
theorem Own.back {w0 w : World} {As : List Asr} {A : Asr} {i : Nat} (h : Own w0 w (A :: As.eraseIdx i)) (hi : i < As.length) : Own w0 w (As.set i A) := h.perm (back_perm As i A hi)
theorem Own.fact {w0 w : World} {As : List Asr} (h : Own w0 w As) (i : Nat) {A : Asr} (hi : As[i]? = some A) : ∃ F, A.at_ w F ∧ ∀ x ∈ F, w0.heap.size ≤ x := (h.pick i hi).head
/-- Two places. -/
theorem pick2_perm {α : Type} (l : List α) (i k : Nat) (a b : α) (hi : l[i]? = some a) (hk : l[k]? = some b) (hne : i ≠ k) : ∃ R, l.Perm (a :: b :: R) ∧ ∀ x y, (x :: y :: R).Perm ((l.set i x).set k y) := by
  have hil := (List.getElem?_eq_some_iff.1 hi).1
  have hkl := (List.getElem?_eq_some_iff.1 hk).1
  obtain ⟨k', hk', hs⟩ : ∃ k', (l.eraseIdx i)[k']? = some b ∧ ∀ y x, (x :: (l.eraseIdx i).set k' y).Perm ((l.set i x).set k y) := by
    by_cases h : i < k
    · refine ⟨k - 1, by rw [List.getElem?_eraseIdx_of_ge (by omega), show k - 1 + 1 = k by omega]; exact hk, fun y x => ?_⟩
      have e : (l.eraseIdx i).set (k - 1) y = (l.set k y).eraseIdx i := by
        apply List.ext_getElem?
        intro j
        simp only [List.getElem?_set, List.getElem?_eraseIdx, List.length_eraseIdx]
        split <;> split <;> (try split) <;> (try split) <;> (try split) <;> simp_all <;> omega
      rw [e, List.set_comm _ _ hne]
      exact back_perm _ i x (by simpa using hil)
    · refine ⟨k, by rw [List.getElem?_eraseIdx_of_lt (by omega)]; exact hk, fun y x => ?_⟩
      have e : (l.eraseIdx i).set k y = (l.set k y).eraseIdx i := by
        apply List.ext_getElem?
        intro j
        simp only [List.getElem?_set, List.getElem?_eraseIdx, List.length_eraseIdx]
        split <;> split <;> (try split) <;> (try split) <;> (try split) <;> simp_all <;> omega
      rw [e, List.set_comm _ _ hne]
      exact back_perm _ i x (by simpa using hil)
  refine ⟨(l.eraseIdx i).eraseIdx k', (pick_perm l i a hi).trans ((pick_perm _ k' b hk').cons a), fun x y => ?_⟩
  exact ((back_perm _ k' y (List.getElem?_eq_some_iff.1 hk').1).cons x).trans (hs y x)
/-- A block whose cells are known and may be written. -/
def CelA (b : Nat) (cs : List Value) : Asr where
  at_ w F := F = [b] ∧ b < w.heap.size ∧ Blk w b cs
  lt := by rintro w F ⟨rfl, h1, h2⟩ x hx; simp at hx; subst hx; exact h1
  chg := by
    rintro w w' F G ⟨rfl, h1, h2⟩ c hd
    exact ⟨rfl, Nat.lt_of_lt_of_le h1 c.size, h2.chg c (hd b (by simp))⟩
/-- A slice's numbers. -/
def RowA (a : Option Addr) (cap : Nat) (l : List Int) : Asr where
  at_ w F := F = blk a ∧ RowAt w a cap l
  lt := by rintro w F ⟨rfl, h1⟩ x hx; exact h1.lt x hx
  chg := by rintro w w' F G ⟨rfl, h1⟩ c hd; exact ⟨rfl, h1.chg c hd⟩
theorem Own.cel {w0 w : World} {As : List Asr} (h : Own w0 w As) (i : Nat) {b : Nat} {cs : List Value} (hi : As[i]? = some (CelA b cs)) : Blk w b cs := by
  obtain ⟨F, ⟨_, _, h1⟩, _⟩ := h.fact i hi; exact h1
theorem Own.row {w0 w : World} {As : List Asr} (h : Own w0 w As) (i : Nat) {a : Option Addr} {cap : Nat} {l : List Int} (hi : As[i]? = some (RowA a cap l)) : RowAt w a cap l := by
  obtain ⟨F, ⟨_, h1⟩, _⟩ := h.fact i hi; exact h1
theorem Own.alloc {w0 w : World} {As : List Asr} (h : Own w0 w As) (l : List Value) (t : TypeId) {b : Nat} (hb : b = w.heap.size) : Own w0 (w.alloc (.cells l.toArray t)) (CelA b l :: As) :=
  h.add (below_alloc1 _ _) (F := [b]) ⟨rfl, by subst hb; simp, Blk.mk w l t b hb⟩ (fun x hx => by simp at hx; omega)
theorem Own.set {w0 w : World} {As : List Asr} {b : Nat} {cs : List Value} (h : Own w0 w (CelA b cs :: As)) (k : Nat) (v : Value) : Own w0 (w.setCell ⟨b, k, none⟩ v) (CelA b (cs.set k v) :: As) := by
  refine Own.turn (As := [CelA b cs]) (As' := [CelA b (cs.set k v)]) (R := As) h (fun F hF => ?_)
  obtain ⟨rfl, h1, h2⟩ := sep_one.1 hF
  exact ⟨[b], sep_one.2 ⟨rfl, by rw [World.size_setCell]; exact h1, h2.set k v⟩, (Chg.refl _ _).setCell _ (.inl (by simp)), fun x hx => .inl hx⟩
theorem Own.setAt {w0 w : World} {As : List Asr} (h : Own w0 w As) (i : Nat) {b : Nat} {cs : List Value} (hi : As[i]? = some (CelA b cs)) (k : Nat) (v : Value) : Own w0 (w.setCell ⟨b, k, none⟩ v) (As.set i (CelA b (cs.set k v))) :=
  ((h.pick i hi).set k v).back (List.getElem?_eq_some_iff.1 hi).1
theorem Own.newRow {w0 w w' : World} {As : List Asr} (h : Own w0 w As) (hb : Below w.heap.size w w') {a : Option Addr} {cap : Nat} {l : List Int} (hr : RowAt w' a cap l) (hF : ∀ x ∈ blk a, w.heap.size ≤ x) : Own w0 w' (RowA a cap l :: As) :=
  h.add hb (F := blk a) ⟨rfl, hr⟩ hF
/-- append into a row of one's own. -/
theorem Own.app {w0 w w' : World} {As : List Asr} {a a' : Option Addr} {cap cap' : Nat} {l l' : List Int} (h : Own w0 w (RowA a cap l :: As)) (hr : RowAt w' a' cap' l') (c : Chg (blk a) w w') (hf : ∀ x ∈ blk a', x ∈ blk a ∨ w.heap.size ≤ x) :
    Own w0 w' (RowA a' cap' l' :: As) := by
  refine Own.turn (As := [RowA a cap l]) (As' := [RowA a' cap' l']) (R := As) h (fun F hF => ?_)
  obtain ⟨rfl, h1⟩ := sep_one.1 hF
  exact ⟨blk a', sep_one.2 ⟨rfl, hr⟩, c, hf⟩
/-- A piece is weakened. -/
theorem Own.weak {w0 w : World} {A A' : Asr} {As : List Asr} (h : Own w0 w (A :: As)) (hA : ∀ F, A.at_ w F → A'.at_ w F) : Own w0 w (A' :: As) :=
  Own.turn (As := [A]) (As' := [A']) (R := As) h (fun F hF => ⟨F, sep_one.2 (hA F (sep_one.1 hF)), Chg.refl _ _, fun x hx => .inl hx⟩)
/-- The first cells of a block may be written. -/
def Room (w : World) (b n : Nat) : Prop := b < w.heap.size ∧ ∀ j, j < n → (w.cell? ⟨b, j, none⟩).isSome = true ∧ w.frozen? ⟨b, j, none⟩ = false
theorem Room.of_blk {w : World} {b : Nat} {cs : List Value} (h : Blk w b cs) (hb : b < w.heap.size) : Room w b cs.length := ⟨hb, fun j hj => by obtain ⟨h1, h2⟩ := h.at j hj; exact ⟨by rw [h1]; rfl, h2⟩⟩
theorem Room.at {w : World} {b n : Nat} (h : Room w b n) (j : Nat) (hj : j < n) : ∃ v, w.cell? ⟨b, j, none⟩ = some v ∧ w.frozen? ⟨b, j, none⟩ = false := by
  obtain ⟨h1, h2⟩ := h.2 j hj
  obtain ⟨v, hv⟩ := Option.isSome_iff_exists.1 h1
  exact ⟨v, hv, h2⟩
theorem Room.setCell {w : World} {b n : Nat} (h : Room w b n) (k : Nat) (v : Value) : Room (w.setCell ⟨b, k, none⟩ v) b n := ⟨by rw [World.size_setCell]; exact h.1, fun j hj => by
  obtain ⟨h1, h2⟩ := h.2 j hj
  refine ⟨?_, by rw [World.frozen?_setCell]; exact h2⟩
  by_cases e : j = k
  · subst e; rw [World.cell?_setCell_same' _ _ _ h1]; rfl
  · rw [World.cell?_setCell_other _ _ _ _ (by simp; first | done | omega)]; exact h1⟩
/-- .. and one block alone was written. -/
def CR (b n : Nat) (wc w : World) : Prop := Chg [b] wc w ∧ Room w b n
theorem CR.start {b n : Nat} {wc : World} (h : Room wc b n) : CR b n wc wc := ⟨Chg.refl _ _, h⟩
theorem CR.step {b n : Nat} {wc w w' : World} (h : CR b n wc w) (hb : Below w.heap.size w w') : CR b n wc w' :=
  ⟨h.1.trans (Chg.of_below (F := []) hb) (fun x hx => by simp at hx), Nat.lt_of_lt_of_le h.2.1 hb.size, fun j hj => by
    rw [hb.cell (p := ⟨b, j, none⟩) h.2.1, hb.frozen (p := ⟨b, j, none⟩) h.2.1]; exact h.2.2 j hj⟩
theorem CR.drew {b n : Nat} {wc w : World} (h : CR b n wc w) : CR b n wc w.drew := h.step (below_drew1 _)
theorem CR.drewN {b n : Nat} {wc w : World} (h : CR b n wc w) (k : Nat) : CR b n wc (w.drewN k) := ⟨h.1.drewN k, h.2⟩
theorem CR.set {b n : Nat} {wc w : World} (h : CR b n wc w) (k : Nat) (v : Value) : CR b n wc (w.setCell ⟨b, k, none⟩ v) := ⟨h.1.setCell v (.inl (by simp)), h.2.setCell k v⟩
theorem lim1 {p q : Prop} (h : p ∧ q) : q := h.2
theorem lim2 {p q r : Prop} (h : p ∧ q ∧ r) : r := h.2.2
theorem lim3 {p q r s : Prop} (h : p ∧ q ∧ r ∧ s) : s := h.2.2.2
theorem lim4 {p q r s t : Prop} (h : p ∧ q ∧ r ∧ s ∧ t) : t := h.2.2.2.2
end Go.Proofs.YtdeilfnfpgjnnaaDoor
