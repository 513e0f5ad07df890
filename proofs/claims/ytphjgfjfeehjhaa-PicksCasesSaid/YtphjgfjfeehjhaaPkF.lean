/-
  Rows of channels: what a select can do, in numbers alone; the channels as pieces of memory.
-/
import Derived.Test.YtphjgfjfeehjhaaWCh6
import Derived.Test.YtphjgfjfeehjhaaWCh8
open Go Go.RowKit
set_option linter.unusedVariables false
namespace Go.Proofs.Ytphjgfjfeehjhaa
/-- A case: its way, its channel, its register. -/
abbrev Cs3 := Int × Int × Int
/-- Cells of a row of records. -/
theorem flat_len {α : Type} (f : α → List Value) (s : Nat) (hf : ∀ x, (f x).length = s) : ∀ l : List α, (l.flatMap f).length = l.length * s
  | [] => by simp
  | x :: l => by rw [List.flatMap_cons, List.length_append, hf, flat_len f s hf l, List.length_cons, Nat.add_mul]; omega
theorem flat_at {α : Type} (f : α → List Value) (s : Nat) (hf : ∀ x, (f x).length = s) : ∀ (l : List α) (i k : Nat) (hi : i < l.length), k < s → (l.flatMap f)[i * s + k]? = (f l[i])[k]?
  | [], i, k, hi, _ => by simp at hi
  | x :: l, 0, k, _, hk => by rw [List.flatMap_cons, Nat.zero_mul, Nat.zero_add, List.getElem?_append_left (by rw [hf]; exact hk)]; rfl
  | x :: l, i + 1, k, hi, hk => by
    have ih := flat_at f s hf l i k (by simpa using hi) hk
    have e : (i + 1) * s + k = s + (i * s + k) := by rw [Nat.add_mul]; omega
    rw [List.flatMap_cons, e, List.getElem?_append_right (by rw [hf]; omega), hf, Nat.add_sub_cancel_left, ih]
    rfl
/-- A record is another one: its cells are laid one by one. -/
def setL (cs : List Value) (o : Nat) : List Value → List Value
  | [] => cs
  | v :: vs => setL (cs.set o v) (o + 1) vs
theorem setL_at : ∀ (vs : List Value) (cs : List Value) (o j : Nat), (setL cs o vs)[j]? = if o ≤ j ∧ j < o + vs.length ∧ j < cs.length then vs[j - o]? else cs[j]?
  | [], cs, o, j => by
    rw [if_neg (by simp; omega)]; rfl
  | v :: vs, cs, o, j => by
    rw [setL, setL_at vs (cs.set o v) (o + 1) j]
    simp only [List.length_set, List.length_cons]
    by_cases h : o = j
    · subst h
      rw [if_neg (by omega)]
      by_cases hl : o < cs.length
      · rw [if_pos (by omega), List.getElem?_set_self hl]; simp
      · rw [if_neg (by omega), List.getElem?_eq_none (by simp; omega), List.getElem?_eq_none (by omega)]
    · rw [List.getElem?_set_ne h]
      by_cases h2 : o + 1 ≤ j ∧ j < o + 1 + vs.length ∧ j < cs.length
      · rw [if_pos h2, if_pos (by omega), show j - o = (j - (o + 1)) + 1 by omega]; rfl
      · rw [if_neg h2, if_neg (by omega)]
theorem setL_len : ∀ (vs : List Value) (cs : List Value) (o : Nat), (setL cs o vs).length = cs.length
  | [], cs, o => rfl
  | v :: vs, cs, o => by rw [setL, setL_len vs]; simp
theorem flat_set {α : Type} (f : α → List Value) (s : Nat) (hf : ∀ x, (f x).length = s) (l : List α) (i : Nat) (x : α) (hi : i < l.length) : setL (l.flatMap f) (i * s) (f x) = (l.set i x).flatMap f := by
  have hL := flat_len f s hf
  apply List.ext_getElem?
  intro j
  rw [setL_at, hf, hL]
  by_cases hs : s = 0
  · subst hs
    rw [if_neg (by omega), List.getElem?_eq_none (by rw [hL]; omega), List.getElem?_eq_none (by rw [hL]; omega)]
  by_cases hj : j < l.length * s
  · have hd : j / s < l.length := Nat.div_lt_of_lt_mul (by rw [Nat.mul_comm]; exact hj)
    have hm : j % s < s := Nat.mod_lt _ (by omega)
    have e : j = j / s * s + j % s := by rw [Nat.mul_comm]; exact (Nat.div_add_mod j s).symm
    have r1 := flat_at f s hf (l.set i x) (j / s) (j % s) (by simpa using hd) hm
    have r2 := flat_at f s hf l (j / s) (j % s) hd hm
    rw [← e] at r1 r2
    rw [r1]
    by_cases hi2 : j / s = i
    · have e2 : (l.set i x)[j / s]'(by simpa using hd) = x := by simp [hi2]
      rw [e2]
      have e3 : j - i * s = j % s := by rw [← hi2]; omega
      rw [if_pos ⟨by rw [← hi2]; omega, by rw [← hi2]; omega, hj⟩, e3]
    · have e2 : (l.set i x)[j / s]'(by simpa using hd) = l[j / s] := by rw [List.getElem_set_ne (by omega)]
      rw [e2, ← r2, if_neg]
      rintro ⟨h1, h2, h3⟩
      have h4 : i ≤ j / s := by rw [Nat.le_div_iff_mul_le (by omega)]; exact h1
      have h5 : j / s < i + 1 := by rw [Nat.div_lt_iff_lt_mul (by omega), Nat.add_mul]; omega
      omega
  · rw [if_neg (by omega), List.getElem?_eq_none (by rw [hL]; omega), List.getElem?_eq_none (by rw [hL]; simp; omega)]
/-- Cells of a row, read. -/
theorem CellsAt.rec {α : Type} {f : α → List Value} {s : Nat} (hf : ∀ x, (f x).length = s) {w : World} {a : Option Addr} {l : List α} (h : CellsAt w a (l.flatMap f)) (i : Nat) (hi : i < l.length) (hs : 0 < s) :
    ∃ b off, a = some ⟨b, off, none⟩ ∧ ∀ k v, (f l[i])[k]? = some v → w.cell? ⟨b, off + i * s + k, none⟩ = some v := by
  have h0 := flat_at f s hf l i 0 hi hs
  obtain ⟨v0, hv0⟩ : ∃ v, (f l[i])[0]? = some v := by
    have hl0 : 0 < (f l[i]).length := by rw [hf]; exact hs
    exact ⟨_, List.getElem?_eq_getElem hl0⟩
  rw [hv0] at h0
  obtain ⟨b, off, rfl, e1⟩ := h _ _ h0
  refine ⟨b, off, rfl, fun k v hk => ?_⟩
  have hks : k < s := by have := (List.getElem?_eq_some_iff.1 hk).1; rw [hf] at this; exact this
  have h1 := flat_at f s hf l i k hi hks
  rw [hk] at h1
  obtain ⟨b2, o2, e, e2⟩ := h _ _ h1
  cases e
  rw [Nat.add_assoc]; exact e2
/-- The channels: where each lies, with which room; what is in it. -/
abbrev Pl := Nat × Nat
def chs (ps : List Pl) (Cs : List Ch) : List Asr := List.zipWith (fun p C => ChanA p.1 p.2 C) ps Cs
theorem chs_len (ps : List Pl) (Cs : List Ch) (h : ps.length = Cs.length) : (chs ps Cs).length = Cs.length := by unfold chs; simp [h]
theorem chs_at {ps : List Pl} {Cs : List Ch} {i : Nat} {p : Pl} {C : Ch} (hp : ps[i]? = some p) (hC : Cs[i]? = some C) : (chs ps Cs)[i]? = some (ChanA p.1 p.2 C) := by
  unfold chs; rw [List.getElem?_zipWith, hp, hC]
theorem chs_set {ps : List Pl} {Cs : List Ch} {i : Nat} {p : Pl} (C : Ch) (hp : ps[i]? = some p) (hi : i < Cs.length) : (chs ps Cs).set i (ChanA p.1 p.2 C) = chs ps (Cs.set i C) := by
  apply List.ext_getElem?
  intro j
  unfold chs
  rw [List.getElem?_set]
  have hpl := (List.getElem?_eq_some_iff.1 hp).1
  by_cases e : i = j
  · subst e
    rw [if_pos rfl, if_pos (by simp; omega), List.getElem?_zipWith, hp, List.getElem?_set_self hi]
  · rw [if_neg e, List.getElem?_zipWith, List.getElem?_zipWith, List.getElem?_set_ne e]
/-- One of the channels, out of all. -/
theorem Own.chPick {w0 w : World} {ps : List Pl} {Cs : List Ch} {R : List Asr} (h : Own w0 w (chs ps Cs ++ R)) {i : Nat} {p : Pl} {C : Ch} (hp : ps[i]? = some p) (hC : Cs[i]? = some C) :
    ∃ R', Own w0 w (ChanA p.1 p.2 C :: R') ∧ ∀ w' C', Own w0 w' (ChanA p.1 p.2 C' :: R') → Own w0 w' (chs ps (Cs.set i C') ++ R) := by
  have hl : i < (chs ps Cs).length := (List.getElem?_eq_some_iff.1 (chs_at hp hC)).1
  have hCl := (List.getElem?_eq_some_iff.1 hC).1
  refine ⟨_, h.pick i (by rw [List.getElem?_append_left hl]; exact chs_at hp hC), fun w' C' h' => ?_⟩
  have := h'.back (by rw [List.length_append]; omega)
  rw [List.set_append_left _ _ hl, chs_set C' hp hCl] at this
  exact this
theorem set_same {α : Type} (l : List α) (i : Nat) (x : α) (h : l[i]? = some x) : l.set i x = l := by
  apply List.ext_getElem?
  intro j
  by_cases e : i = j
  · subst e; rw [List.getElem?_set_self (List.getElem?_eq_some_iff.1 h).1, h]
  · rw [List.getElem?_set_ne e]
def ptrs (ps : List Pl) : List Value := ps.map fun p => .pointer (some ⟨p.1, 0, none⟩)
theorem ptrs_at (ps : List Pl) (i : Nat) (p : Pl) (h : ps[i]? = some p) : (ptrs ps)[i]? = some (.pointer (some ⟨p.1, 0, none⟩)) := by unfold ptrs; rw [List.getElem?_map, h]; rfl
/-- A case's cells. -/
def c3c (k : Cs3) : List Value := [.int .i64 k.1, .int .i64 k.2.1, .int .i64 k.2.2]
def c3v (k : Cs3) : Value := .agg #[.int .i64 k.1, .int .i64 k.2.1, .int .i64 k.2.2]
def c3s (l : List Cs3) : List Value := l.flatMap c3c
theorem c3s_wtc (l : List Cs3) : c3s l = wtc l := rfl
/-- Cases whose channels and registers there are. -/
def CasOK (n : Nat) (ks : List Cs3) : Prop := ∀ k ∈ ks, (k.1 = 0 ∨ k.1 = 1 ∨ k.1 = 2) ∧ 0 ≤ k.2.1 ∧ (k.1 ≠ 2 → k.2.1 < n) ∧ 0 ≤ k.2.2 ∧ k.2.2 < 8
/-- Would a case go on? -/
def goesB (ps : List Pl) (Cs : List Ch) (k : Cs3) : Bool :=
  match Cs[k.2.1.toNat]?, ps[k.2.1.toNat]? with
  | some C, some p => if k.1 = 0 then canR C else if k.1 = 1 then canS p.2 C else false
  | _, _ => false
/-- Those that would, from a place on. -/
def enF (g : Cs3 → Bool) : Nat → List Cs3 → List Int
  | _, [] => []
  | i, k :: t => if g k then (i : Int) :: enF g (i + 1) t else enF g (i + 1) t
theorem enF_len (g : Cs3 → Bool) : ∀ (l : List Cs3) (i : Nat), (enF g i l).length ≤ l.length
  | [], i => by simp [enF]
  | k :: t, i => by
    have := enF_len g t (i + 1)
    unfold enF; split <;> simp <;> omega
theorem enF_drop (g : Cs3 → Bool) (l : List Cs3) (i : Nat) (h : i < l.length) : enF g i (l.drop i) = if g l[i] then (i : Int) :: enF g (i + 1) (l.drop (i + 1)) else enF g (i + 1) (l.drop (i + 1)) := by
  rw [List.drop_eq_getElem_cons h]; rfl
/-- The first else; below 0: there is none. -/
def elF : Nat → List Cs3 → Int
  | _, [] => -1
  | i, k :: t => if k.1 = 2 then (i : Int) else elF (i + 1) t
theorem elF_drop (l : List Cs3) (i : Nat) (h : i < l.length) : elF i (l.drop i) = if l[i].1 = 2 then (i : Int) else elF (i + 1) (l.drop (i + 1)) := by
  rw [List.drop_eq_getElem_cons h]; rfl
/-- One waits by a case. -/
def waF (g : Int) (regs : List Int) (i : Nat) (k : Cs3) (Cs : List Ch) : List Ch :=
  match Cs[k.2.1.toNat]? with
  | some C => if k.1 = 0 then Cs.set k.2.1.toNat ⟨C.buf, C.S, C.R ++ [(g, (i : Int), 0)], C.cl⟩ else if k.1 = 1 then Cs.set k.2.1.toNat ⟨C.buf, C.S ++ [(g, (i : Int), regs.getD k.2.2.toNat 0)], C.R, C.cl⟩ else Cs
  | none => Cs
/-- .. by all of them. -/
def wasF (g : Int) (regs : List Int) : Nat → List Cs3 → List Ch → List Ch
  | _, [], Cs => Cs
  | i, k :: t, Cs => wasF g regs (i + 1) t (waF g regs i k Cs)
theorem wasF_drop (g : Int) (regs : List Int) (l : List Cs3) (i : Nat) (h : i < l.length) (Cs : List Ch) : wasF g regs i (l.drop i) Cs = wasF g regs (i + 1) (l.drop (i + 1)) (waF g regs i l[i] Cs) := by
  rw [List.drop_eq_getElem_cons h]; rfl
theorem waF_len (g : Int) (regs : List Int) (i : Nat) (k : Cs3) (Cs : List Ch) : (waF g regs i k Cs).length = Cs.length := by
  unfold waF; split
  · split
    · simp
    · split <;> simp
  · rfl
/-- All rows are of at most so many. -/
def Lim (n : Nat) (Cs : List Ch) : Prop := ∀ C ∈ Cs, C.buf.length ≤ n ∧ C.S.length ≤ n ∧ C.R.length ≤ n
theorem Lim.mono {n m : Nat} {Cs : List Ch} (h : Lim n Cs) (hm : n ≤ m) : Lim m Cs := fun C hC => by obtain ⟨h1, h2, h3⟩ := h C hC; omega
theorem Lim.set {n : Nat} {Cs : List Ch} (h : Lim n Cs) (i : Nat) (C : Ch) (hC : C.buf.length ≤ n ∧ C.S.length ≤ n ∧ C.R.length ≤ n) : Lim n (Cs.set i C) := fun D hD => by
  rcases List.mem_or_eq_of_mem_set hD with h1 | h1
  · exact h D h1
  · rw [h1]; exact hC
theorem waF_lim (n : Nat) (g : Int) (regs : List Int) (i : Nat) (k : Cs3) (Cs : List Ch) (h : Lim n Cs) : Lim (n + 1) (waF g regs i k Cs) := by
  unfold waF
  split
  · rename_i C hC
    obtain ⟨h1, h2, h3⟩ := h C (List.mem_of_getElem? hC)
    split
    · exact (h.mono (by omega)).set _ _ ⟨by simp only; omega, by simp only; omega, by simp only [List.length_append, List.length_cons, List.length_nil]; omega⟩
    · split
      · exact (h.mono (by omega)).set _ _ ⟨by simp only; omega, by simp only [List.length_append, List.length_cons, List.length_nil]; omega, by simp only; omega⟩
      · exact h.mono (by omega)
  · exact h.mono (by omega)
/-- One waits nowhere any more. -/
def leF (g : Int) (C : Ch) : Ch := ⟨C.buf, dropW g C.S, dropW g C.R, C.cl⟩
end Go.Proofs.Ytphjgfjfeehjhaa
