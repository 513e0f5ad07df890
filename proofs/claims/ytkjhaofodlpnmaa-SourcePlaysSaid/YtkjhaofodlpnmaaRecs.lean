/-
  Lists of decisions in memory: plain lemmas. No program is named here.
-/
import Derived.Test.YtkjhaofodlpnmaaBack
import Derived.Test.YtkjhaofodlpnmaaInts
import Derived.Lib.Builder
open Go Go.RowKit
set_option linter.unusedVariables false
namespace Go.Proofs.Ytkjhaofodlpnmaa
/-- A decision: its kind, its number. -/
abbrev Rec := Int × Nat
/-- May it be? -/
def Rec.ok (r : Rec) : Prop := 1 ≤ r.1 ∧ r.1 ≤ 4 ∧ r.2 < 4611686018427387904
instance (r : Rec) : Decidable (Rec.ok r) := by unfold Rec.ok; infer_instance
/-- The number as which it is written. -/
def Rec.num (r : Rec) : Nat := 4 * r.2 + (r.1 - 1).toNat
/-- The decision that a number says. -/
def recOf (n : Nat) : Rec := (((n % 4 : Nat) : Int) + 1, n / 4)
theorem Rec.num_lt {r : Rec} (h : Rec.ok r) : r.num < 18446744073709551616 := by unfold Rec.num; obtain ⟨h1, h2, h3⟩ := h; omega
theorem recOf_num {r : Rec} (h : Rec.ok r) : recOf r.num = r := by
  obtain ⟨h1, h2, h3⟩ := h
  unfold recOf Rec.num
  obtain ⟨k, n⟩ := r
  simp only at *
  rw [Prod.mk.injEq]; omega
theorem num_recOf (n : Nat) : (recOf n).num = n := by unfold recOf Rec.num; simp only; omega
theorem recOf_ok (n : Nat) (h : n < 18446744073709551616) : Rec.ok (recOf n) := by unfold recOf Rec.ok; simp only; omega

/-- Their bytes, one behind the other. -/
def bytesL (l : List Rec) : List UInt8 := l.flatMap fun r => putL r.num
theorem bytesL_len (l : List Rec) : (bytesL l).length ≤ 11 * l.length := by
  induction l with
  | nil => simp [bytesL]
  | cons z zs ih => simp only [bytesL, List.flatMap_cons, List.length_append, List.length_cons] at *; have := putL_len z.num; omega
theorem bytesL_snoc (l : List Rec) (k : Nat) (h : k < l.length) : bytesL (l.take (k + 1)) = bytesL (l.take k) ++ putL l[k].num := by
  rw [List.take_succ_eq_append_getElem h]; simp only [bytesL, List.flatMap_append, List.flatMap_cons, List.flatMap_nil, List.append_nil]

/-- The cells of decisions in memory. -/
def recCells (l : List Rec) : List Value := l.flatMap fun r => [Value.int .i64 r.1, Value.int .u64 (r.2 : Int)]
theorem recCells_len (l : List Rec) : (recCells l).length = l.length * 2 := by
  induction l with
  | nil => rfl
  | cons r l ih => simp only [recCells, List.flatMap_cons, List.length_append, List.length_cons, List.length_nil] at *; omega
theorem recCells_at : ∀ (l : List Rec) (i : Nat) (h : i < l.length), (recCells l)[i * 2]? = some (.int .i64 l[i].1) ∧ (recCells l)[i * 2 + 1]? = some (.int .u64 (l[i].2 : Int))
  | r :: l, 0, _ => ⟨rfl, rfl⟩
  | r :: l, i + 1, h => by
    have := recCells_at l i (by simpa using h)
    have e : recCells (r :: l) = .int .i64 r.1 :: .int .u64 (r.2 : Int) :: recCells l := rfl
    rw [e, show (i + 1) * 2 = i * 2 + 2 by omega]
    exact this
theorem recCells_snoc (l : List Rec) (k : Nat) (h : k < l.length) : recCells (l.take (k + 1)) = recCells (l.take k) ++ [.int .i64 l[k].1, .int .u64 (l[k].2 : Int)] := by
  rw [List.take_succ_eq_append_getElem h]; simp only [recCells, List.flatMap_append, List.flatMap_cons, List.flatMap_nil, List.append_nil]
theorem recCells_app (l : List Rec) (r : Rec) : recCells (l ++ [r]) = recCells l ++ [.int .i64 r.1, .int .u64 (r.2 : Int)] := by
  simp only [recCells, List.flatMap_append, List.flatMap_cons, List.flatMap_nil, List.append_nil]

/-- Decisions in memory, behind one another, from a on. -/
def RecsAt (w : World) (a : Option Addr) (l : List Rec) : Prop :=
  ∀ i (h : i < l.length), ∃ b off, a = some ⟨b, off, none⟩ ∧ w.cell? ⟨b, off + i * 2, none⟩ = some (.int .i64 l[i].1) ∧ w.cell? ⟨b, off + i * 2 + 1, none⟩ = some (.int .u64 (l[i].2 : Int))
theorem RecsAt.nil (w : World) (a : Option Addr) : RecsAt w a [] := fun i h => by simp at h
theorem RecsAt.below {w w' : World} {a : Option Addr} {l : List Rec} (h : RecsAt w a l) (hb : Below w.heap.size w w') : RecsAt w' a l := fun i hi => by
  obtain ⟨b, off, h1, h2, h3⟩ := h i hi
  have hlt : b < w.heap.size := World.block_lt_of_cell? w _ h2
  exact ⟨b, off, h1, by rw [hb.cell (p := ⟨b, off + i * 2, none⟩) hlt]; exact h2, by rw [hb.cell (p := ⟨b, off + i * 2 + 1, none⟩) hlt]; exact h3⟩
theorem RecsAt.take {w : World} {a : Option Addr} {l : List Rec} (h : RecsAt w a l) (m : Nat) : RecsAt w a (l.take m) := fun i hi => by
  simp at hi
  obtain ⟨b, off, h1, h2, h3⟩ := h i (by omega)
  exact ⟨b, off, h1, by rw [List.getElem_take]; exact h2, by rw [List.getElem_take]; exact h3⟩
/-- A row of the call's own that holds decisions. -/
theorem RecsAt.of_own {w : World} {base : Nat} {e : TypeId} {v : Value} {l : List Rec} (h : w.ownsRow base e 2 v l.length (recCells l)) :
    ∃ a cap, v = .slice a l.length cap ∧ l.length ≤ cap ∧ cap ≤ maxLen ∧ RecsAt w a l := by
  rcases h.2 with ⟨rfl, h0⟩ | ⟨g, cap, cur, rfl, _, hg, hn, hm, hs, hx⟩
  · have : l = [] := List.length_eq_zero_iff.1 h0
    subst this
    exact ⟨none, 0, rfl, Nat.le_refl _, Nat.zero_le _, RecsAt.nil _ _⟩
  · refine ⟨_, cap, rfl, hn, hm, fun i hi => ⟨g, 0, rfl, ?_, ?_⟩⟩
    · have := (recCells_at l i hi).1
      rw [← hx, List.getElem?_take_of_lt (by omega)] at this
      simp [World.cell?, hg]; simpa using this
    · have := (recCells_at l i hi).2
      rw [← hx, List.getElem?_take_of_lt (by omega)] at this
      simp [World.cell?, hg]; simpa using this
/-- What a call that hands back decisions leaves. -/
def GotRecs (w : World) (l : List Rec) (e : Ending) (w' : World) : Prop :=
  ∃ a cap, e = .returned (.slice a l.length cap) ∧ l.length ≤ cap ∧ cap ≤ maxLen ∧ RecsAt w' a l ∧ Below w.heap.size w w'
/-- .. and a number besides. -/
def GotRecsAt (w : World) (l : List Rec) (n : Nat) (e : Ending) (w' : World) : Prop :=
  ∃ a cap, e = .returned (.tuple #[.slice a l.length cap, .int .i64 (n : Int)]) ∧ l.length ≤ cap ∧ cap ≤ maxLen ∧ RecsAt w' a l ∧ Below w.heap.size w w'

theorem Below.grownBy {w w' : World} (hb : Below w.heap.size w w') (row : Option Nat) : w.grownBy w' row := ⟨hb.os, hb.tape, hb.output, hb.size, fun k hk _ => hb.block k hk⟩
theorem builder_below {T e : TypeId} {B b : Nat} {bs : List Value} {w w' : World} (h : Lib.IsBuilder T e B b bs w) (hb : Below w.heap.size w w') : Lib.IsBuilder T e B b bs w' := by
  have one : ∀ p, Lib.BuilderAt T e B b p bs w → Lib.BuilderAt T e B b p bs w' := fun p hp => by
    have hlt := hp.lt
    obtain ⟨hB, v, hbk, hown, hne⟩ := hp
    exact ⟨hB, v, by rw [hb.block b hlt]; exact hbk, hown.kept (row := none) (Below.grownBy hb none) (by cases hv : v.ownBlock <;> simp), hne⟩
  rcases h with h | h
  · exact .inl (one _ h)
  · exact .inr (one _ h)

theorem putL_pos (n : Nat) : 1 ≤ (putL n).length := by unfold putL; rw [putF]; split <;> simp
/-- The decisions that can be read from place n on, at most f of them; the byte behind. -/
def allF : Nat → ByteArray → Nat → List Rec × Nat
  | 0, _, n => ([], n)
  | f + 1, s, n => if (getR s n).2.2 = 0 then (recOf (getR s n).1 :: (allF f s (getR s n).2.1).1, (allF f s (getR s n).2.1).2) else ([], n)
def allR (s : ByteArray) : List Rec × Nat := allF (s.size + 1) s 0
theorem allF_stop (f : Nat) (s : ByteArray) (n : Nat) (h : (getR s n).2.2 ≠ 0) : allF f s n = ([], n) := by
  cases f with
  | zero => rfl
  | succ f => rw [allF, if_neg h]
theorem allF_step (f : Nat) (s : ByteArray) (n m c : Nat) (h : getR s n = (m, c, 0)) : allF (f + 1) s n = (recOf m :: (allF f s c).1, (allF f s c).2) := by
  rw [allF, h]; rfl
theorem getR_end (s : ByteArray) (n : Nat) (h : s.size ≤ n) : (getR s n).2.2 ≠ 0 := by
  intro he
  obtain ⟨k, m, c, hk, hks, hkc, _, hp, _⟩ := getR_err s n he
  have := putL_pos m
  have hl := congrArg List.length hp
  have : (from_ s k).length = s.size - k := by unfold from_; simp
  simp only [List.length_take] at hl
  omega
/-- What getR says where it says a number. -/
theorem getR_step (s : ByteArray) (n : Nat) (h : (getR s n).2.2 = 0) : ∃ m c, getR s n = (m, n + c, 0) ∧ 1 ≤ c ∧ n + c ≤ s.size ∧ m < 18446744073709551616 ∧ putL m = (from_ s n).take c := by
  obtain ⟨k, m, c, hk, hks, hkc, hR, hp, hm⟩ := getR_err s n h
  obtain rfl : k = n := by omega
  refine ⟨m, c, hR, ?_, hkc, hm, hp⟩
  have := putL_pos m
  have hl := congrArg List.length hp
  simp only [List.length_take] at hl
  omega
theorem allF_ok : ∀ (f : Nat) (s : ByteArray) (n : Nat), ∀ r ∈ (allF f s n).1, Rec.ok r
  | 0, s, n, r, hr => by simp [allF] at hr
  | f + 1, s, n, r, hr => by
    by_cases h : (getR s n).2.2 = 0
    · obtain ⟨m, c, hR, _, _, hm, _⟩ := getR_step s n h
      rw [allF_step f s n _ _ hR] at hr
      simp only [List.mem_cons] at hr
      rcases hr with rfl | hr
      · exact recOf_ok m hm
      · exact allF_ok f s _ r hr
    · rw [allF_stop _ _ _ h] at hr; simp at hr
theorem allF_len : ∀ (f : Nat) (s : ByteArray) (n : Nat), n ≤ s.size → (allF f s n).1.length + n ≤ (allF f s n).2 ∧ (allF f s n).2 ≤ s.size
  | 0, s, n, h => by simp [allF]; exact h
  | f + 1, s, n, h => by
    by_cases he : (getR s n).2.2 = 0
    · obtain ⟨m, c, hR, hc, hle, hm, _⟩ := getR_step s n he
      rw [allF_step f s n _ _ hR]
      have := allF_len f s (n + c) hle
      simp only [List.length_cons]; omega
    · rw [allF_stop _ _ _ he]; simp; exact h
/-- What is read has just these bytes. -/
theorem allF_bytes : ∀ (f : Nat) (s : ByteArray) (n : Nat), n ≤ s.size → bytesL (allF f s n).1 = (from_ s n).take ((allF f s n).2 - n)
  | 0, s, n, h => by simp [allF, bytesL]
  | f + 1, s, n, h => by
    by_cases he : (getR s n).2.2 = 0
    · obtain ⟨m, c, hR, hc, hle, hm, hp⟩ := getR_step s n he
      rw [allF_step f s n _ _ hR]
      have hb := allF_bytes f s (n + c) hle
      have hl := allF_len f s (n + c) hle
      have e : from_ s (n + c) = (from_ s n).drop c := by unfold from_; rw [List.drop_drop]
      simp only [bytesL, List.flatMap_cons] at hb ⊢
      rw [hb, num_recOf, hp, e, show (allF f s (n + c)).2 - n = c + ((allF f s (n + c)).2 - (n + c)) by omega, List.take_add]
    · rw [allF_stop _ _ _ he]; simp [bytesL]
/-- There and back. -/
theorem allF_back : ∀ (l : List Rec) (f : Nat) (s : ByteArray) (n : Nat), (∀ r ∈ l, Rec.ok r) → from_ s n = bytesL l → l.length < f → n ≤ s.size → allF f s n = (l, s.size)
  | [], f, s, n, _, h, _, hn => by
    have hl : (from_ s n).length = s.size - n := by unfold from_; simp
    rw [h] at hl; simp [bytesL] at hl
    have : n = s.size := by omega
    rw [allF_stop _ _ _ (getR_end s n (by omega)), this]
  | r :: l, 0, s, n, _, _, hf, _ => by simp at hf
  | r :: l, f + 1, s, n, hok, h, hf, hn => by
    have hr := hok r (by simp)
    have e : bytesL (r :: l) = putL r.num ++ bytesL l := rfl
    have hl : (from_ s n).length = s.size - n := by unfold from_; simp
    rw [h, e, List.length_append] at hl
    have hg := getR_put s n r.num (bytesL l) hn (Rec.num_lt hr) (by rw [h, e])
    rw [allF_step f s n _ _ hg, allF_back l f s (n + (putL r.num).length) (fun x hx => hok x (by simp [hx])) ?_ (by simpa using hf) (by omega), recOf_num hr]
    have : from_ s (n + (putL r.num).length) = (from_ s n).drop (putL r.num).length := by unfold from_; rw [List.drop_drop]
    rw [this, h, e, List.drop_left]

/-- A number's bytes that are cut off are no number. -/
theorem getL_prefix : ∀ (f i n j : Nat), n < 18446744073709551616 → j < (putL n).length → (getL f i ((putL n).take j)).2.2 ≠ 0
  | 0, i, n, j, _, _ => by simp [getL]
  | f + 1, i, n, 0, _, _ => by simp [getL]
  | f + 1, i, n, j + 1, hn, h => by
    by_cases hs : n < 128
    · rw [putL_last n hs] at h; simp at h
    · have hst := putL_step n (by omega) (lim10 n hn)
      rw [hst] at h ⊢
      rw [List.take_succ_cons, getL, if_pos (by simp; omega)]
      have ih := getL_prefix f (i + 1) (n / 128) j (by omega) (by simpa using h)
      rw [if_neg ih]
      exact ih
theorem getR_cut (s : ByteArray) (p n j : Nat) (hp : p ≤ s.size) (hn : n < 18446744073709551616) (hj : j < (putL n).length) (h : from_ s p = (putL n).take j) : (getR s p).2.2 ≠ 0 := by
  have hg := getL_prefix 10 0 n j hn hj
  unfold getR
  rw [if_pos ⟨by omega, by omega⟩, Int.toNat_natCast, h, if_neg hg]
  exact hg
/-- Of decisions that are cut off the first ones are read. -/
theorem allF_cut : ∀ (l : List Rec) (f : Nat) (s : ByteArray) (p c k : Nat), (∀ r ∈ l, Rec.ok r) → from_ s p = (bytesL l).take c → p ≤ s.size → k ≤ f → k ≤ l.length → (bytesL (l.take k)).length ≤ c →
    (k = l.length ∨ c < (bytesL (l.take (k + 1))).length) → allF f s p = (l.take k, p + (bytesL (l.take k)).length)
  | [], f, s, p, c, k, _, h, hp, _, hk, _, _ => by
    have hl : (from_ s p).length = s.size - p := by unfold from_; simp
    rw [h] at hl; simp [bytesL] at hl
    rw [allF_stop _ _ _ (getR_end s p (by omega))]; simp [bytesL]
  | r :: l, 0, s, p, c, k + 1, _, _, _, hf, _, _, _ => by omega
  | r :: l, f, s, p, c, 0, hok, h, hp, _, _, _, hx => by
    have hr := hok r (by simp)
    have hc : c < (putL r.num).length := by
      rcases hx with hx | hx
      · simp at hx
      · simpa [bytesL] using hx
    have e : bytesL (r :: l) = putL r.num ++ bytesL l := rfl
    rw [e, List.take_append_of_le_length (by omega)] at h
    rw [allF_stop _ _ _ (getR_cut s p r.num c hp (Rec.num_lt hr) hc h)]; simp [bytesL]
  | r :: l, f + 1, s, p, c, k + 1, hok, h, hp, hf, hk, hle, hx => by
    have hr := hok r (by simp)
    have e : bytesL (r :: l) = putL r.num ++ bytesL l := rfl
    have et : ∀ j, bytesL ((r :: l).take (j + 1)) = putL r.num ++ bytesL (l.take j) := fun j => by rw [List.take_succ_cons]; rfl
    rw [et, List.length_append] at hle
    rw [et, List.length_append] at hx
    rw [et, List.length_append, List.take_succ_cons]
    have h' : from_ s p = putL r.num ++ (bytesL l).take (c - (putL r.num).length) := by
      rw [h, e, List.take_append, List.take_of_length_le (by omega)]
    have hl : (from_ s p).length = s.size - p := by unfold from_; simp
    have hlp : (putL r.num).length ≤ s.size - p := by rw [← hl, h', List.length_append]; omega
    have hg := getR_put s p r.num _ hp (Rec.num_lt hr) h'
    have hd : from_ s (p + (putL r.num).length) = (bytesL l).take (c - (putL r.num).length) := by
      have : from_ s (p + (putL r.num).length) = (from_ s p).drop (putL r.num).length := by unfold from_; rw [List.drop_drop]
      rw [this, h', List.drop_left]
    rw [allF_step f s p _ _ hg, allF_cut l f s (p + (putL r.num).length) (c - (putL r.num).length) k (fun x hx => hok x (by simp [hx])) hd (by omega) (by simpa using hf) (by simpa using hk) (by omega) (by
      rcases hx with hx | hx
      · left; simpa using hx
      · right; omega), recOf_num hr, Nat.add_assoc]
end Go.Proofs.Ytkjhaofodlpnmaa
