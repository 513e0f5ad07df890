/-
  Sources: how an oracle, a tape, a chain draw.
-/
import Derived.Test.YtkjhaofodlpnmaaWSrc1
import Derived.Deep.QuietTactic
import Derived.BigQuiet
import Derived.WalkSmall
open Go Go.RowKit
set_option linter.unusedVariables false
namespace Go.Proofs.Ytkjhaofodlpnmaa
/-- What stands there, where a decision strays. -/
def strayV (i : Nat) (kind : Int) (n : Nat) (r : Rec) : Value := .agg #[.int .i64 (i : Int), .int .i64 kind, .int .i64 (n : Int), .int .i64 r.1, .int .u64 (r.2 : Int)]
def strayed (i : Nat) (kind : Int) (n : Nat) (r : Rec) : Ending := .panicked [{ v := .iface 44 (strayV i kind n r), recovered := false }]
theorem num_at {w : World} {a : Option Addr} {l : List Nat} (h : CellsAt w a (numc l)) (i : Nat) (hi : i < l.length) : ∃ b off, a = some ⟨b, off, none⟩ ∧ w.cell? ⟨b, off + i, none⟩ = some (.int .u64 (l[i] : Int)) :=
  h i _ (by simp [numc, hi])
theorem rec_at {w : World} {a : Option Addr} {l : List Rec} (h : CellsAt w a (recCells l)) (i : Nat) (hi : i < l.length) : ∃ b off, a = some ⟨b, off, none⟩ ∧ w.cell? ⟨b, off + i * 2, none⟩ = some (.int .i64 l[i].1) ∧ w.cell? ⟨b, off + i * 2 + 1, none⟩ = some (.int .u64 (l[i].2 : Int)) := by
  obtain ⟨b, off, rfl, h1⟩ := CellsAt.rec (f := fun r : Rec => [Value.int .i64 r.1, Value.int .u64 (r.2 : Int)]) (s := 2) (fun _ => rfl) (l := l) h i hi (by omega)
  exact ⟨b, off, rfl, h1 0 _ rfl, h1 1 _ rfl⟩
set_option maxRecDepth 100000 in
set_option maxHeartbeats 1000000 in
theorem oracle_any (w : World) (a : Option Addr) (c : Nat) (l : List Nat) (h : CellsAt w a (numc l)) (hl : ∀ n ∈ l, n < 18446744073709551616) (i : Nat) (hi : i < l.length) (kind : Int) (n : Nat) (hn : 1 ≤ n) (hn2 : n < 9223372036854775808) :
    Calls Try.prog 18 #[.slice a l.length c, .int .i64 (i : Int), .int .i64 kind, .int .i64 (n : Int)] w fun r w' => r = .returned (.int .u64 ((l[i] % n : Nat) : Int)) ∧ w' = w := by
  obtain ⟨b, off, rfl, g⟩ := num_at h i hi
  have hx := hl _ (List.getElem_mem hi)
  generalize l[i] = x at *
  generalize l.length = m at *
  have hne : ¬ (n : Int) = 0 := by omega
  have hw : IntKind.u64.wrap (n : Int) = (n : Int) := by rw [IntKind.wrap_u64]; omega
  have hr : (x : Int).tmod (n : Int) = ((x % n : Nat) : Int) := by rw [Int.tmod_eq_emod_of_nonneg (by omega)]; simp
  have hw2 : IntKind.u64.wrap ((x % n : Nat) : Int) = ((x % n : Nat) : Int) := by
    have : x % n < n := Nat.mod_lt _ (by omega)
    rw [IntKind.wrap_u64]; omega
  clear h hl hn2 hx
  go_enter Try.func18, Try.ntmps18
  go_wp2
  go_ret
  exact ⟨ret_int (by simp), rfl⟩
/-- What a decision's draw comes to. -/
def Taped (w : World) (i : Nat) (kind : Int) (n : Nat) (x : Rec) (r : Ending) (w' : World) : Prop :=
  Below w.heap.size w w' ∧ ((x.1 = kind ∧ x.2 < n ∧ r = .returned (.int .u64 (x.2 : Int))) ∨ (¬ (x.1 = kind ∧ x.2 < n) ∧ r = strayed i kind n x))
set_option maxRecDepth 100000 in
set_option maxHeartbeats 1000000 in
theorem tape_any (w : World) (a : Option Addr) (c : Nat) (l : List Rec) (h : CellsAt w a (recCells l)) (hl : ∀ r ∈ l, r.2 < 18446744073709551616) (i : Nat) (hi : i < l.length) (kind : Int) (n : Nat) (hn : 1 ≤ n) (hn2 : n < 9223372036854775808) :
    Calls Try.prog 20 #[.slice a l.length c, .int .i64 (i : Int), .int .i64 kind, .int .i64 (n : Int)] w (Taped w i kind n l[i]) := by
  obtain ⟨b, off, rfl, g0, g1⟩ := rec_at h i hi
  have hx := hl _ (List.getElem_mem hi)
  have hlt := World.block_lt_of_cell? w _ g0
  generalize l[i] = x at *
  obtain ⟨k, m⟩ := x
  generalize l.length = N at *
  simp only at g0 g1 hx
  have hw : IntKind.u64.wrap (n : Int) = (n : Int) := by rw [IntKind.wrap_u64]; omega
  clear h hl hx
  have hp1 : (k = kind ∧ m < n) → Taped w i kind n (k, m) (.returned (.int .u64 (m : Int))) (w.alloc (.cells #[.int .i64 k, .int .u64 (m : Int)] 37)) := fun h => ⟨below_alloc1 _ _, .inl ⟨h.1, h.2, rfl⟩⟩
  have hp2 : ¬ (k = kind ∧ m < n) → Taped w i kind n (k, m) (strayed i kind n (k, m)) (w.alloc (.cells #[.int .i64 k, .int .u64 (m : Int)] 37)) := fun h => ⟨below_alloc1 _ _, .inr ⟨h, rfl⟩⟩
  by_cases h1 : k = kind
  · by_cases h2 : m < n
    · have H := Lib.hid (hp1 ⟨h1, h2⟩)
      subst h1
      clear hp1 hp2
      go_enter Try.func20, Try.ntmps20
      go_wp2
      go_ret
      exact H.out
    · have H := Lib.hid (hp2 (fun h => h2 h.2))
      subst h1
      clear hp1 hp2
      go_enter Try.func20, Try.ntmps20
      go_wp2
      exact ⟨rfl, H.out⟩
  · have H := Lib.hid (hp2 (fun h => h1 h.1))
    clear hp1 hp2
    go_enter Try.func20, Try.ntmps20
    go_wp2
    exact ⟨rfl, H.out⟩
/-- What there is to be drawn. -/
structure Src where
  tape : List Rec
  nums : List Nat
  taken : List Rec
def Src.many (S : Src) : Nat := S.tape.length + S.nums.length
def Src.ok (S : Src) : Prop := (∀ r ∈ S.tape, r.2 < 18446744073709551616) ∧ ∀ n ∈ S.nums, n < 18446744073709551616
/-- A draw: its number; none: a decision strays. -/
def drawAt (S : Src) (i : Nat) (kind : Int) (n : Nat) : Option Nat :=
  if i < S.tape.length then (if (S.tape.getD i (0, 0)).1 = kind ∧ (S.tape.getD i (0, 0)).2 < n then some (S.tape.getD i (0, 0)).2 else none) else some (S.nums.getD (i - S.tape.length) 0 % n)
def Drawn (w : World) (S : Src) (i : Nat) (kind : Int) (n : Nat) (r : Ending) (w' : World) : Prop :=
  Below w.heap.size w w' ∧ match drawAt S i kind n with
    | some v => r = .returned (.int .u64 (v : Int))
    | none => r = strayed i kind n (S.tape.getD i (0, 0))
theorem Taped.drawn {w w' : World} {S : Src} {i : Nat} {kind : Int} {n : Nat} {r : Ending} (hi : i < S.tape.length) (h : Taped w i kind n S.tape[i] r w') : Drawn w S i kind n r w' := by
  obtain ⟨hb, h⟩ := h
  refine ⟨hb, ?_⟩
  have e : S.tape.getD i (0, 0) = S.tape[i] := by rw [List.getD_eq_getElem?_getD, List.getElem?_eq_getElem hi]; rfl
  unfold drawAt
  rw [if_pos hi, e]
  rcases h with ⟨h1, h2, rfl⟩ | ⟨h1, rfl⟩
  · rw [if_pos ⟨h1, h2⟩]
  · rw [if_neg h1]
theorem Drawn.num {w w' : World} {S : Src} {i : Nat} {kind : Int} {n : Nat} {r : Ending} (hi : ¬ i < S.tape.length) (h2 : i - S.tape.length < S.nums.length) (hb : Below w.heap.size w w') (h : r = .returned (.int .u64 ((S.nums[i - S.tape.length] % n : Nat) : Int))) : Drawn w S i kind n r w' := by
  refine ⟨hb, ?_⟩
  unfold drawAt
  rw [if_neg hi, List.getD_eq_getElem?_getD, List.getElem?_eq_getElem h2]
  exact h
theorem Drawn.from {w1 w w' : World} {S : Src} {i : Nat} {kind : Int} {n : Nat} {r : Ending} (h : Drawn w S i kind n r w') (hb : Below w1.heap.size w1 w) : Drawn w1 S i kind n r w' := ⟨below_on hb h.1, h.2⟩
theorem Drawn.cases {w w' : World} {S : Src} {i : Nat} {kind : Int} {n : Nat} {r : Ending} (h : Drawn w S i kind n r w') : (∃ v : Nat, r = .returned (.int .u64 (v : Int)) ∧ drawAt S i kind n = some v) ∨ (r = strayed i kind n (S.tape.getD i (0, 0)) ∧ drawAt S i kind n = none) := by
  obtain ⟨hb, h⟩ := h
  cases hd : drawAt S i kind n with
  | none => rw [hd] at h; exact .inr ⟨h, rfl⟩
  | some v => rw [hd] at h; exact .inl ⟨v, h, rfl⟩
end Go.Proofs.Ytkjhaofodlpnmaa
