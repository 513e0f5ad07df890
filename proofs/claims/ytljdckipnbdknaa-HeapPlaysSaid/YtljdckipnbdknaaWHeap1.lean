/-
  A heap in memory; what it compares, what it exchanges.
-/
import Derived.Test.YtljdckipnbdknaaRows
import Derived.Test.YtljdckipnbdknaaSep
import Derived.Test.YtljdckipnbdknaaHeapF
import Derived.Deep.QuietTactic
import Derived.BigQuiet
import Derived.WalkSmall
import Derived.Deep.DeepCutAuto
import Derived.RegionTactic
import Derived.Deep.RegionHeld3
import Derived.Deep.RegionWith
import Derived.Deep.RegionLaw
import Derived.Deep.AppendLies
open Go Go.RowKit
set_option linter.unusedVariables false
namespace Go.Proofs.Ytljdckipnbdknaa
/-- Items as cells. -/
def icells (l : List It) : List Value := l.flatMap fun x => [.int .u64 x.at_, .int .u64 x.seq, .int .i64 x.id]
theorem icells_len (l : List It) : (icells l).length = l.length * 3 := by
  unfold icells; induction l with
  | nil => rfl
  | cons x l ih => simp only [List.flatMap_cons, List.length_append, ih, List.length_cons, List.length_nil]; omega
theorem icells_app (l m : List It) : icells (l ++ m) = icells l ++ icells m := by unfold icells; rw [List.flatMap_append]
theorem icells_cons (x : It) (l : List It) : icells (x :: l) = .int .u64 x.at_ :: .int .u64 x.seq :: .int .i64 x.id :: icells l := rfl
theorem icells_at (l : List It) : ∀ (i : Nat), i < l.length → (icells l)[i * 3]? = some (.int .u64 (gI l i).at_) ∧ (icells l)[i * 3 + 1]? = some (.int .u64 (gI l i).seq) ∧ (icells l)[i * 3 + 2]? = some (.int .i64 (gI l i).id) := by
  induction l with
  | nil => intro i h; simp at h
  | cons x l ih =>
    intro i h
    cases i with
    | zero => exact ⟨rfl, rfl, rfl⟩
    | succ i =>
      have := ih i (by simpa using h)
      have e : gI (x :: l) (i + 1) = gI l i := rfl
      rw [icells_cons, e, show (i + 1) * 3 = i * 3 + 1 + 1 + 1 by omega]
      exact this
theorem icells_set (l : List It) : ∀ (i : Nat) (y : It), i < l.length → (((icells l).set (i * 3) (.int .u64 y.at_)).set (i * 3 + 1) (.int .u64 y.seq)).set (i * 3 + 2) (.int .i64 y.id) = icells (l.set i y) := by
  induction l with
  | nil => intro i y h; simp at h
  | cons x l ih =>
    intro i y h
    cases i with
    | zero => rfl
    | succ i =>
      have := ih i y (by simpa using h)
      rw [icells_cons, List.set_cons_succ, icells_cons, show (i + 1) * 3 = i * 3 + 1 + 1 + 1 by omega]
      simp only [List.set_cons_succ]
      rw [this]
theorem icells_take (l : List It) (n : Nat) : icells (l.take n) = (icells l).take (n * 3) := by
  induction l generalizing n with
  | nil => simp [icells]
  | cons x l ih =>
    cases n with
    | zero => simp [icells]
    | succ n =>
      rw [List.take_succ_cons, icells_cons, icells_cons, show (n + 1) * 3 = n * 3 + 1 + 1 + 1 by omega]
      simp only [List.take_succ_cons]
      rw [ih]
theorem icells_one (l : List It) : ∀ v ∈ icells l, v.oneCell' = true := fun v hv => by
  unfold icells at hv
  simp only [List.mem_flatMap, List.mem_cons, List.not_mem_nil, or_false] at hv
  obtain ⟨x, -, rfl | rfl | rfl⟩ := hv <;> rfl
/-- A slice of items, from its array's head on. -/
def ItemsAt (w : World) (v : Value) (l : List It) : Prop := w.ownsRow 0 43 3 v l.length (icells l)
theorem ItemsAt.chg {F : List Nat} {w w' : World} {v : Value} {l : List It} (h : ItemsAt w v l) (c : Chg F w w') (hd : ∀ x ∈ v.ownBlock.toList, x ∉ F) : ItemsAt w' v l := owns_chg h c (fun g hg => hd g (by rw [hg]; simp))
theorem ItemsAt.below {w w' : World} {v : Value} {l : List It} (h : ItemsAt w v l) (hb : Below w.heap.size w w') : ItemsAt w' v l := h.chg (Chg.of_below (F := []) hb) (fun _ _ => by simp)
theorem ItemsAt.lt {w : World} {v : Value} {l : List It} (h : ItemsAt w v l) : ∀ x ∈ v.ownBlock.toList, x < w.heap.size := fun x hx => owns_lt h x (by simpa using hx)
theorem ItemsAt.form {w : World} {v : Value} {l : List It} (h : ItemsAt w v l) (hl : 0 < l.length) : ∃ g cap, v = .slice (some ⟨g, 0, none⟩) l.length cap ∧ l.length ≤ cap := by
  rcases h.2 with ⟨rfl, h0⟩ | ⟨g, cap, cur, rfl, _, _, h1, _⟩
  · omega
  · exact ⟨g, cap, rfl, h1⟩
theorem ItemsAt.slice {w : World} {v : Value} {l : List It} (h : ItemsAt w v l) : ∃ a cap, v = .slice a l.length cap ∧ l.length ≤ cap := by
  rcases h.2 with ⟨rfl, h0⟩ | ⟨g, cap, cur, rfl, _, _, h1, _⟩
  · exact ⟨none, 0, by rw [h0], by omega⟩
  · exact ⟨_, cap, rfl, h1⟩
theorem ItemsAt.nil (w : World) : ItemsAt w (.slice none 0 0) [] := World.ownsRow_nil _ _ _ _
theorem ItemsAt.cell {w : World} {g n cap : Nat} {l : List It} (h : ItemsAt w (.slice (some ⟨g, 0, none⟩) n cap) l) (i : Nat) (hi : i < l.length) :
    w.cell? ⟨g, i * 3, none⟩ = some (.int .u64 (gI l i).at_) ∧ w.cell? ⟨g, i * 3 + 1, none⟩ = some (.int .u64 (gI l i).seq) ∧ w.cell? ⟨g, i * 3 + 2, none⟩ = some (.int .i64 (gI l i).id) := by
  obtain ⟨h1, h2, h3⟩ := icells_at l i hi
  have hc : ∀ j u, (icells l)[j]? = some u → w.cell? ⟨g, j, none⟩ = some u := fun j u hj => by
    have := World.ownsRow.cells h (g := g) rfl j u hj
    rwa [Addr.add_lit, Nat.zero_add] at this
  exact ⟨hc _ _ h1, hc _ _ h2, hc _ _ h3⟩
theorem ItemsAt.free {w : World} {g n cap : Nat} {l : List It} (h : ItemsAt w (.slice (some ⟨g, 0, none⟩) n cap) l) (j : Nat) : w.frozen? ⟨g, j, none⟩ = false := by
  rcases h.2 with ⟨hv, _⟩ | ⟨g', cap', cur, hv, hb, hg, h2, h3, h4, h5⟩
  · cases hv
  · simp only [Value.slice.injEq, Option.some.injEq, Addr.mk.injEq, and_true] at hv
    obtain ⟨rfl, _⟩ := hv
    exact frozen_of_row w g j cur _ hg
theorem owns_set {e : TypeId} {g n cap size : Nat} {w : World} {xs : List Value} (h : w.ownsRow 0 e size (.slice (some ⟨g, 0, none⟩) n cap) n xs) (j : Nat) (v : Value) :
    (w.setCell ⟨g, j, none⟩ v).ownsRow 0 e size (.slice (some ⟨g, 0, none⟩) n cap) n (xs.set j v) := by
  refine ⟨by simpa using h.1, ?_⟩
  rcases h.2 with ⟨hv, _⟩ | ⟨g', cap', cur, hv, hb, hg, h2, h3, h4, h5⟩
  · cases hv
  · simp only [Value.slice.injEq, Option.some.injEq, Addr.mk.injEq, and_true, true_and] at hv
    obtain ⟨rfl, rfl⟩ := hv
    refine .inr ⟨g, cap, cur.set! j v, rfl, hb, heap_setCell_same _ _ _ _ _ _ hg, h2, h3, by simpa using h4, ?_⟩
    rw [← h5, Array.set!_eq_setIfInBounds, Array.toList_setIfInBounds, List.take_set]
theorem owns_takeK {w : World} {e : TypeId} {size : Nat} {a : Option Addr} {n cap : Nat} {xs : List Value} (h : w.ownsRow 0 e size (.slice a n cap) n xs) (m : Nat) (hm : m ≤ n) : w.ownsRow 0 e size (.slice a m cap) m (xs.take (m * size)) := by
  have hx : xs.length = n * size := h.1
  have hms : m * size ≤ n * size := Nat.mul_le_mul_right _ hm
  refine ⟨by rw [List.length_take]; omega, ?_⟩
  rcases h.2 with ⟨hv, hn⟩ | ⟨g, cap', cur, hv, hb, hg, h2, h3, h4, h5⟩
  · simp only [Value.slice.injEq] at hv
    obtain ⟨rfl, _, rfl⟩ := hv
    exact .inl ⟨by rw [show m = 0 by omega], by omega⟩
  · simp only [Value.slice.injEq, true_and] at hv
    obtain ⟨rfl, rfl⟩ := hv
    refine .inr ⟨g, cap, cur, rfl, hb, hg, by omega, h3, h4, ?_⟩
    rw [← h5, List.take_take]; congr 1; omega
theorem ItemsAt.set {w : World} {g n cap : Nat} {l : List It} (h : ItemsAt w (.slice (some ⟨g, 0, none⟩) n cap) l) (i : Nat) (hi : i < l.length) (hn : n = l.length) (y : It) :
    ItemsAt (((w.setCell ⟨g, i * 3, none⟩ (.int .u64 y.at_)).setCell ⟨g, i * 3 + 1, none⟩ (.int .u64 y.seq)).setCell ⟨g, i * 3 + 2, none⟩ (.int .i64 y.id)) (.slice (some ⟨g, 0, none⟩) n cap) (l.set i y) := by
  subst hn
  unfold ItemsAt at h ⊢
  rw [List.length_set, ← icells_set l i y hi]
  exact owns_set (owns_set (owns_set h _ _) _ _) _ _
/-- A heap: its two cells in block p, its items; the next number. -/
def HeapAt (w : World) (p : Nat) (v : Value) (l : List It) (nx : Nat) : Prop := Blk w p [v, .int .u64 (nx : Int)] ∧ ItemsAt w v l ∧ ∀ x ∈ v.ownBlock.toList, x ≠ p
theorem HeapAt.chg {F : List Nat} {w w' : World} {p : Nat} {v : Value} {l : List It} {nx : Nat} (h : HeapAt w p v l nx) (c : Chg F w w') (hp : p ∉ F) (hd : ∀ x ∈ v.ownBlock.toList, x ∉ F) : HeapAt w' p v l nx := ⟨h.1.chg c hp, h.2.1.chg c hd, h.2.2⟩
theorem HeapAt.below {w w' : World} {p : Nat} {v : Value} {l : List It} {nx : Nat} (h : HeapAt w p v l nx) (hb : Below w.heap.size w w') : HeapAt w' p v l nx := h.chg (Chg.of_below (F := []) hb) (by simp) (fun _ _ => by simp)
theorem HeapAt.lt {w : World} {p : Nat} {v : Value} {l : List It} {nx : Nat} (h : HeapAt w p v l nx) : p < w.heap.size ∧ ∀ x ∈ v.ownBlock.toList, x < w.heap.size := ⟨h.1.lt (by simp), h.2.1.lt⟩
/-- Compare of two numbers. -/
def cmpU (x y : Int) : Int := if x < y then -1 else if y < x then 1 else 0
set_option maxRecDepth 100000 in
set_option maxHeartbeats 1000000 in
theorem cmpU_any (x y : Int) (w : World) : Calls Try.prog 29 #[.int .u64 x, .int .u64 y] w fun r w' => r = .returned (.int .i64 (cmpU x y)) ∧ w' = w := by
  rcases Int.lt_trichotomy x y with h | rfl | h
  · rw [show cmpU x y = -1 by unfold cmpU; rw [if_pos h]]
    go_enter Try.func29, Try.ntmps29
    go_wp2
    go_ret
    exact ⟨rfl, rfl⟩
  · rw [show cmpU x x = 0 by unfold cmpU; simp]
    go_enter Try.func29, Try.ntmps29
    go_wp2
    go_ret
    exact ⟨rfl, rfl⟩
  · rw [show cmpU x y = 1 by unfold cmpU; rw [if_neg (by omega), if_pos h]]
    go_enter Try.func29, Try.ntmps29
    go_wp2
    go_ret
    exact ⟨rfl, rfl⟩
set_option maxRecDepth 100000 in
set_option maxHeartbeats 1000000 in
theorem or_any (x y : Int) (b : Nat) (w : World) (h0 : w.cell? ⟨b, 0, none⟩ = some (.int .i64 x)) (h1 : w.cell? ⟨b, 1, none⟩ = some (.int .i64 y)) :
    Calls Try.prog 28 #[.slice (some ⟨b, 0, none⟩) 2 2] w fun r w' => r = .returned (.int .i64 (if x = 0 then y else x)) ∧ w' = w := by
  obtain ⟨z, hz⟩ : ∃ z, z = if x = 0 then y else x := ⟨_, rfl⟩
  rw [← hz]
  have hc : ((x != 0) = true ∧ z = x) ∨ ((x != 0) = false ∧ (y != 0) = true ∧ z = y) ∨ ((x != 0) = false ∧ (y != 0) = false ∧ z = 0) := by
    by_cases hx : x = 0
    · rw [if_pos hx] at hz
      by_cases hy : y = 0
      · exact .inr (.inr ⟨by simp [hx], by simp [hy], by rw [hz, hy]⟩)
      · exact .inr (.inl ⟨by simp [hx], by simp [hy], hz⟩)
    · rw [if_neg hx] at hz; exact .inl ⟨by simp [hx], hz⟩
  clear hz
  have HC := Lib.hid hc
  clear hc
  go_enter Try.func28, Try.ntmps28
  go_wp2
  go_loop [8] (fun i => ∃ k : Nat, k ≤ 2 ∧ i = .int .i64 k ∧ Hid ((1 ≤ k → (x != 0) = false) ∧ (2 ≤ k → (y != 0) = false))) (fun i => 2 - (intOf i).toNat)
  case atStart => exact ⟨0, by omega, rfl, ⟨fun h => by omega, fun h => by omega⟩⟩
  case round =>
    obtain ⟨k, hk, rfl, hr⟩ := hrel
    obtain rfl | rfl | rfl : k = 0 ∨ k = 1 ∨ k = 2 := by omega
    · rcases HC.out with ⟨e1, rfl⟩ | ⟨e1, -⟩ | ⟨e1, -⟩
      · go_wp2
        go_ret
        exact ⟨rfl, rfl⟩
      all_goals
        have HR : Hid ((1 ≤ 1 → (x != 0) = false) ∧ (2 ≤ 1 → (y != 0) = false)) := ⟨fun _ => e1, fun h => by omega⟩
        go_wp2
        go_round
        case rel => exact ⟨1, by omega, rfl, HR⟩
        case measure => simp [intOf]
    · have e0 := hr.out.1 (by omega)
      rcases HC.out with ⟨e1, rfl⟩ | ⟨-, e1, rfl⟩ | ⟨-, e1, rfl⟩
      · rw [e0] at e1; cases e1
      · clear e0
        go_wp2
        go_ret
        exact ⟨rfl, rfl⟩
      · have HR : Hid ((1 ≤ 2 → (x != 0) = false) ∧ (2 ≤ 2 → (y != 0) = false)) := ⟨fun _ => e0, fun h => e1⟩
        clear e0
        go_wp2
        go_round
        case rel => exact ⟨2, by omega, rfl, HR⟩
        case measure => simp [intOf]
    · have e0 := hr.out.1 (by omega)
      have e2 := hr.out.2 (by omega)
      rcases HC.out with ⟨e1, rfl⟩ | ⟨-, e1, rfl⟩ | ⟨-, e1, rfl⟩
      · rw [e0] at e1; cases e1
      · rw [e2] at e1; cases e1
      · clear e0 e1 e2
        go_wp2
        go_ret
        exact ⟨rfl, rfl⟩
/-- An item as a value. -/
def itv (x : It) : Value := .agg #[.int .u64 x.at_, .int .u64 x.seq, .int .i64 x.id]
def cmpI (x y : It) : Int := if cmpU x.at_ y.at_ = 0 then cmpU x.seq y.seq else cmpU x.at_ y.at_
theorem cmpI_lt (x y : It) : (cmpI x y < 0) = (ltI x y = true) := by
  rw [ltI_iff]; unfold cmpI cmpU; apply propext
  split <;> split <;> (try split) <;> (try split) <;> omega
set_option maxRecDepth 100000 in
set_option maxHeartbeats 1000000 in
theorem compare_any (x y : It) (w : World) : Calls Try.prog 22 #[itv x, itv y] w fun r w' => r = .returned (.int .i64 (cmpI x y)) ∧ Below w.heap.size w w' := by
  have hI : cmpI x y = if cmpU x.at_ y.at_ = 0 then cmpU x.seq y.seq else cmpU x.at_ y.at_ := rfl
  generalize cmpI x y = c at hI ⊢
  obtain ⟨xa, xs, xi⟩ := x
  obtain ⟨ya, ys, yi⟩ := y
  simp only at hI
  unfold itv
  obtain ⟨s0, hs0⟩ : ∃ s0, s0 = w.heap.size := ⟨_, rfl⟩
  have hO : Own w ((w.alloc (.cells #[.int .u64 xa, .int .u64 xs, .int .i64 xi] 43)).alloc (.cells #[.int .u64 ya, .int .u64 ys, .int .i64 yi] 43)) [CelA (s0 + 1) [.int .u64 ya, .int .u64 ys, .int .i64 yi], CelA s0 [.int .u64 xa, .int .u64 xs, .int .i64 xi]] :=
    ((Own.nil (Below.refl _ _)).alloc _ _ hs0).alloc _ _ (by simp [hs0])
  have HO := Lib.hid hO
  have HI := Lib.hid hI
  clear hO hI
  go_enter Try.func22, Try.ntmps22
  go_upto_region 1 with fail
  rw [← hs0]
  clear hs0
  generalize (w.alloc (.cells #[.int .u64 xa, .int .u64 xs, .int .i64 xi] 43)).alloc (.cells #[.int .u64 ya, .int .u64 ys, .int .i64 yi] 43) = W at *
  obtain ⟨g0, -⟩ := HO.out.cel 1 rfl 0 _ rfl
  obtain ⟨g1, -⟩ := HO.out.cel 1 rfl 1 _ rfl
  obtain ⟨g2, -⟩ := HO.out.cel 0 rfl 0 _ rfl
  obtain ⟨g3, -⟩ := HO.out.cel 0 rfl 1 _ rfl
  have hk : ∀ w', Below W.heap.size W w' → w'.cell? ⟨s0, 0, none⟩ = some (.int .u64 xa) ∧ w'.cell? ⟨s0, 1, none⟩ = some (.int .u64 xs) ∧ w'.cell? ⟨s0 + 1, 0, none⟩ = some (.int .u64 ya) ∧ w'.cell? ⟨s0 + 1, 1, none⟩ = some (.int .u64 ys) ∧ Below W.heap.size W w' :=
    fun w' hb => ⟨cell_below g0 hb, cell_below g1 hb, cell_below g2 hb, cell_below g3 hb, hb⟩
  have HK := Lib.hid hk
  have hb1 := HO.out.bel
  have HB1 := Lib.hid hb1
  clear hk g0 g1 g2 g3 hb1 HO
  go_region_held3 (fun w' => w'.cell? ⟨s0, 0, none⟩ = some (.int .u64 xa) ∧ w'.cell? ⟨s0, 1, none⟩ = some (.int .u64 xs) ∧ w'.cell? ⟨s0 + 1, 0, none⟩ = some (.int .u64 ya) ∧ w'.cell? ⟨s0 + 1, 1, none⟩ = some (.int .u64 ys) ∧ Below W.heap.size W w')
    ((refine HK.out _ ?_; repeat (first | exact Below.refl _ _ | exact lim4 (by assumption) | refine Below.drew ?_ | refine below_drewN ?_ _ | refine Below.alloc ?_ (by first | exact (lim4 (by assumption) : Below W.heap.size W _).size | simp) _)))
    (first
      | (go_at_call 29; refine (cmpU_any _ _ _).mono ?_; rintro r w5 ⟨rfl, rfl⟩)
      | (go_at_call 28; refine (or_any (cmpU xa ya) (cmpU xs ys) _ _ (by simp) (by simp)).mono ?_; rintro r w6 ⟨rfl, rfl⟩; rw [← HI.out]))
  rename_i hHeld
  have HF := Lib.hid (below_on HB1.out (lim4 hHeld))
  clear hHeld
  go_wp2
  go_ret
  exact ⟨rfl, HF.out⟩
theorem lim7 {p q r s t u v x : Prop} (h : p ∧ q ∧ r ∧ s ∧ t ∧ u ∧ v ∧ x) : x := h.2.2.2.2.2.2.2
set_option maxRecDepth 100000 in
set_option maxHeartbeats 1000000 in
theorem earlier_any (w : World) (p : Nat) (v : Value) (l : List It) (nx i j : Nat) (h : HeapAt w p v l nx) (hi : i < l.length) (hj : j < l.length) (hl : l.length ≤ 1000000) :
    Calls Try.prog 23 #[.pointer (some ⟨p, 0, none⟩), .int .i64 (i : Int), .int .i64 (j : Int)] w fun r w' => r = .returned (.bool (ltI (gI l i) (gI l j))) ∧ Below w.heap.size w w' := by
  obtain ⟨h1, h2, h3⟩ := h
  obtain ⟨g, cap, rfl, hcap⟩ := h2.form (by omega)
  obtain ⟨c0, -⟩ := h1 0 _ rfl
  obtain ⟨c1, c2, c3⟩ := h2.cell i hi
  obtain ⟨c4, c5, c6⟩ := h2.cell j hj
  obtain ⟨n, hn⟩ : ∃ n, n = l.length := ⟨_, rfl⟩
  rw [← hn] at c0 hi hj hl
  have hin : (i : Int) < (n : Int) := by omega
  have hjn : (j : Int) < (n : Int) := by omega
  have hcmp := fun W => compare_any (gI l i) (gI l j) W
  have hlt := cmpI_lt (gI l i) (gI l j)
  generalize gI l i = x at *
  generalize gI l j = y at *
  obtain ⟨xa, xs, xi⟩ := x
  obtain ⟨ya, ys, yi⟩ := y
  simp only at c1 c2 c3 c4 c5 c6
  unfold itv at hcmp
  simp only at hcmp
  obtain ⟨c, hc⟩ : ∃ c, c = cmpI ⟨xa, xs, xi⟩ ⟨ya, ys, yi⟩ := ⟨_, rfl⟩
  obtain ⟨d, hd⟩ : ∃ d, d = ltI ⟨xa, xs, xi⟩ ⟨ya, ys, yi⟩ := ⟨_, rfl⟩
  rw [← hc] at hcmp
  rw [← hc, ← hd] at hlt
  rw [← hd]
  have hk : ∀ w', Below w.heap.size w w' → w'.cell? ⟨p, 0, none⟩ = some (.slice (some ⟨g, 0, none⟩) n cap) ∧ w'.cell? ⟨g, i * 3, none⟩ = some (.int .u64 xa) ∧ w'.cell? ⟨g, i * 3 + 1, none⟩ = some (.int .u64 xs) ∧ w'.cell? ⟨g, i * 3 + 2, none⟩ = some (.int .i64 xi) ∧ w'.cell? ⟨g, j * 3, none⟩ = some (.int .u64 ya) ∧ w'.cell? ⟨g, j * 3 + 1, none⟩ = some (.int .u64 ys) ∧ w'.cell? ⟨g, j * 3 + 2, none⟩ = some (.int .i64 yi) ∧ Below w.heap.size w w' :=
    fun w' hb => ⟨cell_below c0 hb, cell_below c1 hb, cell_below c2 hb, cell_below c3 hb, cell_below c4 hb, cell_below c5 hb, cell_below c6 hb, hb⟩
  have HK := Lib.hid hk
  have HC := Lib.hid hcmp
  have hlt' : decide (c < 0) = d := by cases d <;> simp_all
  have HLT := Lib.hid hlt'
  clear hk hcmp hlt hlt' c0 c1 c2 c3 c4 c5 c6 h1 h2 h3 hc hd hn
  go_enter Try.func23, Try.ntmps23
  go_wp2_with fail
  go_region_held3 (fun w' => w'.cell? ⟨p, 0, none⟩ = some (.slice (some ⟨g, 0, none⟩) n cap) ∧ w'.cell? ⟨g, i * 3, none⟩ = some (.int .u64 xa) ∧ w'.cell? ⟨g, i * 3 + 1, none⟩ = some (.int .u64 xs) ∧ w'.cell? ⟨g, i * 3 + 2, none⟩ = some (.int .i64 xi) ∧ w'.cell? ⟨g, j * 3, none⟩ = some (.int .u64 ya) ∧ w'.cell? ⟨g, j * 3 + 1, none⟩ = some (.int .u64 ys) ∧ w'.cell? ⟨g, j * 3 + 2, none⟩ = some (.int .i64 yi) ∧ Below w.heap.size w w')
    ((refine HK.out _ ?_; repeat (first | exact Below.refl _ _ | exact lim7 (by assumption) | refine below_on ?_ hb5 | refine Below.drew ?_ | refine below_drewN ?_ _)))
    (first
      | (go_at_call 22; refine (HC.out _).mono ?_; rintro r w5 ⟨rfl, hb5⟩))
  rename_i hHeld
  have HF := Lib.hid (lim7 hHeld)
  clear hHeld hb5
  go_wp2
  go_ret
  exact ⟨ret_bool HLT.out, HF.out⟩
theorem HeapAt.swap {w : World} {p g n cap : Nat} {l : List It} {nx : Nat} (h : HeapAt w p (.slice (some ⟨g, 0, none⟩) n cap) l nx) (hn : n = l.length) (i j : Nat) (hi : i < l.length) (hj : j < l.length) {xa xs xi ya ys yi : Int}
    (hx : gI l i = ⟨xa, xs, xi⟩) (hy : gI l j = ⟨ya, ys, yi⟩) :
    HeapAt ((((((w.setCell ⟨g, i * 3, none⟩ (.int .u64 ya)).setCell ⟨g, i * 3 + 1, none⟩ (.int .u64 ys)).setCell ⟨g, i * 3 + 2, none⟩ (.int .i64 yi)).setCell ⟨g, j * 3, none⟩ (.int .u64 xa)).setCell ⟨g, j * 3 + 1, none⟩ (.int .u64 xs)).setCell ⟨g, j * 3 + 2, none⟩ (.int .i64 xi)).drew p (.slice (some ⟨g, 0, none⟩) n cap) (swI l i j) nx ∧
    Chg (p :: (Value.slice (some ⟨g, 0, none⟩) n cap).ownBlock.toList) w ((((((w.setCell ⟨g, i * 3, none⟩ (.int .u64 ya)).setCell ⟨g, i * 3 + 1, none⟩ (.int .u64 ys)).setCell ⟨g, i * 3 + 2, none⟩ (.int .i64 yi)).setCell ⟨g, j * 3, none⟩ (.int .u64 xa)).setCell ⟨g, j * 3 + 1, none⟩ (.int .u64 xs)).setCell ⟨g, j * 3 + 2, none⟩ (.int .i64 xi)).drew := by
  obtain ⟨h1, h2, h3⟩ := h
  have hgp : p ≠ g := (h3 g (by simp [Value.ownBlock])).symm
  have k1 := h2.set i hi hn (gI l j)
  have k2 := k1.set j (by simpa using hj) (by simpa using hn) (gI l i)
  have k3 := k2.below (below_drew1 _)
  rw [hx, hy] at k3
  refine ⟨⟨((((((h1.setFar hgp).setFar hgp).setFar hgp).setFar hgp).setFar hgp).setFar hgp).below (below_drew1 _), ?_, h3⟩, ?_⟩
  · unfold swI; rw [hx, hy]; exact k3
  · exact (((((((Chg.refl _ _).setCell _ (.inl (by simp [Value.ownBlock]))).setCell _ (.inl (by simp [Value.ownBlock]))).setCell _ (.inl (by simp [Value.ownBlock]))).setCell _ (.inl (by simp [Value.ownBlock]))).setCell _ (.inl (by simp [Value.ownBlock]))).setCell _ (.inl (by simp [Value.ownBlock]))).drew
set_option maxRecDepth 100000 in
set_option maxHeartbeats 4000000 in
theorem swap_any (w : World) (p : Nat) (v : Value) (l : List It) (nx i j : Nat) (h : HeapAt w p v l nx) (hi : i < l.length) (hj : j < l.length) (hl : l.length ≤ 1000000) :
    Calls Try.prog 24 #[.pointer (some ⟨p, 0, none⟩), .int .i64 (i : Int), .int .i64 (j : Int)] w fun r w' => r = .returned (.tuple #[]) ∧ HeapAt w' p v (swI l i j) nx ∧ Chg (p :: v.ownBlock.toList) w w' := by
  obtain ⟨h1, h2, h3⟩ := h
  obtain ⟨g, cap, rfl, hcap⟩ := h2.form (by omega)
  have hgp : g ≠ p := h3 g (by simp [Value.ownBlock])
  obtain ⟨c0, -⟩ := h1 0 _ rfl
  obtain ⟨c1, c2, c3⟩ := h2.cell i hi
  obtain ⟨c4, c5, c6⟩ := h2.cell j hj
  have f1 := h2.free (i * 3)
  have f2 := h2.free (i * 3 + 1)
  have f3 := h2.free (i * 3 + 2)
  have f4 := h2.free (j * 3)
  have f5 := h2.free (j * 3 + 1)
  have f6 := h2.free (j * 3 + 2)
  obtain ⟨n, hn⟩ : ∃ n, n = l.length := ⟨_, rfl⟩
  have hsw := fun xa xs xi ya ys yi hx hy => HeapAt.swap (w := w) (nx := nx) ⟨h1, h2, h3⟩ rfl i j hi hj (xa := xa) (xs := xs) (xi := xi) (ya := ya) (ys := ys) (yi := yi) hx hy
  have HSW := Lib.hid hsw
  rw [← hn] at c0
  have hin : (i : Int) < (n : Int) := by omega
  have hjn : (j : Int) < (n : Int) := by omega
  have hn6 : n ≤ 1000000 := by omega
  have HL : Hid (i < l.length ∧ j < l.length ∧ n = l.length) := Lib.hid ⟨hi, hj, hn⟩
  have HX := Lib.hid (show gI l i = ⟨(gI l i).at_, (gI l i).seq, (gI l i).id⟩ from rfl)
  have HY := Lib.hid (show gI l j = ⟨(gI l j).at_, (gI l j).seq, (gI l j).id⟩ from rfl)
  have hi' : i < n := by omega
  have hj' : j < n := by omega
  rcases Nat.lt_trichotomy i j with hij | rfl | hij
  · clear h1 h2 h3 hi hj hl hn hcap hsw
    generalize (gI l i).at_ = xa at *
    generalize (gI l i).seq = xs at *
    generalize (gI l i).id = xi at *
    generalize (gI l j).at_ = ya at *
    generalize (gI l j).seq = ys at *
    generalize (gI l j).id = yi at *
    have HE := Lib.hid (HSW.out _ _ _ _ _ _ HX.out HY.out)
    clear HSW
    go_enter Try.func24, Try.ntmps24
    go_wp2_with fail
    go_region
    go_wp2
    go_end0
    exact ⟨rfl, HE.out⟩
  · clear h1 h2 h3 hi hj hl hn hcap hsw
    generalize (gI l i).at_ = xa at *
    generalize (gI l i).seq = xs at *
    generalize (gI l i).id = xi at *
    have HE := Lib.hid (HSW.out _ _ _ _ _ _ HX.out HY.out)
    clear HSW
    go_enter Try.func24, Try.ntmps24
    go_wp2_with fail
    go_region
    go_wp2
    go_end0
    exact ⟨rfl, HE.out⟩
  · clear h1 h2 h3 hi hj hl hn hcap hsw
    generalize (gI l i).at_ = xa at *
    generalize (gI l i).seq = xs at *
    generalize (gI l i).id = xi at *
    generalize (gI l j).at_ = ya at *
    generalize (gI l j).seq = ys at *
    generalize (gI l j).id = yi at *
    have HE := Lib.hid (HSW.out _ _ _ _ _ _ HX.out HY.out)
    clear HSW
    go_enter Try.func24, Try.ntmps24
    go_wp2_with fail
    go_region
    go_wp2
    go_end0
    exact ⟨rfl, HE.out⟩
end Go.Proofs.Ytljdckipnbdknaa
