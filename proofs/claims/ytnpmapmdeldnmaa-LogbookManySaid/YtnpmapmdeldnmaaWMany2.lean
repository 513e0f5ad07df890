/-
  The walk of the law LogbookMany.
-/
import Derived.Test.YtnpmapmdeldnmaaWMany1
import Derived.Deep.DeepCutAuto
import Derived.Deep.CutBlock
import Derived.OpenShut
open Go Go.RowKit
set_option linter.unusedVariables false
namespace Go.Proofs.Ytnpmapmdeldnmaa.logbookMany
attribute [local go_sem ↓] Go.wp_at_zero Go.wp_at_succ
/-- What stands between two rounds: the store with its log, the list of all. -/
def St (w0 w : World) (p i : Nat) (l : List Rec) (v : Value) : Prop :=
  ∃ s F bat more, StoreAt w p s F ∧ (∀ x ∈ F, w0.heap.size ≤ x) ∧ Below w0.heap.size w0 w ∧ (s.bs = logL bat ++ more ∧ Junk more ∧ s.armed = false ∧ s.room = 1048576 ∧ s.safe = (logL bat).length ∧ Bat bat) ∧ bat.flatten = l ∧ l.length ≤ 10 * i ∧
    w.ownsRow w0.heap.size 40 2 v l.length (recCells l) ∧ (∀ g, v.ownBlock = some g → g ∉ F)
/-- Blocks that are older, or newer, than some. -/
def Gap (lo hi : Nat) (K : List Nat) : Prop := ∀ x ∈ K, x < lo ∨ hi ≤ x
theorem Gap.grow {lo hi n : Nat} {K K' : List Nat} (h : Gap lo hi K) (hn : ∀ x ∈ K', x ∈ K ∨ n ≤ x) (hh : hi ≤ n) : Gap lo hi K' := fun x hx => by
  rcases hn x hx with h1 | h1
  · exact h x h1
  · exact .inr (Nat.le_trans hh h1)
/-- A row of decisions made between. -/
structure Came (w : World) (lo hi : Nat) (am : Option Addr) (more : List Rec) : Prop where
  at_ : RecsAt w am more
  blk : ∀ g o t, am = some ⟨g, o, t⟩ → lo ≤ g ∧ g < hi
  hi : hi ≤ w.heap.size
theorem Came.chg {w w' : World} {lo hi : Nat} {am : Option Addr} {more : List Rec} {K : List Nat} (h : Came w lo hi am more) (c : Chg K w w') (hK : Gap lo hi K) : Came w' lo hi am more :=
  ⟨h.at_.chg c (fun g o t e hg => by have h1 := h.blk g o t e; rcases hK g hg with h2 | h2 <;> omega), h.blk, Nat.le_trans h.hi c.size⟩
/-- What stands while a round adds. -/
def Mid (w0 w : World) (p pb N : Nat) (l : List Rec) (v : Value) (lo hi : Nat) (am : Option Addr) (more : List Rec) : Prop :=
  ∃ s b bat K, Lg w0 w p pb s b bat K ∧ bat.flatten ++ b.wait = l ∧ l.length ≤ N ∧ w.ownsRow w0.heap.size 40 2 v l.length (recCells l) ∧ (∀ g, v.ownBlock = some g → g ∉ K) ∧ Gap lo hi K ∧ Gap lo hi v.ownBlock.toList ∧ Came w lo hi am more
theorem row_keep {w w' : World} {base n size : Nat} {e : TypeId} {v : Value} {xs : List Value} {K K' : List Nat} (h : w.ownsRow base e size v n xs) (hv : ∀ g, v.ownBlock = some g → g ∉ K) (c : Chg K w w') (hn : ∀ x ∈ K', x ∈ K ∨ w.heap.size ≤ x) :
    w'.ownsRow base e size v n xs ∧ ∀ g, v.ownBlock = some g → g ∉ K' :=
  ⟨owns_chg h c hv, fun g hg hK => by
    rcases hn g hK with h1 | h1
    · exact hv g hg h1
    · have := owns_lt h g hg; omega⟩
theorem Lg.chg {w0 w w' : World} {p pb : Nat} {s : SSt} {b : BSt} {bat : List (List Rec)} {K O : List Nat} (h : Lg w0 w p pb s b bat K) (c : Chg O w w') (hd : ∀ x ∈ O, x ∉ K) (ho : ∀ x ∈ O, w0.heap.size ≤ x) : Lg w0 w' p pb s b bat K := by
  obtain ⟨⟨F, G, h1, h2, h3, h4, h5, h6, h7⟩, g2, g3, g4⟩ := h
  refine ⟨⟨F, G, h1.chg c (fun x hx hO => hd x hO (by rw [h7]; simp [hx])), h2.chg c (fun x hx hO => hd x hO (by rw [h7]; simp [hx])), h3, h4, h5, Chg.below h6 c ho, h7⟩, g2, g3, g4⟩
theorem St.step {w0 w w' : World} {p i : Nat} {l : List Rec} {v : Value} (h : St w0 w p i l v) (hb : Below w.heap.size w w') : St w0 w' p i l v := by
  obtain ⟨s, F, bat, more, h1, h2, h3, h4, h5, h6, h7, h8⟩ := h
  exact ⟨s, F, bat, more, h1.chg (Chg.of_below (F := []) hb) (fun _ _ => by simp), h2, below_on h3 hb, h4, h5, h6, owns_below h7 hb, h8⟩
theorem St.bel {w0 w : World} {p i : Nat} {l : List Rec} {v : Value} (h : St w0 w p i l v) : Below w0.heap.size w0 w := by
  obtain ⟨s, F, bat, more, h1, h2, h3, h4, h5, h6, h7, h8⟩ := h; exact h3
theorem Mid.bel {w0 w : World} {p pb N lo hi : Nat} {l more : List Rec} {v : Value} {am : Option Addr} (h : Mid w0 w p pb N l v lo hi am more) : Below w0.heap.size w0 w := by
  obtain ⟨s, b, bat, K, h1, h2⟩ := h; exact h1.log.log.bel
theorem Mid.came {w0 w : World} {p pb N lo hi : Nat} {l more : List Rec} {v : Value} {am : Option Addr} (h : Mid w0 w p pb N l v lo hi am more) : Came w lo hi am more := by
  obtain ⟨s, b, bat, K, h1, h2, h3, h4, h5, h6, h7, h8⟩ := h; exact h8
theorem Mid.step {w0 w w' : World} {p pb N lo hi : Nat} {l more : List Rec} {v : Value} {am : Option Addr} (h : Mid w0 w p pb N l v lo hi am more) (hb : Below w.heap.size w w') : Mid w0 w' p pb N l v lo hi am more := by
  obtain ⟨s, b, bat, K, h1, h2, h3, h4, h5, h6, h7, h8⟩ := h
  exact ⟨s, b, bat, K, h1.step hb, h2, h3, owns_below h4 hb, h5, h6, h7, h8.chg (Chg.of_below (F := []) hb) (fun x hx => by simp at hx)⟩
theorem St.few {w0 w : World} {p i : Nat} {l : List Rec} {v : Value} (h : St w0 w p i l v) : l.length ≤ 10 * i := by
  obtain ⟨s, F, bat, more, h1, h2, h3, h4, h5, h6, h7, h8⟩ := h; exact h6
/-- Open. -/
theorem st_open {w0 w : World} {p i : Nat} {l : List Rec} {v : Value} (h : St w0 w p i l v) (hi : i ≤ 5) (z : Int) (hz1 : -9223372036854775808 ≤ z) (hz2 : z ≤ 9223372036854775807) :
    Calls Try.prog 6 #[.pointer (some ⟨p, 0, none⟩), .int .i64 z] w fun e w' => ∃ pb a cap, e = .returned (.tuple #[.pointer (some ⟨pb, 0, none⟩), .slice a l.length cap, .int .i64 0]) ∧ RecsAt w' a l ∧
      ∃ s b bat K, Lg w0 w' p pb s b bat K ∧ bat.flatten = l ∧ b.wait = [] ∧ l.length ≤ 10 * i ∧ w'.ownsRow w0.heap.size 40 2 v l.length (recCells l) ∧ (∀ g, v.ownBlock = some g → g ∉ K) := by
  obtain ⟨s, F, bat, more, h1, h2, h3, ⟨k1, k2, k3, k4, k5, k6⟩, h5, h6, h7, h8⟩ := h
  have hcnt := k6.count
  rw [h5] at hcnt
  have hlen := congrArg List.length k1
  rw [List.length_append] at hlen
  have hbl := k6.len
  have hjl := k2.len
  obtain ⟨e1, e2, e3, e4⟩ := read_junk s.bs bat more k1 k6 (by omega) k2
  obtain ⟨o1, o2, o3⟩ := opened_log k1 k6 (by omega) k2 k3 k4 k5 z
  refine (lopen_anyF h1 h2 h3 z hz1 hz2 k3 (by omega)).mono ?_
  rw [e2, h5]
  rintro e w' ⟨pb, a, cap, K, rfl, hc1, hc2, hat, hlog, hchg, hK⟩
  obtain ⟨r1, r2⟩ := row_keep h7 h8 hchg hK
  exact ⟨pb, a, cap, rfl, hat, s.opened, openedB s.bs z, bat, K, ⟨hlog, o1, by rw [o2, h5, List.length_nil]; omega, by rw [o2]; simp⟩, h5, o2, h6, r1, r2⟩
theorem info_rref : (Try.prog.info? 40).map (fun i => (i.zero, i.size, i.bytes)) = some (some (.agg #[.int .i64 0, .int .u64 0]), 2, 16) := by kernel_rfl
/-- Add. -/
def Added (w0 w : World) (p pb N : Nat) (l : List Rec) (r : Rec) (v : Value) (lo hi : Nat) (am : Option Addr) (more : List Rec) : Prop :=
  ∃ s b bat K, Lg w0 w p pb s b bat K ∧ bat.flatten ++ b.wait = l ++ [r] ∧ l.length ≤ N ∧ w.ownsRow w0.heap.size 40 2 v l.length (recCells l) ∧ (∀ g, v.ownBlock = some g → g ∉ K) ∧ Gap lo hi K ∧ Gap lo hi v.ownBlock.toList ∧ Came w lo hi am more
theorem mid_add {w0 w : World} {p pb N lo hi : Nat} {l more : List Rec} {v : Value} {am : Option Addr} (h : Mid w0 w p pb N l v lo hi am more) (hi' : N ≤ 90) (r : Rec) (hr : Rec.ok r) (o : Obj) :
    Calls Try.prog 11 #[.pointer (some ⟨pb, 0, none⟩), .agg #[.int .i64 r.1, .int .u64 (r.2 : Int)]] (w.alloc o) fun e w' => e = .returned (.int .i64 0) ∧ Added w0 w' p pb N l r v lo hi am more ∧ ∃ K, Chg K (w.alloc o) w' ∧ ∀ x ∈ K, x < w.heap.size := by
  have hlt : ∃ s b bat K, Lg w0 w p pb s b bat K ∧ (∀ x ∈ K, x < w.heap.size) ∧ bat.flatten ++ b.wait = l ∧ l.length ≤ N ∧ w.ownsRow w0.heap.size 40 2 v l.length (recCells l) ∧ (∀ g, v.ownBlock = some g → g ∉ K) ∧ Gap lo hi K ∧ Gap lo hi v.ownBlock.toList ∧ Came w lo hi am more := by
    obtain ⟨s, b, bat, K, h1, h2⟩ := h
    exact ⟨s, b, bat, K, h1, h1.log.lt, h2⟩
  obtain ⟨s, b, bat, K, h1, hl0, h2, h3, h4, h5, h6, h7, h8⟩ := hlt
  have hb := below_alloc1 w o
  have hl := congrArg List.length h2
  rw [List.length_append] at hl
  refine (lg_add (h1.step hb) r hr (by omega) (by omega)).mono ?_
  rintro e w' ⟨rfl, K', k1, k2, k3⟩
  obtain ⟨r1, r2⟩ := row_keep (owns_below h4 hb) h5 k2 k3
  have h8' := h8.chg (Chg.of_below (F := []) hb) (fun x hx => by simp at hx)
  exact ⟨rfl, ⟨s.after b r, b.after r, batAfter b bat r, K', k1, by rw [after_flat, h2], h3, r1, r2, h6.grow k3 h8'.hi, h7, h8'.chg k2 h6⟩, K, k2, hl0⟩
theorem Added.bel {w0 w : World} {p pb N lo hi : Nat} {l more : List Rec} {r : Rec} {v : Value} {am : Option Addr} (h : Added w0 w p pb N l r v lo hi am more) : Below w0.heap.size w0 w := by
  obtain ⟨s, b, bat, K, h1, h2⟩ := h; exact h1.log.log.bel
theorem Added.step {w0 w w' : World} {p pb N lo hi : Nat} {l more : List Rec} {r : Rec} {v : Value} {am : Option Addr} (h : Added w0 w p pb N l r v lo hi am more) (hb : Below w.heap.size w w') : Added w0 w' p pb N l r v lo hi am more := by
  obtain ⟨s, b, bat, K, h1, h2, h3, h4, h5, h6, h7, h8⟩ := h
  exact ⟨s, b, bat, K, h1.step hb, h2, h3, owns_below h4 hb, h5, h6, h7, h8.chg (Chg.of_below (F := []) hb) (fun x hx => by simp at hx)⟩
theorem Added.own {w0 w : World} {p pb N lo hi : Nat} {l more : List Rec} {r : Rec} {v : Value} {am : Option Addr} (h : Added w0 w p pb N l r v lo hi am more) : w.ownsRow w0.heap.size 40 2 v l.length (recCells l) ∧ l.length ≤ N := by
  obtain ⟨s, b, bat, K, h1, h2, h3, h4, h5⟩ := h; exact ⟨h4, h3⟩
/-- .. and the list of all is longer. -/
theorem Added.app {w0 w w' : World} {p pb N g cp H lo hi : Nat} {l more : List Rec} {r : Rec} {v : Value} {am : Option Addr} (h : Added w0 w p pb N l r v lo hi am more)
    (hown : w'.ownsRow w0.heap.size 40 2 (.slice (some ⟨g, 0, none⟩) (l.length + 1) cp) (l.length + 1) (recCells l ++ [.int .i64 r.1, .int .u64 (r.2 : Int)])) (hgrow : w.grownBy w' v.ownBlock) (hg : v.ownBlock = some g ∨ g = H) (hH : w.heap.size ≤ H) :
    Mid w0 w' p pb (N + 1) (l ++ [r]) (.slice (some ⟨g, 0, none⟩) (l.length + 1) cp) lo hi am more := by
  obtain ⟨s, b, bat, K, h1, h2, h3, h4, h5, h6, h7, h8⟩ := h
  have c := grownBy_chg hgrow
  have hlt := h1.log.lt
  refine ⟨s, b, bat, K, Lg.chg h1 c (fun x hx hK => ?_) (fun x hx => ?_), h2, by rw [List.length_append, List.length_singleton]; omega, by rw [List.length_append, List.length_singleton, recCells_app]; exact hown, fun g' hg' hK => ?_, h6, fun x hx => ?_, h8.chg c h7⟩
  · simp at hx; exact h5 x hx hK
  · simp at hx; exact (h4.lt x hx).1
  · simp [Value.ownBlock] at hg'; subst hg'
    rcases hg with h | h
    · exact h5 _ h hK
    · have := hlt _ hK; omega
  · simp [Value.ownBlock] at hx; subst hx
    rcases hg with h | h
    · exact h7 _ (by simp [h])
    · right; have := h8.hi; omega
/-- Flush. -/
def Fl (w0 w : World) (p pb N : Nat) (l : List Rec) (v : Value) : Prop :=
  ∃ s b bat K, Lg w0 w p pb s b bat K ∧ bat.flatten = l ∧ b.wait = [] ∧ l.length ≤ N ∧ w.ownsRow w0.heap.size 40 2 v l.length (recCells l) ∧ (∀ g, v.ownBlock = some g → g ∉ K)
theorem mid_flush {w0 w : World} {p pb N lo hi : Nat} {l more : List Rec} {v : Value} {am : Option Addr} (h : Mid w0 w p pb N l v lo hi am more) :
    Calls Try.prog 12 #[.pointer (some ⟨pb, 0, none⟩)] w fun e w' => e = .returned (.int .i64 0) ∧ Fl w0 w' p pb N l v := by
  obtain ⟨s, b, bat, K, h1, h2, h3, h4, h5, -⟩ := h
  refine (lg_flush h1).mono ?_
  rintro e w' ⟨rfl, K', k1, k2, k3⟩
  obtain ⟨r1, r2⟩ := row_keep h4 h5 k2 k3
  exact ⟨rfl, s.flushed b, b.flushed, batFlush b bat, K', k1, by rw [batFlush_flat, h2], flushed_wait b, h3, r1, r2⟩
theorem Fl.bel {w0 w : World} {p pb N : Nat} {l : List Rec} {v : Value} (h : Fl w0 w p pb N l v) : Below w0.heap.size w0 w := by
  obtain ⟨s, b, bat, K, h1, h2, h3, h4, h5, h6⟩ := h; exact h1.log.log.bel
theorem Fl.step {w0 w w' : World} {p pb N : Nat} {l : List Rec} {v : Value} (h : Fl w0 w p pb N l v) (hb : Below w.heap.size w w') : Fl w0 w' p pb N l v := by
  obtain ⟨s, b, bat, K, h1, h2, h3, h4, h5, h6⟩ := h
  exact ⟨s, b, bat, K, h1.step hb, h2, h3, h4, owns_below h5 hb, h6⟩
theorem Fl.own {w0 w : World} {p pb N : Nat} {l : List Rec} {v : Value} (h : Fl w0 w p pb N l v) : w.ownsRow w0.heap.size 40 2 v l.length (recCells l) := by
  obtain ⟨s, b, bat, K, h1, h2, h3, h4, h5, h6⟩ := h; exact h5
theorem Fl.mid {w0 w w' : World} {p pb N : Nat} {l more : List Rec} {v : Value} {am : Option Addr} (h : Fl w0 w p pb N l v) (hb : Below w.heap.size w w') (ha : RecsAt w' am more) (hg : ∀ g o t, am = some ⟨g, o, t⟩ → w.heap.size ≤ g ∧ g < w'.heap.size) :
    Mid w0 w' p pb N l v w.heap.size w'.heap.size am more := by
  obtain ⟨s, b, bat, K, h1, h2, h3, h4, h5, h6⟩ := h
  exact ⟨s, b, bat, K, h1.step hb, by rw [h3, List.append_nil]; exact h2, h4, owns_below h5 hb, h6, fun x hx => .inl (h1.log.lt x hx), fun x hx => .inl (by simp at hx; exact (h5.lt x hx).2), ⟨ha, hg, Nat.le_refl _⟩⟩
theorem fl_sure {w0 w : World} {p pb N : Nat} {l : List Rec} {v : Value} (h : Fl w0 w p pb N l v) :
    Calls Try.prog 8 #[.pointer (some ⟨pb, 0, none⟩)] w fun e w' => e = .returned (.int .i64 (l.length : Int)) ∧ w = w' := by
  obtain ⟨s, b, bat, K, h1, h2, h3, h4, h5, h6⟩ := h
  have := lsure_any h1.log.log
  rw [h1.of.sure, h2] at this; exact this
theorem fl_wait {w0 w : World} {p pb N : Nat} {l : List Rec} {v : Value} (h : Fl w0 w p pb N l v) :
    Calls Try.prog 9 #[.pointer (some ⟨pb, 0, none⟩)] w fun e w' => e = .returned (.int .i64 0) ∧ w = w' := by
  obtain ⟨s, b, bat, K, h1, h2, h3, h4, h5, h6⟩ := h
  have := lwait_any h1.log.log
  rw [h3] at this; exact this
theorem fl_append {w0 w : World} {p pb N : Nat} {l : List Rec} {v : Value} (h : Fl w0 w p pb N l v) (i : Nat) (hi : N ≤ 10 * i) (hi2 : i ≤ 5) (t : ByteArray) (u : List UInt8) (ht : t.data.toList = 63 :: u) (hu : u.length ≤ 10) :
    Calls Try.prog 13 #[.pointer (some ⟨p, 0, none⟩), .string t] w fun e w' => e = .returned (.int .i64 0) ∧ St w0 w' p i l v := by
  obtain ⟨s, b, bat, K, h1, h2, h3, h4, h5, h6⟩ := h
  obtain ⟨F, G, k1, k2, k3, k4, k5, k6, k7⟩ := h1.log
  have hroom := h1.of.room2 (by rw [h2]; omega)
  have hts : t.size = u.length + 1 := by rw [size_list, ht]; rfl
  have hr := h1.of.room
  obtain ⟨f1, f2⟩ := free_append s t.data.toList h1.of.armed (by rw [← size_list]; omega)
  refine (sapp_any p s F t w k1 (by omega)).mono ?_
  rw [f1, f2]
  rintro e w' ⟨rfl, c, F', j1, j2⟩
  have hvF : ∀ g, v.ownBlock = some g → g ∉ F := fun g hg hF => h6 g hg (by rw [k7]; simp [hF])
  obtain ⟨r1, r2⟩ := row_keep h5 hvF c j2
  refine ⟨rfl, _, F', bat, 63 :: u, j1, fun x hx => ?_, Chg.below k6 c k4, ⟨by rw [ht]; show s.bs ++ _ = _; rw [h1.of.bs], .inr ⟨u, rfl, hu⟩, h1.of.armed, h1.of.room, by show s.safe = _; rw [h1.of.safe, h1.of.bs], h1.of.bat⟩, h2, by omega, r1, r2⟩
  rcases j2 x hx with h | h
  · exact k4 x h
  · exact Nat.le_trans k6.size h
/-- What is read in the end. -/
theorem st_read {w0 w : World} {p i : Nat} {l : List Rec} {v : Value} (h : St w0 w p i l v) (hi : i ≤ 5) :
    ∃ T : ByteArray, (Calls Try.prog 16 #[.pointer (some ⟨p, 0, none⟩)] w fun e w' => e = .returned (.string T) ∧ w = w') ∧ T.size ≤ 1048576 ∧ recsOf (readR T) = l ∧ lastEnd (readR T) ≤ T.size ∧
      ∀ w', Below w.heap.size w w' → Calls Try.prog 17 #[.pointer (some ⟨p, 0, none⟩)] w' fun e w'' => e = .returned (.int .i64 (T.size : Int)) ∧ w' = w'' := by
  obtain ⟨s, F, bat, more, h1, h2, h3, ⟨k1, k2, k3, k4, k5, k6⟩, h5, h6, h7, h8⟩ := h
  have hcnt := k6.count
  rw [h5] at hcnt
  have hlen := congrArg List.length k1
  rw [List.length_append] at hlen
  have hbl := k6.len
  have hjl := k2.len
  obtain ⟨e1, e2, e3, e4⟩ := read_junk s.bs bat more k1 k6 (by omega) k2
  have hsz : (ByteArray.mk s.bs.toArray).size = s.bs.length := by rw [size_list]
  refine ⟨⟨s.bs.toArray⟩, sbytes_any p s F w h1, by rw [hsz]; omega, by rw [e2, h5], by rw [e3, hsz]; omega, fun w' hb => ?_⟩
  rw [hsz]
  exact slen_any p s F w' (h1.chg (Chg.of_below (F := []) hb) (fun _ _ => by simp))
theorem St.own {w0 w : World} {p i : Nat} {l : List Rec} {v : Value} (h : St w0 w p i l v) : w.ownsRow w0.heap.size 40 2 v l.length (recCells l) := by
  obtain ⟨s, F, bat, more, h1, h2, h3, h4, h5, h6, h7, h8⟩ := h; exact h7
theorem st_open2 {w0 w : World} {p i : Nat} {l : List Rec} {v : Value} (h : St w0 w p i l v) (hi : i ≤ 5) (z : Int) (hz1 : -9223372036854775808 ≤ z) (hz2 : z ≤ 9223372036854775807) :
    Calls Try.prog 6 #[.pointer (some ⟨p, 0, none⟩), .int .i64 z] w fun e w' => ∃ pb a cap, e = .returned (.tuple #[.pointer (some ⟨pb, 0, none⟩), .slice a l.length cap, .int .i64 0]) ∧ RecsAt w' a l ∧ Fl w0 w' p pb (10 * i) l v :=
  (st_open h hi z hz1 hz2).mono fun e w' ⟨pb, a, cap, h1, h2, h3⟩ => ⟨pb, a, cap, h1, h2, h3⟩
end Go.Proofs.Ytnpmapmdeldnmaa.logbookMany
