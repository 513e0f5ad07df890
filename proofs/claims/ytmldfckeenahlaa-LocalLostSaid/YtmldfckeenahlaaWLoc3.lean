/-
  A queue, the global row and a row of one's own, as the laws see them; the laws' awake.
-/
import Derived.Test.YtmldfckeenahlaaWLoc2
open Go Go.RowKit
set_option linter.unusedVariables false
namespace Go.Proofs.Ytmldfckeenahlaa
set_option maxRecDepth 100000 in
set_option maxHeartbeats 1000000 in
theorem glen_any (w : World) (b : Nat) (gl : List Int) (F : List Nat) (h : GloAt w b gl F) :
    Calls Try.prog 15 #[.pointer (some ⟨b, 0, none⟩)] w fun r w' => r = .returned (.int .i64 (gl.length : Int)) ∧ w' = w := by
  obtain ⟨a0, cap, rfl, h2, h3, h4⟩ := h
  obtain ⟨g0, f0⟩ := h3 0 _ rfl
  clear h2 h3 h4
  go_enter Try.func15, Try.ntmps15
  go_wp2
  go_ret
  exact ⟨rfl, rfl⟩
/-- All of it made behind w0. -/
def QS (w0 w : World) (p g N b : Nat) (q : LQ) (gl : List Int) (a : Option Addr) (cap : Nat) (wl : List Int) : Prop :=
  ∃ F, LocAt w p g N q ∧ GloAt w b gl F ∧ RowAt w a cap wl ∧ p ∉ F ∧ g ∉ F ∧ (∀ x ∈ blk a, x ≠ p ∧ x ≠ g ∧ x ∉ F) ∧ (w0.heap.size ≤ p ∧ w0.heap.size ≤ g ∧ (∀ x ∈ F, w0.heap.size ≤ x) ∧ ∀ x ∈ blk a, w0.heap.size ≤ x) ∧ Below w0.heap.size w0 w
theorem QS.bel {w0 w : World} {p g N b cap : Nat} {q : LQ} {gl wl : List Int} {a : Option Addr} (h : QS w0 w p g N b q gl a cap wl) : Below w0.heap.size w0 w := by obtain ⟨F, h1, h2, h3, h4, h5, h6, h7, h8⟩ := h; exact h8
theorem QS.step {w0 w w' : World} {p g N b cap : Nat} {q : LQ} {gl wl : List Int} {a : Option Addr} (h : QS w0 w p g N b q gl a cap wl) (hb : Below w.heap.size w w') : QS w0 w' p g N b q gl a cap wl := by
  obtain ⟨F, h1, h2, h3, h4, h5, h6, h7, h8⟩ := h
  exact ⟨F, h1.below hb, h2.below hb, h3.below hb, h4, h5, h6, h7, below_on h8 hb⟩
theorem QS.row {w0 w : World} {p g N b cap : Nat} {q : LQ} {gl wl : List Int} {a : Option Addr} (h : QS w0 w p g N b q gl a cap wl) : RowAt w a cap wl := by obtain ⟨F, h1, h2, h3, h4, h5, h6, h7, h8⟩ := h; exact h3
theorem QS.loc {w0 w : World} {p g N b cap : Nat} {q q' : LQ} {gl gl' wl : List Int} {a : Option Addr} (h : QS w0 w p g N b q gl a cap wl) {R : Ending → Prop} {f : FuncId} {args : Array Value}
    (hx : ∀ F, LocAt w p g N q → GloAt w b gl F → p ∉ F → g ∉ F → Calls Try.prog f args w fun r w' => R r ∧ LocAt w' p g N q' ∧ Chg (p :: g :: F) w w' ∧ ∃ F', GloAt w' b gl' F' ∧ ∀ x ∈ F', x ∈ F ∨ w.heap.size ≤ x) :
    Calls Try.prog f args w fun r w' => R r ∧ QS w0 w' p g N b q' gl' a cap wl := by
  obtain ⟨F, h1, h2, h3, h4, h5, h6, ⟨h7, h8, h9, h10⟩, h11⟩ := h
  refine (hx F h1 h2 h4 h5).mono ?_
  rintro r w' ⟨hr, k1, k2, F', k3, k4⟩
  have hl := h1.lt
  have hs := h11.size
  refine ⟨hr, F', k1, k3, h3.chg k2 (fun x hx => by obtain ⟨e1, e2, e3⟩ := h6 x hx; simp [e1, e2, e3]), fun hc => ?_, fun hc => ?_, fun x hx => ?_, ⟨h7, h8, fun x hx => ?_, h10⟩, ?_⟩
  · rcases k4 p hc with h | h
    · exact h4 h
    · omega
  · rcases k4 g hc with h | h
    · exact h5 h
    · omega
  · obtain ⟨e1, e2, e3⟩ := h6 x hx
    refine ⟨e1, e2, fun hc => ?_⟩
    rcases k4 x hc with h | h
    · exact e3 h
    · have := h3.lt x hx; omega
  · rcases k4 x hx with h | h
    · exact h9 x h
    · omega
  · exact Chg.below h11 k2 (fun x hx => by simp at hx; rcases hx with rfl | rfl | hx; exact h7; exact h8; exact h9 x hx)
theorem QS.app {w0 w w' : World} {p g N b cap cap' : Nat} {q : LQ} {gl wl wl' : List Int} {a a' : Option Addr} (h : QS w0 w p g N b q gl a cap wl)
    (hr : RowAt w' a' cap' wl') (c : Chg (blk a) w w') (hf : ∀ x ∈ blk a', x ∈ blk a ∨ w.heap.size ≤ x) : QS w0 w' p g N b q gl a' cap' wl' := by
  obtain ⟨F, h1, h2, h3, h4, h5, h6, ⟨h7, h8, h9, h10⟩, h11⟩ := h
  have hl := h1.lt
  have hs := h11.size
  refine ⟨F, h1.chg c (fun hc => (h6 p hc).1 rfl) (fun hc => (h6 g hc).2.1 rfl), h2.chg c (fun x hx hc => (h6 x hc).2.2 hx), hr, h4, h5, fun x hx => ?_, ⟨h7, h8, h9, fun x hx => ?_⟩, Chg.below h11 c h10⟩
  · rcases hf x hx with h | h
    · exact h6 x h
    · exact ⟨by omega, by omega, fun hc => by have := h2.lt x hc; omega⟩
  · rcases hf x hx with h | h
    · exact h10 x h
    · omega
/-- .. of the row one knows no more. -/
theorem QS.drop {w0 w : World} {p g N b cap : Nat} {q : LQ} {gl wl : List Int} {a : Option Addr} (h : QS w0 w p g N b q gl a cap wl) : QS w0 w p g N b q gl none 0 [] := by
  obtain ⟨F, h1, h2, h3, h4, h5, h6, ⟨h7, h8, h9, h10⟩, h11⟩ := h
  exact ⟨F, h1, h2, RowAt.nil _, h4, h5, fun x hx => by simp [blk] at hx, ⟨h7, h8, h9, fun x hx => by simp [blk] at hx⟩, h11⟩
theorem qs_put {w0 w : World} {p g N b cap : Nat} {q : LQ} {gl wl : List Int} {a : Option Addr} (h : QS w0 w p g N b q gl a cap wl) (v : Int) (hl : gl.length ≤ 1000000) :
    Calls Try.prog 18 #[.pointer (some ⟨p, 0, none⟩), .int .i64 v, .pointer (some ⟨b, 0, none⟩)] w fun r w' => r = .returned (.int .i64 ((mPut N q v gl).2.2 : Int)) ∧ QS w0 w' p g N b (mPut N q v gl).1 (mPut N q v gl).2.1 a cap wl :=
  h.loc (fun F h1 h2 h4 h5 => lput_any w p g N b q gl F v h1 h2 h4 h5 hl)
theorem qs_ready {w0 w : World} {p g N b cap : Nat} {q : LQ} {gl wl : List Int} {a : Option Addr} (h : QS w0 w p g N b q gl a cap wl) (v : Int) (hl : gl.length ≤ 1000000) :
    Calls Try.prog 13 #[.pointer (some ⟨p, 0, none⟩), .int .i64 v, .pointer (some ⟨b, 0, none⟩)] w fun r w' => r = .returned (.int .i64 ((mReady N q v gl).2.2 : Int)) ∧ QS w0 w' p g N b (mReady N q v gl).1 (mReady N q v gl).2.1 a cap wl :=
  h.loc (fun F h1 h2 h4 h5 => lready_any w p g N b q gl F v h1 h2 h4 h5 hl)
theorem qs_get {w0 w : World} {p g N b cap : Nat} {q : LQ} {gl wl : List Int} {a : Option Addr} (h : QS w0 w p g N b q gl a cap wl) :
    Calls Try.prog 14 #[.pointer (some ⟨p, 0, none⟩)] w fun r w' => r = .returned (gotv (mGet q).2) ∧ QS w0 w' p g N b (mGet q).1 gl a cap wl :=
  h.loc (fun F h1 h2 h4 h5 => (lget_any w p g N q h1).mono fun r w' ⟨k1, k2, k3⟩ => ⟨k1, k2, k3.mono (fun x hx => by simp at hx ⊢; omega), F, h2.chg k3 (fun x hx hc => by simp at hc; rcases hc with rfl | rfl; exact h4 hx; exact h5 hx), fun x hx => .inl hx⟩)
theorem qs_glen {w0 w : World} {p g N b cap : Nat} {q : LQ} {gl wl : List Int} {a : Option Addr} (h : QS w0 w p g N b q gl a cap wl) :
    Calls Try.prog 15 #[.pointer (some ⟨b, 0, none⟩)] w fun r w' => r = .returned (.int .i64 (gl.length : Int)) ∧ w' = w := by
  obtain ⟨F, h1, h2, _⟩ := h; exact glen_any w b gl F h2
theorem qs_llen {w0 w : World} {p g N b cap : Nat} {q : LQ} {gl wl : List Int} {a : Option Addr} (h : QS w0 w p g N b q gl a cap wl) :
    Calls Try.prog 31 #[.pointer (some ⟨p, 0, none⟩)] w fun r w' => r = .returned (.int .i64 ((q.l.length : Int) + if q.nx.isSome then 1 else 0)) ∧ w' = w := by
  obtain ⟨F, h1, h2, _⟩ := h; exact llen_any w p g N q h1
theorem QS.new {w0 w : World} (p g N : Nat) (t : TypeId) (h0 : Below w0.heap.size w0 w) (h : LocAt w p g N ⟨none, []⟩) (hp : w0.heap.size ≤ p) (hg : w0.heap.size ≤ g) {b : Nat} (hb : b = w.heap.size) : QS w0 (w.alloc (.cells #[.slice none 0 0] t)) p g N b ⟨none, []⟩ [] none 0 [] := by
  have hl := h.lt
  have hs := h0.size
  exact ⟨[b], h.below (below_alloc1 _ _), GloAt.new w t hb, RowAt.nil _, by simp; omega, by simp; omega, fun x hx => by simp [blk] at hx, ⟨hp, hg, fun x hx => by simp at hx; omega, fun x hx => by simp [blk] at hx⟩, h0.alloc hs _⟩
set_option maxRecDepth 100000 in
set_option maxHeartbeats 1000000 in
theorem awake8_any (w : World) : Calls Try.prog 5 #[] w fun e w' => e = .returned (.bool true) ∧ Below w.heap.size w w' := by
  go_enter Try.func5, Try.ntmps5
  go_wp2_with fail
  refine (lnew_any 4 w).mono ?_
  rintro e w1 ⟨p, g, rfl, h1, h2, h3, h4⟩
  rw [show roomOf 4 = 4 from rfl] at h1
  have H1 := Lib.hid (QS.new (w0 := w) p g 4 43 h4 h1 h2 h3 rfl)
  clear h1 h2 h3 h4
  go_wp2_with fail
  refine (qs_ready H1.out 5 (by decide)).mono ?_
  rintro e w2 ⟨rfl, h2⟩
  have H2 := Lib.hid h2; clear h2 H1
  go_wp2_with fail
  refine (qs_ready H2.out 6 (by decide)).mono ?_
  rintro e w3 ⟨rfl, h3⟩
  have H3 : Hid (QS w w3 p g 4 w1.heap.size ⟨some 6, [5]⟩ [] none 0 []) := Lib.hid h3; clear h3 H2
  go_wp2_with fail
  refine (qs_get H3.out).mono ?_
  rintro e w4 ⟨rfl, h4⟩
  have H4 : Hid (QS w w4 p g 4 w1.heap.size ⟨none, [5]⟩ [] none 0 []) := Lib.hid h4; clear h4 H3
  rw [show gotv (mGet ⟨some 6, [5]⟩).2 = .tuple #[.int .i64 6, .bool true] from rfl]
  go_wp2_with fail
  refine (qs_get H4.out).mono ?_
  rintro e w5 ⟨rfl, h5⟩
  have H5 : Hid (QS w w5 p g 4 w1.heap.size ⟨none, []⟩ [] none 0 []) := Lib.hid h5; clear h5 H4
  rw [show gotv (mGet ⟨none, [5]⟩).2 = .tuple #[.int .i64 5, .bool true] from rfl]
  go_wp2_with fail
  refine (qs_get H5.out).mono ?_
  rintro e w6 ⟨rfl, h6⟩
  have H6 : Hid (QS w w6 p g 4 w1.heap.size ⟨none, []⟩ [] none 0 []) := Lib.hid h6; clear h6 H5
  rw [show gotv (mGet ⟨none, []⟩).2 = .tuple #[.int .i64 (-1), .bool false] from rfl]
  go_wp2_with fail
  refine (qs_glen H6.out).mono ?_
  rintro e w7 ⟨rfl, rfl⟩
  rw [show (([] : List Int).length : Int) = 0 from rfl]
  go_wp2
  go_ret
  exact ⟨rfl, H6.out.bel⟩
end Go.Proofs.Ytmldfckeenahlaa
