/-
  A ring as the laws see it: beside what was there ahead; the laws' awake.
-/
import Derived.Test.YtfkomjahdidimaaWRing2
open Go Go.RowKit
set_option linter.unusedVariables false
namespace Go.Proofs.Ytfkomjahdidimaa
/-- A ring at p, its places in g, all of it made behind w0. -/
def RI (w0 w : World) (p g N : Nat) (l : List Int) : Prop := (∃ e, RingAt w p 0 g N e l) ∧ w0.heap.size ≤ p ∧ w0.heap.size ≤ g ∧ Below w0.heap.size w0 w
theorem RI.step {w0 w w' : World} {p g N : Nat} {l : List Int} (h : RI w0 w p g N l) (hb : Below w.heap.size w w') : RI w0 w' p g N l := by
  obtain ⟨⟨e, h1⟩, h2, h3, h4⟩ := h
  exact ⟨⟨e, h1.below hb⟩, h2, h3, below_on h4 hb⟩
theorem RI.chg {F : List Nat} {w0 w w' : World} {p g N : Nat} {l : List Int} (h : RI w0 w p g N l) (c : Chg F w w') (hp : p ∉ F) (hg : g ∉ F) (hF : ∀ x ∈ F, w0.heap.size ≤ x) : RI w0 w' p g N l := by
  obtain ⟨⟨e, h1⟩, h2, h3, h4⟩ := h
  exact ⟨⟨e, h1.chg c hp hg⟩, h2, h3, Chg.below h4 c hF⟩
theorem RI.bel {w0 w : World} {p g N : Nat} {l : List Int} (h : RI w0 w p g N l) : Below w0.heap.size w0 w := h.2.2.2
theorem RI.lt {w0 w : World} {p g N : Nat} {l : List Int} (h : RI w0 w p g N l) : p < w.heap.size ∧ g < w.heap.size := by obtain ⟨⟨e, h1⟩, _⟩ := h; exact h1.lt
theorem RI.ll {w0 w : World} {p g N : Nat} {l : List Int} (h : RI w0 w p g N l) : l.length ≤ N ∧ 1 ≤ N ∧ N ≤ 1024 := by obtain ⟨⟨e, h1⟩, _⟩ := h; exact ⟨h1.ll, h1.n1, h1.n2⟩
theorem RI.next {w0 w w' : World} {p g N e' : Nat} {l l' : List Int} (h : RI w0 w p g N l) (h1 : RingAt w' p 0 g N e' l') (h2 : RChg p 0 g w w') : RI w0 w' p g N l' := by
  obtain ⟨_, k2, k3, k4⟩ := h
  exact ⟨⟨e', h1⟩, k2, k3, Chg.below k4 h2.chg (fun x hx => by simp at hx; omega)⟩
theorem ri_new (z : Int) (w0 w : World) (h0 : Below w0.heap.size w0 w) : Calls Try.prog 11 #[.int .i64 z] w fun r w' => ∃ p g, r = .returned (.pointer (some ⟨p, 0, none⟩)) ∧ RI w0 w' p g (roomOf z) [] ∧ Below w.heap.size w w' ∧ w.heap.size ≤ p ∧ w.heap.size ≤ g :=
  (rnew_any z w).mono fun r w' ⟨p, g, h1, h2, h3, h4, h5⟩ => ⟨p, g, h1, ⟨⟨0, h2⟩, Nat.le_trans h0.size h3, Nat.le_trans h0.size h4, below_on h0 h5⟩, h5, h3, h4⟩
theorem ri_push {w0 w : World} {p g N : Nat} {l : List Int} (h : RI w0 w p g N l) (v : Int) (hl : l.length < N) :
    Calls Try.prog 14 #[.pointer (some ⟨p, 0, none⟩), .int .i64 v] w fun r w' => r = .returned (.bool true) ∧ RI w0 w' p g N (l ++ [v]) ∧ Chg [p, g] w w' := by
  obtain ⟨e, h1⟩ := h.1
  exact (push_any w p 0 g N e l v h1 hl).mono fun r w' ⟨k1, k2, k3⟩ => ⟨k1, h.next k2 k3, k3.chg⟩
theorem ri_full {w0 w : World} {p g N : Nat} {l : List Int} (h : RI w0 w p g N l) (v : Int) (hl : ¬ l.length < N) :
    Calls Try.prog 14 #[.pointer (some ⟨p, 0, none⟩), .int .i64 v] w fun r w' => r = .returned (.bool false) ∧ RI w0 w' p g N l ∧ Chg [p, g] w w' := by
  obtain ⟨e, h1⟩ := h.1
  exact (push_full w p 0 g N e l v h1 hl).mono fun r w' ⟨k1, k2, k3⟩ => ⟨k1, h.next k2 k3, k3.chg⟩
theorem ri_pop {w0 w : World} {p g N : Nat} {x : Int} {l : List Int} (h : RI w0 w p g N (x :: l)) :
    Calls Try.prog 16 #[.pointer (some ⟨p, 0, none⟩)] w fun r w' => r = .returned (.tuple #[.int .i64 x, .bool true]) ∧ RI w0 w' p g N l ∧ Chg [p, g] w w' := by
  obtain ⟨e, h1⟩ := h.1
  exact (pop_any w p 0 g N e x l h1).mono fun r w' ⟨k1, k2, k3⟩ => ⟨k1, h.next k2 k3, k3.chg⟩
theorem ri_none {w0 w : World} {p g N : Nat} (h : RI w0 w p g N []) :
    Calls Try.prog 16 #[.pointer (some ⟨p, 0, none⟩)] w fun r w' => r = .returned (.tuple #[.int .i64 0, .bool false]) ∧ RI w0 w' p g N [] ∧ Chg [p, g] w w' := by
  obtain ⟨e, h1⟩ := h.1
  exact (pop_none w p 0 g N e h1).mono fun r w' ⟨k1, k2, k3⟩ => ⟨k1, h.next k2 k3, k3.chg⟩
theorem ri_take {w0 w : World} {p g N : Nat} {l : List Int} (h : RI w0 w p g N l) (k : Int) :
    Calls Try.prog 18 #[.pointer (some ⟨p, 0, none⟩), .int .i64 k] w fun r w' => ∃ q, r = .returned (.slice (some ⟨q, 0, none⟩) (takes k l.length) (takes k l.length)) ∧ w.heap.size ≤ q ∧ RowAt w' (some ⟨q, 0, none⟩) (takes k l.length) (l.take (takes k l.length)) ∧
      RI w0 w' p g N (l.drop (takes k l.length)) ∧ Chg [p, g] w w' := by
  obtain ⟨e, h1⟩ := h.1
  exact (rtake_any w p 0 g N e l k h1).mono fun r w' ⟨q, e', k1, k2, k3, k4, k5⟩ => ⟨q, k1, k2, k3, h.next k4 k5, k5.chg⟩
theorem ri_list {w0 w : World} {p g N : Nat} {l : List Int} (h : RI w0 w p g N l) :
    Calls Try.prog 19 #[.pointer (some ⟨p, 0, none⟩)] w fun r w' => ∃ q, r = .returned (.slice (some ⟨q, 0, none⟩) l.length l.length) ∧ w.heap.size ≤ q ∧ RowAt w' (some ⟨q, 0, none⟩) l.length l ∧ RI w0 w' p g N l ∧ Below w.heap.size w w' := by
  obtain ⟨e, h1⟩ := h.1
  exact (rlist_any w p 0 g N e l h1).mono fun r w' ⟨q, k1, k2, k3, k4⟩ => ⟨q, k1, k2, k3, h.step k4, k4⟩
theorem ri_len {w0 w : World} {p g N : Nat} {l : List Int} (h : RI w0 w p g N l) :
    Calls Try.prog 20 #[.pointer (some ⟨p, 0, none⟩)] w fun r w' => r = .returned (.int .i64 (l.length : Int)) ∧ w' = w := by
  obtain ⟨e, h1⟩ := h.1; exact rlen_any w p 0 g N e l h1
theorem ri_room {w0 w : World} {p g N : Nat} {l : List Int} (h : RI w0 w p g N l) :
    Calls Try.prog 21 #[.pointer (some ⟨p, 0, none⟩)] w fun r w' => r = .returned (.int .i64 (N : Int)) ∧ w' = w := by
  obtain ⟨e, h1⟩ := h.1; exact rroom_any w p 0 g N e l h1
theorem and_255 (k : Int) : bits BinOp.and IntKind.i64 k 255 = k % 256 := by
  show IntKind.i64.wrap (((BitVec.ofInt 64 k) &&& (BitVec.ofInt 64 255)).toNat : Int) = k % 256
  have e : (BitVec.ofInt 64 255).toNat = 255 := by decide
  rw [BitVec.toNat_and, e, show (255 : Nat) = 2 ^ 8 - 1 from rfl, Nat.and_two_pow_sub_one_eq_mod, IntKind.wrap_i64, BitVec.toNat_ofInt]; omega
theorem and_65535 (k : Int) : bits BinOp.and IntKind.i64 k 65535 = k % 65536 := by
  show IntKind.i64.wrap (((BitVec.ofInt 64 k) &&& (BitVec.ofInt 64 65535)).toNat : Int) = k % 65536
  have e : (BitVec.ofInt 64 65535).toNat = 65535 := by decide
  rw [BitVec.toNat_and, e, show (65535 : Nat) = 2 ^ 16 - 1 from rfl, Nat.and_two_pow_sub_one_eq_mod, IntKind.wrap_i64, BitVec.toNat_ofInt]; omega
/-- (x & 255) % m. -/
theorem small_of (x : Int) (m : Nat) (hm : 0 < m) : ∃ n : Nat, (bits BinOp.and IntKind.i64 x 255).tmod (m : Int) = (n : Int) ∧ n < m ∧ n ≤ 255 := by
  rw [and_255]
  obtain ⟨k, hk⟩ : ∃ k : Nat, x % 256 = (k : Int) := ⟨(x % 256).toNat, by omega⟩
  have h1 := Nat.mod_lt k hm
  have h2 := Nat.mod_le k m
  exact ⟨k % m, by rw [hk, Int.tmod_eq_emod_of_nonneg (by omega)]; rfl, h1, by omega⟩
theorem same_n (w : World) (a b : Option Addr) (n c d : Nat) (l : List Int) (hn : n = l.length) (h : IntsAt w a l) (k : IntsAt w b l) (hl : n ≤ 1000000000) :
    Calls Try.prog 17 #[.slice a n c, .slice b n d] w fun r w' => r = .returned (.int .i64 0) ∧ ∃ m, w' = w.drewN m := by
  subst hn; exact same_any w a b c d l h k (by unfold maxLen; omega)
/-- 0 to n - 1. -/
def upto (n : Nat) : List Int := (List.range n).map fun (i : Nat) => (i : Int)
theorem upto_len (n : Nat) : (upto n).length = n := by simp [upto]
theorem upto_succ (n : Nat) : upto (n + 1) = upto n ++ [(n : Int)] := by simp [upto, List.range_succ]
theorem upto_at (n i : Nat) (h : i < (upto n).length) : (upto n)[i] = (i : Int) := by simp [upto]
set_option maxRecDepth 100000 in
set_option maxHeartbeats 1000000 in
theorem awake7_any (w : World) : Calls Try.prog 10 #[] w fun e w' => e = .returned (.bool true) ∧ Below w.heap.size w w' := by
  go_enter Try.func10, Try.ntmps10
  go_wp2_with fail
  refine (ri_new 2 w _ (Below.refl _ _)).mono ?_
  rintro e w1 ⟨p, g, rfl, h1, -, -, -⟩
  rw [show roomOf 2 = 2 from rfl] at h1
  have H1 := Lib.hid h1; clear h1
  go_wp2_with fail
  refine (ri_push H1.out 5 (by decide)).mono ?_
  rintro e w2 ⟨rfl, h2, -⟩
  have H2 := Lib.hid h2; clear h2 H1
  go_wp2_with fail
  refine (ri_push H2.out 6 (by decide)).mono ?_
  rintro e w3 ⟨rfl, h3, -⟩
  have H3 := Lib.hid h3; clear h3 H2
  go_wp2_with fail
  refine (ri_full H3.out 7 (by decide)).mono ?_
  rintro e w4 ⟨rfl, h4, -⟩
  have H4 := Lib.hid h4; clear h4 H3
  go_wp2_with fail
  refine (ri_pop (x := 5) (l := [6]) H4.out).mono ?_
  rintro e w5 ⟨rfl, h5, -⟩
  have H5 := Lib.hid h5; clear h5 H4
  go_wp2_with fail
  refine (ri_len H5.out).mono ?_
  rintro e w6 ⟨rfl, rfl⟩
  rw [show (([6] : List Int).length : Int) = 1 from rfl]
  go_wp2
  go_ret
  exact ⟨rfl, H5.out.bel⟩
end Go.Proofs.Ytfkomjahdidimaa
