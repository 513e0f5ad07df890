/-
  Rows of integers: laws over the program's own types.
-/
import Derived.Test.YtmldfckeenahlaaRows
import Derived.Test.YtmldfckeenahlaaIRow
import Derived.Deep.QuietTactic
import Derived.BigQuiet
import Derived.WalkSmall
import Derived.Deep.DeepCutAuto
import Derived.RegionTactic
import Derived.Deep.RegionHeld3
import Derived.Deep.RegionWith
import Derived.Deep.RegionLaw
open Go Go.RowKit
set_option linter.unusedVariables false
namespace Go.Proofs.Ytmldfckeenahlaa
theorem info_int : (Try.prog.info? 3).map (fun i => (i.zero, i.size, i.bytes)) = some (some (.int .i64 0), 1, 8) := by kernel_rfl
theorem RowAt.one (w : World) (x : Int) (t : TypeId) {b : Nat} (hb : b = w.heap.size) : RowAt (w.alloc (.cells #[.int .i64 x] t)) (some ⟨b, 0, none⟩) 1 [x] := RowAt.new w [x] t (by simp [maxLen]) hb
theorem RowAt.empty (w : World) (t : TypeId) {b : Nat} (hb : b = w.heap.size) : RowAt (w.alloc (.cells #[] t)) (some ⟨b, 0, none⟩) 0 [] := RowAt.new w [] t (by simp [maxLen]) hb
theorem below_alloc2 (w : World) (o1 o2 : Obj) : Below w.heap.size w ((w.alloc o1).alloc o2) := (below_alloc1 _ _).alloc (by simp) _
theorem below_alloc3 (w : World) (o1 o2 o3 : Obj) : Below w.heap.size w (((w.alloc o1).alloc o2).alloc o3) := (below_alloc2 _ _ _).alloc (by simp; omega) _
theorem size_int : ∀ w, (sizeOf (Try.prog.elem 35)).run Try.prog w = .ok 1 w := by
  obtain ⟨i0, hi, hz0, hz1, hz2⟩ := info_parts info_int
  intro w
  have e : Try.prog.elem 35 = 3 := by kernel_rfl
  rw [e]; simp [sizeOf, typeInfo, hi, hz1]
theorem under_ints : Try.prog.underlying 35 = some (.slice (Try.prog.elem 35)) := by
  have e : Try.prog.elem 35 = 3 := by kernel_rfl
  rw [e]; exact Try.underlying35
/-- append(s, t...) at a step of a region that draws its order. -/
theorem step_append_row {P : Program} {w : World} {ops : Array Oper} {o : Oper} {ac : Act} {K : Act → World → Prop} {Q : Exit → Act → World → Prop} {E : Prop} (hgd : o.guard = none) (sl x : Operand) (t : TypeId)
    (ho : o.op = .call { callee := .builtin .append, args := #[sl, x], argTypes := #[t, t] }) (e : TypeId) (i : TypeInfo) (z : Value) (ht : P.underlying t = some (.slice e)) (hi : P.info? e = some i) (hz : i.zero = some z) (hsize : i.size = 1) (hby : i.bytes = 8) (hzs : z.cells.size = 1)
    {a b : Option Addr} {cap c n k : Nat} {l m : List Int} (hs : ac.eval sl = .slice a n cap) (hx : ac.eval x = .slice b k c) (hn : n = l.length) (hk : k = m.length) (ha : RowAt w a cap l) (hb : IntsAt w b m) (h47 : l.length + m.length ≤ 1000000000)
    (h : ∀ a' cap' w', RowAt w' a' cap' (l ++ m) → Chg (blk a) w w' → (∀ x ∈ blk a', x ∈ blk a ∨ w.heap.size ≤ x) → K (ac.put o.dst (.slice a' (n + k) cap')) w') : if Region.wanted o (yielded ops ac.tmps) = true then Oper.wp P o ac w K Q else E := by
  have hw : Region.wanted o (yielded ops ac.tmps) = true := by simp [Region.wanted, hgd]
  rw [if_pos hw]
  subst hn hk
  obtain ⟨a', cap', w', hr, h2, h3, h4⟩ := append_row (P := P) (w := w) t o.type e i z ht hi hz hsize hby hzs ha (c := c) hb h47
  unfold Oper.wp execOp
  simp only [ho, resolve, invoke, builtin, Sem.run_bind, Sem.run_pure, Result.andThen_ok, List.map_toArray, List.map_cons, List.map_nil, hs, hx, hr]
  exact h a' cap' w' h2 h3 h4
theorem and_255 (k : Int) : bits BinOp.and IntKind.i64 k 255 = k % 256 := by
  show IntKind.i64.wrap (((BitVec.ofInt 64 k) &&& (BitVec.ofInt 64 255)).toNat : Int) = k % 256
  have e : (BitVec.ofInt 64 255).toNat = 255 := by decide
  rw [BitVec.toNat_and, e, show (255 : Nat) = 2 ^ 8 - 1 from rfl, Nat.and_two_pow_sub_one_eq_mod, IntKind.wrap_i64, BitVec.toNat_ofInt]; omega
theorem and_65535 (k : Int) : bits BinOp.and IntKind.i64 k 65535 = k % 65536 := by
  show IntKind.i64.wrap (((BitVec.ofInt 64 k) &&& (BitVec.ofInt 64 65535)).toNat : Int) = k % 65536
  have e : (BitVec.ofInt 64 65535).toNat = 65535 := by decide
  rw [BitVec.toNat_and, e, show (65535 : Nat) = 2 ^ 16 - 1 from rfl, Nat.and_two_pow_sub_one_eq_mod, IntKind.wrap_i64, BitVec.toNat_ofInt]; omega
/-- (x & 255) % m. -/
theorem small_of (x : Int) (m : Nat) (hm : 0 < m) : ∃ n : Nat, (bits BinOp.and IntKind.i64 x 255).tmod (m : Int) = (n : Int) ∧ n < m ∧ n ≤ 255 := by
  rw [and_255]
  obtain ⟨k, hk⟩ : ∃ k : Nat, x % 256 = (k : Int) := ⟨(x % 256).toNat, by omega⟩
  have h1 := Nat.mod_lt k hm
  have h2 := Nat.mod_le k m
  exact ⟨k % m, by rw [hk, Int.tmod_eq_emod_of_nonneg (by omega)]; rfl, h1, by omega⟩
/-- 0 to n - 1. -/
def upto (n : Nat) : List Int := (List.range n).map fun (i : Nat) => (i : Int)
theorem upto_len (n : Nat) : (upto n).length = n := by simp [upto]
theorem upto_succ (n : Nat) : upto (n + 1) = upto n ++ [(n : Int)] := by simp [upto, List.range_succ]
theorem upto_at (n i : Nat) (h : i < (upto n).length) : (upto n)[i] = (i : Int) := by simp [upto]
set_option maxRecDepth 100000 in
set_option maxHeartbeats 1000000 in
theorem clone_any (w : World) (a : Option Addr) (n c : Nat) (l : List Int) (h : IntsAt w a l) (hn : n = l.length) (hl : n ≤ 1000000) (h0 : a = none → c = 0) :
    Calls Try.prog 33 #[.slice a n c] w fun r w' => ∃ a' c', r = .returned (.slice a' n c') ∧ RowAt w' a' c' l ∧ (∀ x ∈ blk a', w.heap.size ≤ x) ∧ Below w.heap.size w w' := by
  cases a with
  | none =>
    obtain rfl := h0 rfl
    have hl0 : l = [] := by
      rcases Nat.eq_zero_or_pos l.length with e | e
      · exact List.length_eq_zero_iff.1 e
      · obtain ⟨_, _, h1, _⟩ := h 0 e; cases h1
    subst hl0
    obtain rfl : n = 0 := hn
    clear h h0
    have he : ∀ w : World, (binOp .eql 35 (.slice none 0 0) (.slice none 0 0)).run Try.prog w = .ok (.bool true) w := fun _ => rfl
    go_enter Try.func33, Try.ntmps33
    go_wp2
    go_ret
    exact ⟨none, 0, rfl, RowAt.nil _, fun x hx => by simp [blk] at hx, Below.refl _ _⟩
  | some ad =>
    obtain ⟨i0, hi0, hz0, hz1, hz2⟩ := info_parts info_int
    have Hi := Lib.hid hi0; clear hi0
    have Hz0 := Lib.hid hz0; clear hz0
    have Hz1 := Lib.hid hz1; clear hz1
    have Hz2 := Lib.hid hz2; clear hz2
    have H := Lib.hid h
    have HN := Lib.hid hn
    clear h h0 hn
    have he : ∀ w : World, (binOp .eql 35 (.slice (some ad) n c) (.slice none 0 0)).run Try.prog w = .ok (.bool false) w := fun _ => rfl
    go_enter Try.func33, Try.ntmps33
    go_wp2_with (at_builtin; refine wpList_append_row (l := []) (m := l) rfl _ _ 35 rfl 3 i0 _ Try.underlying35 Hi.out Hz0.out Hz1.out Hz2.out rfl rfl rfl rfl HN.out (RowAt.empty _ _ rfl) (H.out.below (below_alloc1 _ _)) (by have := HN.out; simp only [List.length_nil]; omega) ?_)
    intro a1 c1 w1 k1 ch1 f1
    have hf : RowAt w1 a1 c1 l ∧ (∀ x ∈ blk a1, w.heap.size ≤ x) ∧ Below w.heap.size w w1 := by
      refine ⟨by simpa using k1, fun x hx => ?_, Chg.below (below_alloc1 _ _) ch1 (fun x hx => by simp [blk] at hx; omega)⟩
      rcases f1 x hx with h | h
      · simp [blk] at h; omega
      · omega
    have HF := Lib.hid hf
    clear hf k1 ch1 f1
    go_wp2
    go_ret
    exact ⟨a1, c1, by simp, HF.out⟩
end Go.Proofs.Ytmldfckeenahlaa
