/-
  Rows of integers: laws over the program's own types.
-/
import Derived.Test.YtdeilfnfpgjnnaaDoorRows
import Derived.Test.YtdeilfnfpgjnnaaDoorIRow
import Derived.Deep.QuietTactic
import Derived.BigQuiet
import Derived.WalkSmall
import Derived.Deep.DeepCutAuto
import Derived.RegionTactic
import Derived.Deep.RegionHeld3
import Derived.Deep.RegionWith
import Derived.Deep.RegionLaw
open Go Go.RowKit
set_option linter.unusedVariables false
namespace Go.Proofs.YtdeilfnfpgjnnaaDoor
theorem info_int : (Tryd.prog.info? 3).map (fun i => (i.zero, i.size, i.bytes)) = some (some (.int .i64 0), 1, 8) := by kernel_rfl
theorem RowAt.one (w : World) (x : Int) (t : TypeId) {b : Nat} (hb : b = w.heap.size) : RowAt (w.alloc (.cells #[.int .i64 x] t)) (some ⟨b, 0, none⟩) 1 [x] := RowAt.new w [x] t (by simp [maxLen]) hb
theorem RowAt.empty (w : World) (t : TypeId) {b : Nat} (hb : b = w.heap.size) : RowAt (w.alloc (.cells #[] t)) (some ⟨b, 0, none⟩) 0 [] := RowAt.new w [] t (by simp [maxLen]) hb
theorem below_alloc2 (w : World) (o1 o2 : Obj) : Below w.heap.size w ((w.alloc o1).alloc o2) := (below_alloc1 _ _).alloc (by simp) _
theorem below_alloc3 (w : World) (o1 o2 o3 : Obj) : Below w.heap.size w (((w.alloc o1).alloc o2).alloc o3) := (below_alloc2 _ _ _).alloc (by simp; omega) _
theorem size_int : ∀ w, (sizeOf (Tryd.prog.elem 23)).run Tryd.prog w = .ok 1 w := by
  obtain ⟨i0, hi, hz0, hz1, hz2⟩ := info_parts info_int
  intro w
  have e : Tryd.prog.elem 23 = 3 := by kernel_rfl
  rw [e]; simp [sizeOf, typeInfo, hi, hz1]
theorem under_ints : Tryd.prog.underlying 23 = some (.slice (Tryd.prog.elem 23)) := by
  have e : Tryd.prog.elem 23 = 3 := by kernel_rfl
  rw [e]; exact Tryd.underlying23
/-- append(s, t...) at a step of a region that draws its order. -/
theorem step_append_row {P : Program} {w : World} {ops : Array Oper} {o : Oper} {ac : Act} {K : Act → World → Prop} {Q : Exit → Act → World → Prop} {E : Prop} (hgd : o.guard = none) (sl x : Operand) (t : TypeId)
    (ho : o.op = .call { callee := .builtin .append, args := #[sl, x], argTypes := #[t, t] }) (e : TypeId) (i : TypeInfo) (z : Value) (ht : P.underlying t = some (.slice e)) (hi : P.info? e = some i) (hz : i.zero = some z) (hsize : i.size = 1) (hby : i.bytes = 8) (hzs : z.cells.size = 1)
    {a b : Option Addr} {cap c n k : Nat} {l m : List Int} (hs : ac.eval sl = .slice a n cap) (hx : ac.eval x = .slice b k c) (hn : n = l.length) (hk : k = m.length) (ha : RowAt w a cap l) (hb : IntsAt w b m) (h47 : l.length + m.length ≤ 1000000000)
    (h : ∀ a' cap' w', RowAt w' a' cap' (l ++ m) → Chg (blk a) w w' → (∀ x ∈ blk a', x ∈ blk a ∨ w.heap.size ≤ x) → K (ac.put o.dst (.slice a' (n + k) cap')) w') : if Region.wanted o (yielded ops ac.tmps) = true then Oper.wp P o ac w K Q else E := by
  have hw : Region.wanted o (yielded ops ac.tmps) = true := by simp [Region.wanted, hgd]
  rw [if_pos hw]
  subst hn hk
  obtain ⟨a', cap', w', hr, h2, h3, h4⟩ := append_row (P := P) (w := w) t o.type e i z ht hi hz hsize hby hzs ha (c := c) hb h47
  unfold Oper.wp execOp
  simp only [ho, resolve, invoke, builtin, Sem.run_bind, Sem.run_pure, Result.andThen_ok, List.map_toArray, List.map_cons, List.map_nil, hs, hx, hr]
  exact h a' cap' w' h2 h3 h4
theorem and_255 (k : Int) : bits BinOp.and IntKind.i64 k 255 = k % 256 := by
  show IntKind.i64.wrap (((BitVec.ofInt 64 k) &&& (BitVec.ofInt 64 255)).toNat : Int) = k % 256
  have e : (BitVec.ofInt 64 255).toNat = 255 := by decide
  rw [BitVec.toNat_and, e, show (255 : Nat) = 2 ^ 8 - 1 from rfl, Nat.and_two_pow_sub_one_eq_mod, IntKind.wrap_i64, BitVec.toNat_ofInt]; omega
theorem and_65535 (k : Int) : bits BinOp.and IntKind.i64 k 65535 = k % 65536 := by
  show IntKind.i64.wrap (((BitVec.ofInt 64 k) &&& (BitVec.ofInt 64 65535)).toNat : Int) = k % 65536
  have e : (BitVec.ofInt 64 65535).toNat = 65535 := by decide
  rw [BitVec.toNat_and, e, show (65535 : Nat) = 2 ^ 16 - 1 from rfl, Nat.and_two_pow_sub_one_eq_mod, IntKind.wrap_i64, BitVec.toNat_ofInt]; omega
/-- (x & 255) % m. -/
theorem small_of (x : Int) (m : Nat) (hm : 0 < m) : ∃ n : Nat, (bits BinOp.and IntKind.i64 x 255).tmod (m : Int) = (n : Int) ∧ n < m ∧ n ≤ 255 := by
  rw [and_255]
  obtain ⟨k, hk⟩ : ∃ k : Nat, x % 256 = (k : Int) := ⟨(x % 256).toNat, by omega⟩
  have h1 := Nat.mod_lt k hm
  have h2 := Nat.mod_le k m
  exact ⟨k % m, by rw [hk, Int.tmod_eq_emod_of_nonneg (by omega)]; rfl, h1, by omega⟩
/-- 0 to n - 1. -/
def upto (n : Nat) : List Int := (List.range n).map fun (i : Nat) => (i : Int)
theorem upto_len (n : Nat) : (upto n).length = n := by simp [upto]
theorem upto_succ (n : Nat) : upto (n + 1) = upto n ++ [(n : Int)] := by simp [upto, List.range_succ]
theorem upto_at (n i : Nat) (h : i < (upto n).length) : (upto n)[i] = (i : Int) := by simp [upto]
end Go.Proofs.YtdeilfnfpgjnnaaDoor
