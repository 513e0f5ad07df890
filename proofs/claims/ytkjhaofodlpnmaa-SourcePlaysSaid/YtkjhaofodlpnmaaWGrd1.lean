/-
  Guard: what is deferred, in each mode of what runs below it.
-/
import Derived.Test.YtkjhaofodlpnmaaWSrc4
import Derived.Recover
import Derived.Tactics
import Derived.Tactics2
import Derived.Deep.CutBlock
open Go Go.RowKit
set_option linter.unusedVariables false
namespace Go.Proofs.Ytkjhaofodlpnmaa
theorem lit16 (a b V : Value) : (#[a, b] ++ (Array.replicate 14 undef).setIfInBounds 4 V) = #[a, b, undef, undef, undef, undef, V, undef, undef, undef, undef, undef, undef, undef, undef, undef] := rfl
set_option maxRecDepth 100000 in
set_option maxHeartbeats 1000000 in
theorem catch_idle (p q : Addr) (w : World) :
    CallsD Try.prog 24 #[.pointer (some p), .pointer (some q)] .returning w fun e u' w' => e = .returned (.tuple #[]) ∧ u' = .returning ∧ w' = w := by
  refine callsD_of_wpS Try.func24 rfl fun c₀ cs hu => ?_
  apply wpS_seq
  apply wpS_region
  simp [wpOpsS, go_sem, recoverD, hu, Try.ntmps24, Exit.thenS]
  rw [lit16]
  refine wpS_of_wp ?_
  go_wp2
  cases c₀
  simp_all [bodyPostS, results, Try.results24]
theorem as_dry (w : World) : (Instr.typeAssert (.iface 65 (.agg #[])) 20 65 true).run Try.prog w = .ok (.tuple #[.agg #[], .bool true]) w := by first | rfl | kernel_rfl
theorem as_no (v : Value) (w : World) : (Instr.typeAssert (.iface 44 v) 20 65 true).run Try.prog w = .ok (.tuple #[.agg #[], .bool false]) w := by first | rfl | kernel_rfl
theorem as_unlike (v : Value) (w : World) : (Instr.typeAssert (.iface 44 v) 20 44 true).run Try.prog w = .ok (.tuple #[v, .bool true]) w := by first | rfl | kernel_rfl
theorem as_str1 (s : ByteArray) (w : World) : (Instr.typeAssert (.iface 9 (.string s)) 20 65 true).run Try.prog w = .ok (.tuple #[.agg #[], .bool false]) w := by first | rfl | kernel_rfl
theorem as_str2 (s : ByteArray) (w : World) : (Instr.typeAssert (.iface 9 (.string s)) 20 44 true).run Try.prog w = .ok (.tuple #[.agg #[.int .i64 0, .int .i64 0, .int .i64 0, .int .i64 0, .int .u64 0], .bool false]) w := by first | rfl | kernel_rfl
def uz : List Value := [.int .i64 0, .int .i64 0, .int .i64 0, .int .i64 0, .int .u64 0]
def uv (a0 a1 a2 a3 a4 : Int) : List Value := [.int .i64 a0, .int .i64 a1, .int .i64 a2, .int .i64 a3, .int .u64 a4]
set_option maxRecDepth 100000 in
set_option maxHeartbeats 1000000 in
theorem catch_dry {w0 w : World} {R : List Asr} {p q : Nat} {x : Value} (h : Own w0 w (CelA p [x] :: CelA q uz :: R)) (older : List PanicEntry) :
    CallsD Try.prog 24 #[.pointer (some ⟨p, 0, none⟩), .pointer (some ⟨q, 0, none⟩)] (.panicking ({ v := .iface 65 (.agg #[]), recovered := false } :: older)) w fun e u' w' =>
      e = .returned (.tuple #[]) ∧ u' = .panicking ({ v := .iface 65 (.agg #[]), recovered := true } :: older) ∧ Own w0 w' (CelA p [.int .i64 1] :: CelA q uz :: R) := by
  have h1 := as_dry
  obtain ⟨g0, f0⟩ := h.cel 0 rfl 0 _ rfl
  have hpl := World.block_lt_of_cell? w _ g0
  have H := Lib.hid ((h.set 0 (.int .i64 1)).step (below_alloc1 _ (.cells #[] 65)))
  clear h
  refine callsD_of_wpS Try.func24 rfl fun c₀ cs hu => ?_
  apply wpS_seq
  apply wpS_region
  simp [wpOpsS, go_sem, recoverD, hu, Try.ntmps24, Exit.thenS]
  rw [lit16]
  refine wpS_of_wp ?_
  go_wp2
  refine ⟨rfl, _, rfl, .tuple #[], by simp [results, Try.results24], rfl, rfl, H.out⟩
set_option maxRecDepth 100000 in
set_option maxHeartbeats 1000000 in
theorem catch_unlike {w0 w : World} {R : List Asr} {p q : Nat} {x : Value} (a0 a1 a2 a3 a4 : Int) (h : Own w0 w (CelA p [x] :: CelA q uz :: R)) (older : List PanicEntry) :
    CallsD Try.prog 24 #[.pointer (some ⟨p, 0, none⟩), .pointer (some ⟨q, 0, none⟩)] (.panicking ({ v := .iface 44 (.agg (uv a0 a1 a2 a3 a4).toArray), recovered := false } :: older)) w fun e u' w' =>
      e = .returned (.tuple #[]) ∧ u' = .panicking ({ v := .iface 44 (.agg (uv a0 a1 a2 a3 a4).toArray), recovered := true } :: older) ∧ Own w0 w' (CelA p [.int .i64 2] :: CelA q (uv a0 a1 a2 a3 a4) :: R) := by
  have h1 := fun w => as_no (.agg (uv a0 a1 a2 a3 a4).toArray) w
  have h2 := fun w => as_unlike (.agg (uv a0 a1 a2 a3 a4).toArray) w
  have h3 : ∀ w : World, (binOp .eql 20 (.iface 44 (.agg (uv a0 a1 a2 a3 a4).toArray)) .nilIface).run Try.prog w = .ok (.bool false) w := fun w => rfl
  have h4 : ∀ w : World, (eqGuard .eql 20 (.tmp 6) (.const .nilIface) (.iface 44 (.agg (uv a0 a1 a2 a3 a4).toArray)) .nilIface).run Try.prog w = .ok () w := fun w => rfl
  generalize Value.iface 44 (.agg (uv a0 a1 a2 a3 a4).toArray) = V at *
  unfold uv at h2
  unfold uz at h
  unfold uv
  obtain ⟨g0, f0⟩ := h.cel 0 rfl 0 _ rfl
  have hpl := World.block_lt_of_cell? w _ g0
  have H := Lib.hid h
  clear h
  refine callsD_of_wpS Try.func24 rfl fun c₀ cs hu => ?_
  apply wpS_seq
  apply wpS_region
  simp [wpOpsS, go_sem, recoverD, hu, Try.ntmps24, Exit.thenS]
  rw [lit16]
  refine wpS_of_wp ?_
  go_upto_region 10 with fail
  obtain ⟨q0, e0⟩ := H.out.cel 1 rfl 0 _ rfl
  obtain ⟨q1, e1⟩ := H.out.cel 1 rfl 1 _ rfl
  obtain ⟨q2, e2⟩ := H.out.cel 1 rfl 2 _ rfl
  obtain ⟨q3, e3⟩ := H.out.cel 1 rfl 3 _ rfl
  obtain ⟨q4, e4⟩ := H.out.cel 1 rfl 4 _ rfl
  have hql := World.block_lt_of_cell? w _ q0
  have hpq : p ≠ q := by
    obtain ⟨_, F, ⟨F1, F2, rfl, ⟨rfl, _, _⟩, hd, ⟨F3, F4, rfl, ⟨rfl, _, _⟩, _, _⟩⟩, _⟩ := H.out
    intro he; subst he; exact hd p (by simp) (by simp)
  go_region
  have h5 := ((H.out.set 0 (.int .i64 2)).pick 1 rfl)
  have h6 := ((((((h5.set 0 (.int .i64 a0)).set 1 (.int .i64 a1)).set 2 (.int .i64 a2)).set 3 (.int .i64 a3)).set 4 (.int .u64 a4)).pick 1 rfl).step (below_alloc1 _ (.cells #[.int .i64 a0, .int .i64 a1, .int .i64 a2, .int .i64 a3, .int .u64 a4] 44))
  exact ⟨rfl, _, rfl, .tuple #[], by simp [results, Try.results24], rfl, rfl, h6.step (below_drew1 _)⟩
set_option maxRecDepth 100000 in
set_option maxHeartbeats 1000000 in
theorem catch_other (p q : Nat) (s : ByteArray) (older : List PanicEntry) (w : World) :
    CallsD Try.prog 24 #[.pointer (some ⟨p, 0, none⟩), .pointer (some ⟨q, 0, none⟩)] (.panicking ({ v := .iface 9 (.string s), recovered := false } :: older)) w fun e u' w' =>
      e = .panicked [{ v := .iface 9 (.string s), recovered := false }] ∧ u' = .panicking ({ v := .iface 9 (.string s), recovered := true } :: older) ∧ w' = w := by
  have h1 := as_str1 s
  have h2 := as_str2 s
  have h3 : ∀ w : World, (binOp .eql 20 (.iface 9 (.string s)) .nilIface).run Try.prog w = .ok (.bool false) w := fun w => rfl
  have h4 : ∀ w : World, (eqGuard .eql 20 (.tmp 6) (.const .nilIface) (.iface 9 (.string s)) .nilIface).run Try.prog w = .ok () w := fun w => rfl
  have h5 : ∃ V, V = Value.iface 9 (.string s) := ⟨_, rfl⟩
  obtain ⟨V, hV⟩ := h5
  rw [← hV] at h1 h2 h3 h4 ⊢
  have HV := Lib.hid hV
  clear hV
  refine callsD_of_wpS Try.func24 rfl fun c₀ cs hu => ?_
  apply wpS_seq
  apply wpS_region
  simp [wpOpsS, go_sem, recoverD, hu, Try.ntmps24, Exit.thenS]
  rw [lit16]
  refine wpS_of_wp ?_
  go_upto_region 2 with fail
  rw [HV.out]
  go_wp2
  exact ⟨rfl, _, rfl, by rw [HV.out], rfl, rfl⟩
end Go.Proofs.Ytkjhaofodlpnmaa
