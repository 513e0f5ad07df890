/-
  Guard of a panic that no draw made; the law's passes.
-/
import Derived.Test.YtnmkkeifdfhpfaaWGrd2
import Derived.Test.YtnmkkeifdfhpfaaRecD
import Derived.Laws.Concat
import Derived.Laws.StructEq
open Go Go.RowKit
set_option linter.unusedVariables false
namespace Go.Proofs.Ytnmkkeifdfhpfaa
theorem info_cmp : (Try.prog.info? 9).map (fun i => i.comparable) = some true := by kernel_rfl
theorem eq_ifs (d : Nat) (t : ByteArray) (w : World) : (Op.equalIn (d + 1 + 1) 20 (.iface 9 (.string t)) (.iface 9 (.string t))).run Try.prog w = .ok true w := by
  obtain ⟨i, hi, hc⟩ := Option.map_eq_some_iff.1 info_cmp
  have h2 := run_equalIn_string (P := Try.prog) w d 9 t t Try.underlying9
  rw [Op.equalIn]
  simp only [Sem.run_bind, run_underlying Try.underlying20, Result.andThen_ok, ne_eq, not_true, if_false, typeInfo, hi, hc, Bool.not_true, Bool.false_eq_true, h2, run_program, Sem.run_pure, Sem.run_ite]
  simp
set_option maxRecDepth 100000 in
set_option maxHeartbeats 1000000 in
theorem passes1_any {w0 w : World} {R : List Asr} {p q : Nat} {s t : ByteArray} {x : Bool} (h : Own w0 w (CelA p [.string s] :: CelA q [.bool x] :: R)) (ht : t = ⟨#[120]⟩ ++ s) (hl : s.size ≤ 140737488351232) (older : List PanicEntry) :
    CallsD Try.prog 32 #[.pointer (some ⟨p, 0, none⟩), .pointer (some ⟨q, 0, none⟩)] (.panicking ({ v := .iface 9 (.string t), recovered := false } :: older)) w fun e u' w' =>
      e = .returned (.tuple #[]) ∧ u' = .panicking ({ v := .iface 9 (.string t), recovered := true } :: older) ∧ Own w0 w' (CelA p [.string s] :: CelA q [.bool true] :: R) := by
  obtain ⟨g0, f0⟩ := h.cel 0 rfl 0 _ rfl
  obtain ⟨g1, f1⟩ := h.cel 1 rfl 0 _ rfl
  have hpl := World.block_lt_of_cell? w _ g0
  have hql := World.block_lt_of_cell? w _ g1
  have hadd : ∀ w : World, (binOp .add 9 (.string ⟨#[120]⟩) (.string s)).run Try.prog w = .ok (.string t) w := by
    intro w
    rw [ht]
    exact run_string_add_sum w ⟨#[120]⟩ s (by have : (⟨#[120]⟩ : ByteArray).size = 1 := rfl; omega)
  have hag : ∀ w : World, (eqGuard .add 9 (.const (.string ⟨#[120]⟩)) (.tmp 3) (.string ⟨#[120]⟩) (.string s)).run Try.prog w = .ok () w := fun w => rfl
  have hadd2 : ∀ w : World, (binOp .add 9 (.string (ByteArray.mk #[120])) (.string s)).run Try.prog w = .ok (.string t) w := hadd
  have heq : ∀ w : World, (binOp .eql 20 (.iface 9 (.string t)) (.iface 9 (.string t))).run Try.prog w = .ok (.bool true) w := by
    intro w
    have h1 := eq_ifs 9998 t w
    show ((Op.equal 20 (.iface 9 (.string t)) (.iface 9 (.string t)) >>= fun b => pure (.bool b) : Sem Value)).run Try.prog w = _
    rw [Sem.run_bind]
    change ((Op.equalIn (9998 + 1 + 1) 20 (.iface 9 (.string t)) (.iface 9 (.string t))).run Try.prog w).andThen _ = _
    rw [h1]
    rfl
  have heg : ∀ w : World, (eqGuard .eql 20 (.tmp 2) (.tmp 5) (.iface 9 (.string t)) (.iface 9 (.string t))).run Try.prog w = .ok () w := fun w => rfl
  have H := Lib.hid ((h.step (below_drew1 _)).setAt 1 rfl 0 (.bool true))
  clear h
  refine callsD_of_wpS Try.func32 rfl fun c₀ cs hu => ?_
  refine wpS_region_draw (by kernel_rfl) [[0, 1, 2, 3, 4, 5], [1, 0, 2, 3, 4, 5], [1, 2, 0, 3, 4, 5], [1, 2, 3, 0, 4, 5]] (by kernel_rfl) ?_
  intro l hl
  simp only [List.mem_cons, List.mem_nil_iff, or_false] at hl
  rw [show (#[.pointer (some ⟨p, 0, none⟩), .pointer (some ⟨q, 0, none⟩)] ++ Array.replicate (Try.f32.ntmps - (#[Value.pointer (some ⟨p, 0, none⟩), .pointer (some ⟨q, 0, none⟩)] : Array Value).size) undef : Array Value) = #[.pointer (some ⟨p, 0, none⟩), .pointer (some ⟨q, 0, none⟩), undef, undef, undef, undef, undef] by rw [Try.ntmps32]; rfl]
  rcases hl with rfl | rfl | rfl | rfl
  · refine opsS_rec (v := .iface 9 (.string t)) (cs' := { c₀ with mode := .panicking ({ v := .iface 9 (.string t), recovered := true } :: older) } :: cs) rfl rfl (by rfl) (by simp [recoverD, hu]) ?_
    simp only [Act.put, List.getElem_toArray, List.getElem_cons_succ, List.getElem_cons_zero, List.setIfInBounds_toArray, List.set_cons_zero, List.set_cons_succ]
    refine opsS_val (v := .string s) (w' := w.drew) rfl rfl (by simp [go_sem, g0]) ?_
    simp only [Act.put, List.getElem_toArray, List.getElem_cons_succ, List.getElem_cons_zero, List.setIfInBounds_toArray, List.set_cons_zero, List.set_cons_succ]
    refine opsS_val (v := .string t) (w' := w.drew) rfl rfl (by simp [execOp, Act.eval, hadd, hag]) ?_
    simp only [Act.put, List.getElem_toArray, List.getElem_cons_succ, List.getElem_cons_zero, List.setIfInBounds_toArray, List.set_cons_zero, List.set_cons_succ]
    refine opsS_val (v := .iface 9 (.string t)) (w' := w.drew) rfl rfl (by simp [execOp, Act.eval, go_sem]) ?_
    simp only [Act.put, List.getElem_toArray, List.getElem_cons_succ, List.getElem_cons_zero, List.setIfInBounds_toArray, List.set_cons_zero, List.set_cons_succ]
    refine opsS_val (v := .bool true) (w' := w.drew) rfl rfl (by simp [execOp, Act.eval, heq, heg]) ?_
    simp only [Act.put, List.getElem_toArray, List.getElem_cons_succ, List.getElem_cons_zero, List.setIfInBounds_toArray, List.set_cons_zero, List.set_cons_succ]
    refine opsS_skip (w' := w.drew.setCell ⟨q, 0, none⟩ (.bool true)) rfl rfl (by simp [go_sem, Act.eval, g1, f1]) ?_
    simp only [Act.put, List.getElem_toArray, List.getElem_cons_succ, List.getElem_cons_zero, List.setIfInBounds_toArray, List.set_cons_zero, List.set_cons_succ]
    exact ⟨rfl, _, rfl, .tuple #[], by simp [results, Try.results32], rfl, rfl, H.out⟩
  · refine opsS_val (v := .string s) (w' := w.drew) rfl rfl (by simp [go_sem, g0]) ?_
    simp only [Act.put, List.getElem_toArray, List.getElem_cons_succ, List.getElem_cons_zero, List.setIfInBounds_toArray, List.set_cons_zero, List.set_cons_succ]
    refine opsS_rec (v := .iface 9 (.string t)) (cs' := { c₀ with mode := .panicking ({ v := .iface 9 (.string t), recovered := true } :: older) } :: cs) rfl rfl (by rfl) (by simp [recoverD, hu]) ?_
    simp only [Act.put, List.getElem_toArray, List.getElem_cons_succ, List.getElem_cons_zero, List.setIfInBounds_toArray, List.set_cons_zero, List.set_cons_succ]
    refine opsS_val (v := .string t) (w' := w.drew) rfl rfl (by simp [execOp, Act.eval, hadd, hag]) ?_
    simp only [Act.put, List.getElem_toArray, List.getElem_cons_succ, List.getElem_cons_zero, List.setIfInBounds_toArray, List.set_cons_zero, List.set_cons_succ]
    refine opsS_val (v := .iface 9 (.string t)) (w' := w.drew) rfl rfl (by simp [execOp, Act.eval, go_sem]) ?_
    simp only [Act.put, List.getElem_toArray, List.getElem_cons_succ, List.getElem_cons_zero, List.setIfInBounds_toArray, List.set_cons_zero, List.set_cons_succ]
    refine opsS_val (v := .bool true) (w' := w.drew) rfl rfl (by simp [execOp, Act.eval, heq, heg]) ?_
    simp only [Act.put, List.getElem_toArray, List.getElem_cons_succ, List.getElem_cons_zero, List.setIfInBounds_toArray, List.set_cons_zero, List.set_cons_succ]
    refine opsS_skip (w' := w.drew.setCell ⟨q, 0, none⟩ (.bool true)) rfl rfl (by simp [go_sem, Act.eval, g1, f1]) ?_
    simp only [Act.put, List.getElem_toArray, List.getElem_cons_succ, List.getElem_cons_zero, List.setIfInBounds_toArray, List.set_cons_zero, List.set_cons_succ]
    exact ⟨rfl, _, rfl, .tuple #[], by simp [results, Try.results32], rfl, rfl, H.out⟩
  · refine opsS_val (v := .string s) (w' := w.drew) rfl rfl (by simp [go_sem, g0]) ?_
    simp only [Act.put, List.getElem_toArray, List.getElem_cons_succ, List.getElem_cons_zero, List.setIfInBounds_toArray, List.set_cons_zero, List.set_cons_succ]
    refine opsS_val (v := .string t) (w' := w.drew) rfl rfl (by simp [execOp, Act.eval, hadd, hag]) ?_
    simp only [Act.put, List.getElem_toArray, List.getElem_cons_succ, List.getElem_cons_zero, List.setIfInBounds_toArray, List.set_cons_zero, List.set_cons_succ]
    refine opsS_rec (v := .iface 9 (.string t)) (cs' := { c₀ with mode := .panicking ({ v := .iface 9 (.string t), recovered := true } :: older) } :: cs) rfl rfl (by rfl) (by simp [recoverD, hu]) ?_
    simp only [Act.put, List.getElem_toArray, List.getElem_cons_succ, List.getElem_cons_zero, List.setIfInBounds_toArray, List.set_cons_zero, List.set_cons_succ]
    refine opsS_val (v := .iface 9 (.string t)) (w' := w.drew) rfl rfl (by simp [execOp, Act.eval, go_sem]) ?_
    simp only [Act.put, List.getElem_toArray, List.getElem_cons_succ, List.getElem_cons_zero, List.setIfInBounds_toArray, List.set_cons_zero, List.set_cons_succ]
    refine opsS_val (v := .bool true) (w' := w.drew) rfl rfl (by simp [execOp, Act.eval, heq, heg]) ?_
    simp only [Act.put, List.getElem_toArray, List.getElem_cons_succ, List.getElem_cons_zero, List.setIfInBounds_toArray, List.set_cons_zero, List.set_cons_succ]
    refine opsS_skip (w' := w.drew.setCell ⟨q, 0, none⟩ (.bool true)) rfl rfl (by simp [go_sem, Act.eval, g1, f1]) ?_
    simp only [Act.put, List.getElem_toArray, List.getElem_cons_succ, List.getElem_cons_zero, List.setIfInBounds_toArray, List.set_cons_zero, List.set_cons_succ]
    exact ⟨rfl, _, rfl, .tuple #[], by simp [results, Try.results32], rfl, rfl, H.out⟩
  · refine opsS_val (v := .string s) (w' := w.drew) rfl rfl (by simp [go_sem, g0]) ?_
    simp only [Act.put, List.getElem_toArray, List.getElem_cons_succ, List.getElem_cons_zero, List.setIfInBounds_toArray, List.set_cons_zero, List.set_cons_succ]
    refine opsS_val (v := .string t) (w' := w.drew) rfl rfl (by simp [execOp, Act.eval, hadd, hag]) ?_
    simp only [Act.put, List.getElem_toArray, List.getElem_cons_succ, List.getElem_cons_zero, List.setIfInBounds_toArray, List.set_cons_zero, List.set_cons_succ]
    refine opsS_val (v := .iface 9 (.string t)) (w' := w.drew) rfl rfl (by simp [execOp, Act.eval, go_sem]) ?_
    simp only [Act.put, List.getElem_toArray, List.getElem_cons_succ, List.getElem_cons_zero, List.setIfInBounds_toArray, List.set_cons_zero, List.set_cons_succ]
    refine opsS_rec (v := .iface 9 (.string t)) (cs' := { c₀ with mode := .panicking ({ v := .iface 9 (.string t), recovered := true } :: older) } :: cs) rfl rfl (by rfl) (by simp [recoverD, hu]) ?_
    simp only [Act.put, List.getElem_toArray, List.getElem_cons_succ, List.getElem_cons_zero, List.setIfInBounds_toArray, List.set_cons_zero, List.set_cons_succ]
    refine opsS_val (v := .bool true) (w' := w.drew) rfl rfl (by simp [execOp, Act.eval, heq, heg]) ?_
    simp only [Act.put, List.getElem_toArray, List.getElem_cons_succ, List.getElem_cons_zero, List.setIfInBounds_toArray, List.set_cons_zero, List.set_cons_succ]
    refine opsS_skip (w' := w.drew.setCell ⟨q, 0, none⟩ (.bool true)) rfl rfl (by simp [go_sem, Act.eval, g1, f1]) ?_
    simp only [Act.put, List.getElem_toArray, List.getElem_cons_succ, List.getElem_cons_zero, List.setIfInBounds_toArray, List.set_cons_zero, List.set_cons_succ]
    exact ⟨rfl, _, rfl, .tuple #[], by simp [results, Try.results32], rfl, rfl, H.out⟩
/-- What panics with a text. -/
def said (t : ByteArray) : PanicEntry := { v := .iface 9 (.string t), recovered := false }
set_option maxRecDepth 100000 in
set_option maxHeartbeats 1000000 in
theorem passes2_any (w : World) (p : Nat) (s t : ByteArray) (h : w.cell? ⟨p, 0, none⟩ = some (.string s)) (ht : t = ⟨#[120]⟩ ++ s) (hl : s.size ≤ 140737488351232) :
    Calls Try.prog 33 #[.pointer (some ⟨p, 0, none⟩)] w fun r w' => r = .panicked [said t] ∧ w' = w := by
  have hadd : ∀ w : World, (binOp .add 9 (.string ⟨#[120]⟩) (.string s)).run Try.prog w = .ok (.string t) w := by
    intro w
    rw [ht]
    exact run_string_add_sum w ⟨#[120]⟩ s (by have : (⟨#[120]⟩ : ByteArray).size = 1 := rfl; omega)
  have HT := Lib.hid ht
  clear ht
  unfold said
  go_enter Try.func33, Try.ntmps33
  go_wp2
  exact ⟨rfl, by rw [HT.out], rfl⟩
set_option maxRecDepth 100000 in
set_option maxHeartbeats 1000000 in
theorem guard_said {w0 w : World} {R : List Asr} (h : Own w0 w R) (F : Nat) (cap : Array Value) (t : ByteArray) (en : ∀ (args : Array Value) (w : World), (callFunc F args).run Try.prog w = .ok (.enter F args) w)
    (hrun : ∀ w1, Below w.heap.size w w1 → Calls Try.prog F cap w1 fun r w2 => r = .panicked [said t] ∧ w2 = w1) :
    Calls Try.prog 21 #[.func (.func F) #[] cap] w fun e w' => e = .panicked [said t, { said t with recovered := true }] ∧ Own w0 w' R := by
  have hmf : ∀ (fn : Fn) (first cap : Array Value) (w : World), (Instr.makeFunc fn first cap).run Try.prog w = .ok (.func fn first cap) w := fun _ _ _ _ => rfl
  have hb := below_on (below_alloc1 w (.cells #[.int .i64 0] 3)) (below_alloc1 _ (.cells uz.toArray 44))
  have HC := Lib.hid (hrun _ hb)
  have HO := Lib.hid (h.step hb)
  clear hrun hb h
  unfold uz at HC HO
  go_enter_defers Try.func21, Try.ntmps21
  go_wp2_with fail
  refine HC.out.mono ?_
  rintro r w2 ⟨rfl, rfl⟩
  clear HC
  refine leaves_cons (f := 31) (args := #[.pointer (some ⟨w.heap.size, 0, none⟩), .pointer (some ⟨w.heap.size + 1, 0, none⟩)]) (by simp) (by simp [go_sem]) ?_
  refine (catch_other _ _ t [] _).mono ?_
  rintro e u' w'' ⟨rfl, rfl, rfl⟩
  exact ⟨rfl, HO.out⟩
set_option maxRecDepth 100000 in
set_option maxHeartbeats 1000000 in
theorem passes_any (w : World) (s : ByteArray) (hl : s.size ≤ 140737488351232) :
    Calls Try.prog 23 #[.string s] w fun r w' => r = .returned (.bool true) ∧ Below w.heap.size w w' := by
  have hmf : ∀ (fn : Fn) (first cap : Array Value) (w : World), (Instr.makeFunc fn first cap).run Try.prog w = .ok (.func fn first cap) w := fun _ _ _ _ => rfl
  have en : ∀ (args : Array Value) (w : World), (callFunc 33 args).run Try.prog w = .ok (.enter 33 args) w := by intro args w; kernel_rfl
  obtain ⟨t, ht⟩ : ∃ t, t = (⟨#[120]⟩ : ByteArray) ++ s := ⟨_, rfl⟩
  have ho := ((Own.nil (Below.refl w.heap.size w)).alloc [.string s] 9 (b := w.heap.size) rfl).alloc [.bool false] 4 (b := w.heap.size + 1) (by simp)
  have hg := guard_said ho 33 #[.pointer (some ⟨w.heap.size, 0, none⟩)] t en (fun w1 hb => passes2_any w1 _ s t (cell_below (ho.cel 1 rfl 0 _ rfl).1 hb) ht hl)
  have HG := Lib.hid hg
  have HT := Lib.hid ht
  clear ho hg ht en
  go_enter_defers Try.func23, Try.ntmps23
  go_wp2_with fail
  refine HG.out.mono ?_
  rintro r w2 ⟨rfl, ho⟩
  clear HG
  refine leaves_cons (f := 32) (args := #[.pointer (some ⟨w.heap.size, 0, none⟩), .pointer (some ⟨w.heap.size + 1, 0, none⟩)]) (by simp) (by simp [go_sem]) ?_
  refine (passes1_any (ho.pick 1 rfl) HT.out hl _).mono ?_
  rintro e u' w'' ⟨rfl, rfl, h2⟩
  refine ⟨.bool true, ?_, rfl, h2.bel⟩
  exact results_cell rfl _ ⟨w.heap.size + 1, 0, none⟩ rfl (by have := (h2.cel 1 rfl 0 _ rfl).1; simp [go_sem, this])
end Go.Proofs.Ytnmkkeifdfhpfaa
