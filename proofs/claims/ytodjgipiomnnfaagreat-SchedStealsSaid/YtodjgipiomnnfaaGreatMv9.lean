/-
  Texts put together: WGrd1, WGrd2, SdLaw, SdPk, SdSt, SdShow, W18Steals.
-/
import Derived.Test.YtodjgipiomnnfaaGreatMv7
import Derived.Recover
import Derived.Tactics
import Derived.Tactics2
import Derived.Deep.CutBlock
import Derived.Test.YtodjgipiomnnfaaGreatMv8
import Derived.OpenShut
set_option maxRecDepth 100000
set_option maxHeartbeats 16000000
open Go Go.RowKit
set_option linter.unusedVariables false
namespace Go.Proofs.YtodjgipiomnnfaaGreat
theorem lit16 (a b V : Value) : (#[a, b] ++ (Array.replicate 14 undef).setIfInBounds 4 V) = #[a, b, undef, undef, undef, undef, V, undef, undef, undef, undef, undef, undef, undef, undef, undef] := rfl
theorem catch_idle (p q : Addr) (w : World) :
  CallsD Tryz.prog 49 #[.pointer (some p), .pointer (some q)] .returning w fun e u' w' => e = .returned (.tuple #[]) ∧ u' = .returning ∧ w' = w := by
 refine callsD_of_wpS Tryz.func49 rfl fun c₀ cs hu => ?_
 apply wpS_seq
 apply wpS_region
 simp [wpOpsS, go_sem, recoverD, hu, Tryz.ntmps49, Exit.thenS]
 rw [lit16]
 refine wpS_of_wp ?_
 go_wp2
 cases c₀
 simp_all [bodyPostS, results, Tryz.results49]
theorem as_dry (w : World) : (Instr.typeAssert (.iface 130 (.agg #[])) 20 130 true).run Tryz.prog w = .ok (.tuple #[.agg #[], .bool true]) w := by kernel_rfl
theorem as_no (v : Value) (w : World) : (Instr.typeAssert (.iface 101 v) 20 130 true).run Tryz.prog w = .ok (.tuple #[.agg #[], .bool false]) w := by kernel_rfl
theorem as_unlike (v : Value) (w : World) : (Instr.typeAssert (.iface 101 v) 20 101 true).run Tryz.prog w = .ok (.tuple #[v, .bool true]) w := by kernel_rfl
def uz : List Value := [.int .i64 0, .int .i64 0, .int .i64 0, .int .i64 0, .int .u64 0]
def uv (a0 a1 a2 a3 a4 : Int) : List Value := [.int .i64 a0, .int .i64 a1, .int .i64 a2, .int .i64 a3, .int .u64 a4]
theorem catch_dry {w0 w : World} {R : List Asr} {p q : Nat} {x : Value} (h : Own w0 w (CelA p [x] :: CelA q uz :: R)) (older : List PanicEntry) :
  CallsD Tryz.prog 49 #[.pointer (some ⟨p, 0, none⟩), .pointer (some ⟨q, 0, none⟩)] (.panicking ({ v := .iface 130 (.agg #[]), recovered := false } :: older)) w fun e u' w' =>
   e = .returned (.tuple #[]) ∧ u' = .panicking ({ v := .iface 130 (.agg #[]), recovered := true } :: older) ∧ Own w0 w' (CelA p [.int .i64 1] :: CelA q uz :: R) := by
 have h1 := as_dry
 obtain ⟨g0, f0⟩ := h.cel 0 rfl 0 _ rfl
 have hpl := World.block_lt_of_cell? w _ g0
 have H := Lib.hid ((h.set 0 (.int .i64 1)).step (below_alloc1 _ (.cells #[] 130)))
 clear h
 refine callsD_of_wpS Tryz.func49 rfl fun c₀ cs hu => ?_
 apply wpS_seq
 apply wpS_region
 simp [wpOpsS, go_sem, recoverD, hu, Tryz.ntmps49, Exit.thenS]
 rw [lit16]
 refine wpS_of_wp ?_
 go_wp2
 refine ⟨rfl, _, rfl, .tuple #[], by simp [results, Tryz.results49], rfl, rfl, H.out⟩
theorem catch_unlike {w0 w : World} {R : List Asr} {p q : Nat} {x : Value} (a0 a1 a2 a3 a4 : Int) (h : Own w0 w (CelA p [x] :: CelA q uz :: R)) (older : List PanicEntry) :
  CallsD Tryz.prog 49 #[.pointer (some ⟨p, 0, none⟩), .pointer (some ⟨q, 0, none⟩)] (.panicking ({ v := .iface 101 (.agg (uv a0 a1 a2 a3 a4).toArray), recovered := false } :: older)) w fun e u' w' =>
   e = .returned (.tuple #[]) ∧ u' = .panicking ({ v := .iface 101 (.agg (uv a0 a1 a2 a3 a4).toArray), recovered := true } :: older) ∧ Own w0 w' (CelA p [.int .i64 2] :: CelA q (uv a0 a1 a2 a3 a4) :: R) := by
 have h1 := fun w => as_no (.agg (uv a0 a1 a2 a3 a4).toArray) w
 have h2 := fun w => as_unlike (.agg (uv a0 a1 a2 a3 a4).toArray) w
 have h3 : ∀ w : World, (binOp .eql 20 (.iface 101 (.agg (uv a0 a1 a2 a3 a4).toArray)) .nilIface).run Tryz.prog w = .ok (.bool false) w := fun w => rfl
 have h4 : ∀ w : World, (eqGuard .eql 20 (.tmp 6) (.const .nilIface) (.iface 101 (.agg (uv a0 a1 a2 a3 a4).toArray)) .nilIface).run Tryz.prog w = .ok () w := fun w => rfl
 generalize Value.iface 101 (.agg (uv a0 a1 a2 a3 a4).toArray) = V at *
 unfold uv at h2
 unfold uz at h
 unfold uv
 obtain ⟨g0, f0⟩ := h.cel 0 rfl 0 _ rfl
 have hpl := World.block_lt_of_cell? w _ g0
 have H := Lib.hid h
 clear h
 refine callsD_of_wpS Tryz.func49 rfl fun c₀ cs hu => ?_
 apply wpS_seq
 apply wpS_region
 simp [wpOpsS, go_sem, recoverD, hu, Tryz.ntmps49, Exit.thenS]
 rw [lit16]
 refine wpS_of_wp ?_
 go_upto_region 10 with fail
 obtain ⟨q0, e0⟩ := H.out.cel 1 rfl 0 _ rfl
 obtain ⟨q1, e1⟩ := H.out.cel 1 rfl 1 _ rfl
 obtain ⟨q2, e2⟩ := H.out.cel 1 rfl 2 _ rfl
 obtain ⟨q3, e3⟩ := H.out.cel 1 rfl 3 _ rfl
 obtain ⟨q4, e4⟩ := H.out.cel 1 rfl 4 _ rfl
 have hql := World.block_lt_of_cell? w _ q0
 have hpq : p ≠ q := by
  obtain ⟨_, F, ⟨F1, F2, rfl, ⟨rfl, _, _⟩, hd, ⟨F3, F4, rfl, ⟨rfl, _, _⟩, _, _⟩⟩, _⟩ := H.out
  intro he; subst he; exact hd p (by simp) (by simp)
 go_region
 have h5 := ((H.out.set 0 (.int .i64 2)).pick 1 rfl)
 have h6 := ((((((h5.set 0 (.int .i64 a0)).set 1 (.int .i64 a1)).set 2 (.int .i64 a2)).set 3 (.int .i64 a3)).set 4 (.int .u64 a4)).pick 1 rfl).step (below_alloc1 _ (.cells #[.int .i64 a0, .int .i64 a1, .int .i64 a2, .int .i64 a3, .int .u64 a4] 101))
 exact ⟨rfl, _, rfl, .tuple #[], by simp [results, Tryz.results49], rfl, rfl, h6.step (below_drew1 _)⟩
def Ended (r : Ending) (k : Int) (u : List Value) : Prop :=
 (r = .returned (.tuple #[]) ∧ k = 0 ∧ u = uz) ∨ (r = dry ∧ k = 1 ∧ u = uz) ∨ ∃ i kd n x, r = strayed i kd n x ∧ k = 2 ∧ u = uv (i : Int) kd (n : Int) x.1 (x.2 : Int)
theorem len5 {u : List Value} {r : Ending} {k : Int} (h : Ended r k u) : ∃ a0 a1 a2 a3 a4, u = uv a0 a1 a2 a3 a4 := by
 rcases h with ⟨_, _, rfl⟩ | ⟨_, _, rfl⟩ | ⟨i, kd, n, x, _, _, rfl⟩
 ·exact ⟨_, _, _, _, _, rfl⟩
 ·exact ⟨_, _, _, _, _, rfl⟩
 ·exact ⟨_, _, _, _, _, rfl⟩
theorem sep_ne {w0 w : World} {R : List Asr} {p q : Nat} {x y : List Value} (h : Own w0 w (CelA p x :: CelA q y :: R)) : p ≠ q := by
 obtain ⟨_, F, ⟨F1, F2, rfl, ⟨rfl, _, _⟩, hd, ⟨F3, F4, rfl, ⟨rfl, _, _⟩, _, _⟩⟩, _⟩ := h
 intro he; subst he; exact hd p (by simp) (by simp)
theorem guard_results {w0 w : World} {R : List Asr} {g g' : Nat} {k a0 a1 a2 a3 a4 : Int} (h : Own w0 w (CelA g [.int .i64 k] :: CelA g' (uv a0 a1 a2 a3 a4) :: R)) (tmps : Array Value) (h2 : tmps.getD 2 undef = .pointer (some ⟨g, 0, none⟩)) (h3 : tmps.getD 3 undef = .pointer (some ⟨g', 0, none⟩)) :
  (results Tryz.f31 tmps).run Tryz.prog w = .ok (.tuple #[.int .i64 k, .agg (uv a0 a1 a2 a3 a4).toArray]) w := by
 unfold uv at *
 obtain ⟨g0, -⟩ := h.cel 0 rfl 0 _ rfl
 obtain ⟨q0, -⟩ := h.cel 1 rfl 0 _ rfl
 obtain ⟨q1, -⟩ := h.cel 1 rfl 1 _ rfl
 obtain ⟨q2, -⟩ := h.cel 1 rfl 2 _ rfl
 obtain ⟨q3, -⟩ := h.cel 1 rfl 3 _ rfl
 obtain ⟨q4, -⟩ := h.cel 1 rfl 4 _ rfl
 have h2' : tmps[2]?.getD undef = .pointer (some ⟨g, 0, none⟩) := by simpa using h2
 have h3' : tmps[3]?.getD undef = .pointer (some ⟨g', 0, none⟩) := by simpa using h3
 simp [results, Tryz.results31, go_sem, h2', h3', asAddr, g0, q0, q1, q2, q3, q4]
theorem guard_any {w0 w : World} {R : List Asr} (h : Own w0 w R) (F : Nat) (cap : Array Value) (en : ∀ (args : Array Value) (w : World), (callFunc F args).run Tryz.prog w = .ok (.enter F args) w) (Qr : Ending → List Asr → Prop)
  (hrun : ∀ w1 g, Own w0 w1 (CelA g [.int .i64 0] :: CelA (g + 1) uz :: R) → Calls Tryz.prog F cap w1 fun r w2 => ∃ R' k u, Own w0 w2 (CelA g [.int .i64 0] :: CelA (g + 1) uz :: R') ∧ Qr r R' ∧ Ended r k u) :
  Calls Tryz.prog 31 #[.func (.func F) #[] cap] w fun e w' => ∃ r R' k u, Own w0 w' R' ∧ Qr r R' ∧ Ended r k u ∧ e = .returned (.tuple #[.int .i64 k, .agg u.toArray]) := by
 have hmf : ∀ (fn : Fn) (first cap : Array Value) (w : World), (Instr.makeFunc fn first cap).run Tryz.prog w = .ok (.func fn first cap) w := fun _ _ _ _ => rfl
 have hA := ((h.alloc [.int .i64 0] 3 (b := w.heap.size) rfl).alloc uz 101 (b := w.heap.size + 1) (by simp)).pick 1 rfl
 have hC := hrun _ _ hA
 have HC := Lib.hid hC
 clear hrun hA hC h
 unfold uz at HC
 go_enter_defers Tryz.func31, Tryz.ntmps31
 go_wp2_with fail
 refine HC.out.mono ?_
 rintro r w2 ⟨R', k, u, ho, hq, he⟩
 clear HC
 generalize w.heap.size = g at *
 rcases he with ⟨rfl, rfl, rfl⟩ | ⟨rfl, rfl, rfl⟩ | ⟨i, kd, n, x, rfl, rfl, rfl⟩
 ·have HO := Lib.hid ho
  have hpq := sep_ne ho
  have h5 := ((ho.set 0 (.int .i64 0)).pick 1 rfl)
  have h6 := (((((h5.set 0 (.int .i64 0)).set 1 (.int .i64 0)).set 2 (.int .i64 0)).set 3 (.int .i64 0)).set 4 (.int .u64 0)).pick 1 rfl
  have H6 := Lib.hid h6
  have HQ := Lib.hid hq
  obtain ⟨g0, f0⟩ := ho.cel 0 rfl 0 _ rfl
  obtain ⟨q0, e0⟩ := ho.cel 1 rfl 0 _ rfl
  obtain ⟨q1, e1⟩ := ho.cel 1 rfl 1 _ rfl
  obtain ⟨q2, e2⟩ := ho.cel 1 rfl 2 _ rfl
  obtain ⟨q3, e3⟩ := ho.cel 1 rfl 3 _ rfl
  obtain ⟨q4, e4⟩ := ho.cel 1 rfl 4 _ rfl
  clear ho h5 h6 hq
  go_wp2
  refine leaves_cons (f := 49) (args := #[.pointer (some ⟨g, 0, none⟩), .pointer (some ⟨g + 1, 0, none⟩)]) (by simp) (by simp [go_sem]) ?_
  refine (catch_idle _ _ _).mono ?_
  rintro e u' w'' ⟨rfl, rfl, rfl⟩
  exact ⟨_, guard_results (H6.out) _ rfl rfl, .returned (.tuple #[]), R', 0, uz, (H6.out).drop.drop, HQ.out, .inl ⟨rfl, rfl, rfl⟩, rfl⟩
 ·refine leaves_cons (f := 49) (args := #[.pointer (some ⟨g, 0, none⟩), .pointer (some ⟨g + 1, 0, none⟩)]) (by simp) (by simp [go_sem]) ?_
  refine (catch_dry ho _).mono ?_
  rintro e u' w'' ⟨rfl, rfl, ho2⟩
  refine ⟨_, guard_results (ho2) _ rfl rfl, dry, R', 1, uz, ho2.drop.drop, hq, .inr (.inl ⟨rfl, rfl, rfl⟩), rfl⟩
 ·refine leaves_cons (f := 49) (args := #[.pointer (some ⟨g, 0, none⟩), .pointer (some ⟨g + 1, 0, none⟩)]) (by simp) (by simp [go_sem]) ?_
  refine (catch_unlike _ _ _ _ _ ho _).mono ?_
  rintro e u' w'' ⟨rfl, rfl, ho2⟩
  refine ⟨_, guard_results (ho2) _ rfl rfl, _, R', 2, _, ho2.drop.drop, hq, .inr (.inr ⟨i, kd, n, x, rfl, rfl, rfl⟩), rfl⟩
def evc (e : Ev) (ra : Option Addr) (rc : Nat) : List Value := [.int .i64 e.kind, .int .i64 e.M, .int .i64 e.G, .slice ra e.rd.length rc]
def LStep {sp : Nat} (D : Drw sp) (s : D.T) (X : Sd) (j : Nat) (e : Ev) (k : Int) (X' : Sd) (s' : D.T) : Prop :=
 (overM X ≠ 0 ∧ e = ⟨0, 0, 0, []⟩ ∧ k = 0 ∧ X' = X ∧ s' = s ∧ D.ok (j + 2) s) ∨
 (overM X = 0 ∧ D.ok j s' ∧ ((∃ m : Nat, ∃ v s1, m ≤ X.ms.length ∧ D.Dv s 1 ((X.ms.length : Int) + 1) (m : Int) s1 ∧ Fit D s1 (asks2 X m) v s' ∧ e = (stepM X m v).2 ∧ k = 0 ∧ X' = (stepM X m v).1) ∨
  (∃ r, (D.Dp s 1 ((X.ms.length : Int) + 1) r s' ∨ ∃ m : Nat, ∃ s1 kd n, m ≤ X.ms.length ∧ D.Dv s 1 ((X.ms.length : Int) + 1) (m : Int) s1 ∧ asks2 X m = some (kd, n) ∧ D.Dp s1 kd n r s') ∧ e = ⟨0, 0, 0, []⟩ ∧ (∃ u, Ended r k u) ∧ (k = 1 ∨ k = 2) ∧ X' = X)))
theorem perm_e1 {α : Type _} {e r s : α} {A Z : List α} : List.Perm (e :: r :: s :: (A ++ Z)) (A ++ (s :: e :: r :: Z)) :=
 (List.perm_middle (a := s) (l₁ := [e, r]) (l₂ := A ++ Z)).trans (List.perm_append_comm_assoc [s, e, r] A Z)
theorem perm_e2 {α : Type _} {a c r : α} {A Z : List α} : List.Perm (r :: (A ++ (a :: c :: Z))) (c :: r :: a :: (A ++ Z)) :=
 perm_five.trans (List.perm_middle (a := a) (l₁ := [c, r]) (l₂ := A ++ Z)).symm
theorem perm_e3 {α : Type _} {a c r : α} {A Z : List α} : List.Perm (r :: (A ++ (a :: c :: Z))) (A ++ (a :: c :: r :: Z)) :=
 perm_five.trans (List.perm_append_comm_assoc [a, c, r] A Z)
theorem lstep1_any {w0 w : World} {b sp bs be : Nat} {X : Sd} {Z : List Asr} {D : Drw sp} {s : D.T} {j B : Nat} (h : Own w0 w (SchA b sp X :: (D.A s ++ (CelA bs [.pointer (some ⟨b, 0, none⟩)] :: CelA be evz :: Z)))) (hok : D.ok (j + 2) s) (wf : SdWF B X) (hB : B ≤ 80000) (hen : EnOk X.W.en)
  (hpan : ∀ s kd n r s', D.Dp s kd n r s' → ∃ k u, Ended r k u ∧ (k = 1 ∨ k = 2)) :
  Calls Tryz.prog 32 #[.pointer (some ⟨bs, 0, none⟩), .pointer (some ⟨be, 0, none⟩)] w fun r w' => ∃ e ra rc k u X' s', LStep D s X j e k X' s' ∧ Ended r k u ∧
   Own w0 w' (SchA b sp X' :: (D.A s' ++ (CelA bs [.pointer (some ⟨b, 0, none⟩)] :: CelA be (evc e ra rc) :: RowGA 1 ra rc e.rd.length (intc e.rd) :: Z))) := by
 obtain ⟨L, h⟩ := h.sat
 have hg1 := wf.wf.g1
 have HX : Hid (∀ wx Y A, SAt w0 wx b sp L Y (A ++ (CelA bs [.pointer (some ⟨b, 0, none⟩)] :: CelA be evz :: Z)) → wx.cell? ⟨bs, 0, none⟩ = some (.pointer (some ⟨b, 0, none⟩))) := Lib.hid (fun wx Y A hx => ((hx.perm List.perm_middle).cel 0 _ rfl).1)
 have x0 := HX.out _ _ _ h
 by_cases hov : overM X = 0
 ·have hen0 : X.W.en = 0 := by
   unfold overM at hov
   rcases hen with e | e | e
   ·exact e
   ·rw [if_pos e] at hov; cases hov
   ·rw [if_neg (by omega), if_pos e] at hov; cases hov
  have HS := Lib.hid (step_any h hok wf hB hov hen0)
  have HOV := Lib.hid hov
  clear h hok wf hen hov hg1 hen0
  go_enter Tryz.func32, Tryz.ntmps32
  go_wp2_with fail
  refine HS.out.mono ?_
  rintro r w1 hp
  rcases hp with ⟨m, v, s1, s', ra, rc, hm, hdv, hf, ho, rfl, h1⟩ | ⟨ch, s', rfl, hd, ho, h1⟩
  ·have HL : Hid (LStep D s X j (stepM X m v).2 0 (stepM X m v).1 s') := Lib.hid (.inr ⟨HOV.out, ho, .inl ⟨m, v, s1, hm, hdv, hf, rfl, rfl, rfl⟩⟩)
   clear hm hdv hf ho HS HX
   generalize stepM X m v = st at *
   obtain ⟨Y, e⟩ := st
   simp only at h1 HL ⊢
   have h2 : SAt w0 w1 b sp L Y (CelA be evz :: RowGA 1 ra rc e.rd.length (intc e.rd) :: CelA bs [.pointer (some ⟨b, 0, none⟩)] :: (D.A s' ++ Z)) := h1.perm perm_e2
   have HE : Hid (∀ wx, SAt w0 wx b sp L Y (CelA be (evc e ra rc) :: RowGA 1 ra rc e.rd.length (intc e.rd) :: CelA bs [.pointer (some ⟨b, 0, none⟩)] :: (D.A s' ++ Z)) → ∃ e ra rc k u X' s', LStep D s X j e k X' s' ∧ Ended (.returned (.tuple #[])) k u ∧ Own w0 wx (SchA b sp X' :: (D.A s' ++ (CelA bs [.pointer (some ⟨b, 0, none⟩)] :: CelA be (evc e ra rc) :: RowGA 1 ra rc e.rd.length (intc e.rd) :: Z)))) := Lib.hid (fun wx hx => ⟨e, ra, rc, 0, uz, Y, s', HL.out, .inl ⟨rfl, rfl, rfl⟩, (hx.perm perm_e1).to⟩)
   clear HL h1
   obtain ⟨k0, M0, G0, rd⟩ := e
   unfold evV evc at *
   simp only at h2 HE ⊢
   generalize rd.length = N at *
   unfold evz at h2
   obtain ⟨z0, y0⟩ := h2.cel 0 _ rfl
   obtain ⟨z1, y1⟩ := h2.cel 1 _ rfl
   obtain ⟨z2, y2⟩ := h2.cel 2 _ rfl
   obtain ⟨z3, y3⟩ := h2.cel 3 _ rfl
   have h3 := (((h2.setBox 0 (.int .i64 k0)).setBox 1 (.int .i64 M0)).setBox 2 (.int .i64 G0)).setBox 3 (.slice ra N rc)
   have HR := Lib.hid (HE.out _ h3)
   clear h2 h3 HE
   go_wp2
   go_end0
   exact HR.out
  ·obtain ⟨k, u, he, hk⟩ : ∃ k u, Ended (.panicked ch) k u ∧ (k = 1 ∨ k = 2) := by
    rcases hd with hd | ⟨m, s1, kd, n, -, -, -, hd⟩
    ·exact hpan _ _ _ _ _ hd
    ·exact hpan _ _ _ _ _ hd
   refine ⟨rfl, ⟨0, 0, 0, []⟩, none, 0, k, u, X, s', .inr ⟨HOV.out, ho, .inr ⟨_, hd, rfl, ⟨u, he⟩, hk, rfl⟩⟩, he, ?_⟩
   exact (h1.nilRow.perm perm_e3).to
 ·have HS := Lib.hid (step_over h (by omega) hov)
  have HL : Hid (LStep D s X j ⟨0, 0, 0, []⟩ 0 X s) := Lib.hid (.inl ⟨hov, rfl, rfl, rfl, rfl, hok⟩)
  clear h hok wf hen hov hg1
  go_enter Tryz.func32, Tryz.ntmps32
  go_wp2_with fail
  refine HS.out.mono ?_
  rintro r w1 ⟨rfl, h1⟩
  have h2 : SAt w0 w1 b sp L X (CelA be evz :: RowGA 1 none 0 0 [] :: CelA bs [.pointer (some ⟨b, 0, none⟩)] :: (D.A s ++ Z)) := h1.nilRow.perm perm_e2
  unfold evz at h2
  unfold evV
  obtain ⟨z0, y0⟩ := h2.cel 0 _ rfl
  obtain ⟨z1, y1⟩ := h2.cel 1 _ rfl
  obtain ⟨z2, y2⟩ := h2.cel 2 _ rfl
  obtain ⟨z3, y3⟩ := h2.cel 3 _ rfl
  have h3 := (((h2.setBox 0 (.int .i64 0)).setBox 1 (.int .i64 0)).setBox 2 (.int .i64 0)).setBox 3 (.slice none 0 0)
  have HR := Lib.hid (h3.perm perm_e1).to
  clear h1 h2 h3 HS HX
  go_wp2
  go_end0
  exact ⟨⟨0, 0, 0, []⟩, none, 0, 0, uz, X, s, HL.out, .inl ⟨rfl, rfl, rfl⟩, HR.out⟩
theorem perm_l1 {α : Type _} {S q e r z : α} {A R : List α} : List.Perm (S :: (A ++ (q :: e :: r :: z :: R))) (e :: z :: q :: r :: S :: (A ++ R)) := by
 refine ((List.perm_append_comm_assoc A [q, e, r, z] R).cons S).trans ?_
 refine (List.perm_append_comm_assoc [S] [q, e, r, z] (A ++ R)).trans ?_
 show List.Perm (q :: e :: r :: z :: (S :: (A ++ R))) _
 exact (List.Perm.swap _ _ _).trans (List.Perm.cons _ ((List.Perm.cons _ (List.Perm.swap _ _ _)).trans (List.Perm.swap _ _ _)))
theorem ended_inj {r : Ending} {k k' : Int} {u u' : List Value} (h : Ended r k u) (h' : Ended r k' u') : k = k' := by
 rcases h with ⟨rfl, rfl, rfl⟩ | ⟨rfl, rfl, rfl⟩ | ⟨i, kd, n, x, rfl, rfl, rfl⟩
 ·rcases h' with ⟨-, rfl, rfl⟩ | ⟨e, -, -⟩ | ⟨i', kd', n', x', e, -, -⟩
  ·rfl
  ·cases e
  ·cases e
 ·rcases h' with ⟨e, -, -⟩ | ⟨-, rfl, rfl⟩ | ⟨i', kd', n', x', e, -, -⟩
  ·cases e
  ·rfl
  ·exact absurd e (by unfold dry strayed; simp)
 ·rcases h' with ⟨e, -, -⟩ | ⟨e, -, -⟩ | ⟨i', kd', n', x', e, rfl, -⟩
  ·cases e
  ·exact absurd e.symm (by unfold dry strayed; simp)
  ·rfl
theorem lstep_results {w : World} {q : Nat} {a b c k : Int} {ra : Option Addr} {n rc : Nat} (e0 : w.cell? ⟨q, 0, none⟩ = some (.int .i64 a)) (e1 : w.cell? ⟨q, 1, none⟩ = some (.int .i64 b)) (e2 : w.cell? ⟨q, 2, none⟩ = some (.int .i64 c)) (e3 : w.cell? ⟨q, 3, none⟩ = some (.slice ra n rc)) (tmps : Array Value) (h2 : tmps.getD 2 undef = .pointer (some ⟨q, 0, none⟩)) (h3 : tmps.getD 3 undef = .int .i64 k) :
  (results Tryz.f13 tmps).run Tryz.prog w = .ok (.tuple #[.agg #[.int .i64 a, .int .i64 b, .int .i64 c, .slice ra n rc], .int .i64 k]) w := by
 have h2' : tmps[2]?.getD undef = .pointer (some ⟨q, 0, none⟩) := by simpa using h2
 have h3' : tmps[3]?.getD undef = .int .i64 k := by simpa using h3
 simp [results, Tryz.results13, go_sem, h2', h3', asAddr, e0, e1, e2, e3]
theorem lstep_any {w0 w : World} {b sp : Nat} {X : Sd} {R : List Asr} {D : Drw sp} {s : D.T} {j B : Nat} (h : Own w0 w (SchA b sp X :: (D.A s ++ R))) (hok : D.ok (j + 2) s) (wf : SdWF B X) (hB : B ≤ 80000) (hen : EnOk X.W.en)
  (hpan : ∀ s kd n r s', D.Dp s kd n r s' → ∃ k u, Ended r k u ∧ (k = 1 ∨ k = 2)) :
  Calls Tryz.prog 13 #[.pointer (some ⟨b, 0, none⟩)] w fun r w' => ∃ e ra rc k X' s', LStep D s X j e k X' s' ∧ r = .returned (.tuple #[evV e ra rc, .int .i64 k]) ∧
   Own w0 w' (RowGA 1 ra rc e.rd.length (intc e.rd) :: SchA b sp X' :: (D.A s' ++ R)) := by
 have hmf : ∀ (fn : Fn) (first cap : Array Value) (w : World), (Instr.makeFunc fn first cap).run Tryz.prog w = .ok (.func fn first cap) w := fun _ _ _ _ => rfl
 have en : ∀ (args : Array Value) (w : World), (callFunc 32 args).run Tryz.prog w = .ok (.enter 32 args) w := fun _ _ => by kernel_rfl
 have h1 := h.alloc [.pointer (some ⟨b, 0, none⟩)] 35 (b := w.heap.size) rfl
 have h2 := h1.alloc evz 46 (b := w.heap.size + 1) (by simp)
 have h3 := h2.alloc evz 46 (b := w.heap.size + 1 + 1) (by simp)
 have H3 := Lib.hid h3
 have HG := Lib.hid (fun (wx : World) (bs be : Nat) (Z : List Asr) (hx : Own w0 wx (SchA b sp X :: (D.A s ++ (CelA bs [.pointer (some ⟨b, 0, none⟩)] :: CelA be evz :: Z)))) => guard_any hx 32 #[.pointer (some ⟨bs, 0, none⟩), .pointer (some ⟨be, 0, none⟩)] en
  (fun r R' => ∃ e ra rc k u X' s', LStep D s X j e k X' s' ∧ Ended r k u ∧ R' = (SchA b sp X' :: (D.A s' ++ (CelA bs [.pointer (some ⟨b, 0, none⟩)] :: CelA be (evc e ra rc) :: RowGA 1 ra rc e.rd.length (intc e.rd) :: Z))))
  (fun w1 g h1 => by
   have h2 : Own w0 w1 (SchA b sp X :: (D.A s ++ (CelA bs [.pointer (some ⟨b, 0, none⟩)] :: CelA be evz :: CelA g [.int .i64 0] :: CelA (g + 1) uz :: Z))) := h1.perm (by
    refine (List.perm_append_comm_assoc [CelA g [.int .i64 0], CelA (g + 1) uz] [SchA b sp X] _).trans (List.Perm.cons _ ?_)
    refine (List.perm_append_comm_assoc [CelA g [.int .i64 0], CelA (g + 1) uz] (D.A s) _).trans (List.Perm.append_left _ ?_)
    exact List.perm_append_comm_assoc [CelA g [.int .i64 0], CelA (g + 1) uz] [CelA bs _, CelA be evz] Z)
   refine (lstep1_any h2 hok wf hB hen hpan).mono (fun r w2 hh => ?_)
   obtain ⟨e, ra, rc, k, u, X', s', hl, he, ho⟩ := hh
   refine ⟨_, k, u, ho.perm ?_, ⟨e, ra, rc, k, u, X', s', hl, he, rfl⟩, he⟩
   refine List.Perm.symm ?_
   refine (List.perm_append_comm_assoc [CelA g [.int .i64 0], CelA (g + 1) uz] [SchA b sp X'] _).trans (List.Perm.cons _ ?_)
   refine (List.perm_append_comm_assoc [CelA g [.int .i64 0], CelA (g + 1) uz] (D.A s') _).trans (List.Perm.append_left _ ?_)
   exact List.perm_append_comm_assoc [CelA g [.int .i64 0], CelA (g + 1) uz] [CelA bs _, CelA be _, RowGA 1 ra rc e.rd.length (intc e.rd)] Z))
 clear h h1 h2 h3 hok wf hen hpan
 unfold evV
 go_enter Tryz.func13, Tryz.ntmps13
 go_wp2_with fail
 have hG := HG.out _ w.heap.size (w.heap.size + 1 + 1) (CelA (w.heap.size + 1) evz :: R) (H3.out.perm (by
  refine (List.perm_append_comm_assoc [CelA (w.heap.size + 1 + 1) evz, CelA (w.heap.size + 1) evz, CelA w.heap.size _] [SchA b sp X] _).trans (List.Perm.cons _ ?_)
  refine (List.perm_append_comm_assoc [CelA (w.heap.size + 1 + 1) evz, CelA (w.heap.size + 1) evz, CelA w.heap.size _] (D.A s) _).trans (List.Perm.append_left _ ?_)
  exact (pick_perm _ 2 _ rfl).trans (List.Perm.refl _)))
 refine hG.mono ?_
 rintro r w1 ⟨rr, R', k, u, ho, ⟨e, ra, rc, k', u', X', s', hl, he', rfl⟩, he, rfl⟩
 obtain rfl := ended_inj he he'
 obtain ⟨a0, a1, a2, a3, a4, rfl⟩ := len5 he
 clear he he' hG H3 HG
 generalize w.heap.size = q at *
 have h5 := (ho.perm perm_l1).step (below_alloc1 w1 (.cells (uv a0 a1 a2 a3 a4).toArray 101))
 have HL := Lib.hid hl
 obtain ⟨k0, M0, G0, rd⟩ := e
 unfold evc at h5
 unfold evz at h5
 unfold uv at h5 ⊢
 simp only at h5
 have HE : Hid (∀ wx rr, rr = Ending.returned (.tuple #[.agg #[.int .i64 k0, .int .i64 M0, .int .i64 G0, .slice ra rd.length rc], .int .i64 k]) → Own w0 wx (RowGA 1 ra rc rd.length (intc rd) :: SchA b sp X' :: (D.A s' ++ R)) → ∃ e ra rc k X' s', LStep D s X j e k X' s' ∧ rr = .returned (.tuple #[.agg #[.int .i64 e.kind, .int .i64 e.M, .int .i64 e.G, .slice ra e.rd.length rc], .int .i64 k]) ∧
   Own w0 wx (RowGA 1 ra rc e.rd.length (intc e.rd) :: SchA b sp X' :: (D.A s' ++ R))) := Lib.hid (fun wx rr e hx => ⟨⟨k0, M0, G0, rd⟩, ra, rc, k, X', s', HL.out, e, hx⟩)
 generalize rd.length = N at *
 clear ho hl HL
 go_upto_region 3 with fail
 generalize w1.alloc (.cells [.int .i64 a0, .int .i64 a1, .int .i64 a2, .int .i64 a3, .int .u64 a4].toArray 101) = w2 at *
 have c0 := (h5.cel 0 rfl 0 _ rfl).1
 have c1 := (h5.cel 0 rfl 1 _ rfl).1
 have c2 := (h5.cel 0 rfl 2 _ rfl).1
 have c3 := (h5.cel 0 rfl 3 _ rfl).1
 obtain ⟨z0, y0⟩ := h5.cel 1 rfl 0 _ rfl
 obtain ⟨z1, y1⟩ := h5.cel 1 rfl 1 _ rfl
 obtain ⟨z2, y2⟩ := h5.cel 1 rfl 2 _ rfl
 obtain ⟨z3, y3⟩ := h5.cel 1 rfl 3 _ rfl
 have h6 := (((h5.setAt 1 rfl 0 (.int .i64 k0)).setAt 1 rfl 1 (.int .i64 M0)).setAt 1 rfl 2 (.int .i64 G0)).setAt 1 rfl 3 (.slice ra N rc)
 have RS := lstep_results (k := k) (h6.cel 1 rfl 0 _ rfl).1 (h6.cel 1 rfl 1 _ rfl).1 (h6.cel 1 rfl 2 _ rfl).1 (h6.cel 1 rfl 3 _ rfl).1
 have HR := Lib.hid (HE.out _ _ rfl h6.drop.drop.drop)
 clear h5 h6 HE
 go_wp2
 exact bodyPost_ret (RS _ rfl rfl) rfl HR.out
def itM : Sd → List Nat → Sd
 | X, [] => X
 | X, p :: t => itM (stepM X p 0).1 t
def okM : Sd → List Nat → Bool
 | X, [] => true
 | X, p :: t => (decide (p ≤ X.ms.length) && (decide (asks2 X p = none) && (decide (overM X = 0) && (decide (X.W.en = 0) && decide (X.W.ks = []))))) && okM (stepM X p 0).1 t
theorem itM_app : ∀ (a c : List Nat) (X : Sd), itM X (a ++ c) = itM (itM X a) c
 | [], c, X => rfl
 | p :: t, c, X => itM_app t c _
theorem okM_app : ∀ (a c : List Nat) (X : Sd), okM X (a ++ c) = (okM X a && okM (itM X a) c)
 | [], c, X => rfl
 | p :: t, c, X => by
  show (_ && okM _ (t ++ c)) = ((_ && okM _ t) && _)
  rw [okM_app t c, ← Bool.and_assoc]
  rfl
theorem okM_at {X : Sd} {l : List Nat} (h : okM X l = true) {i p : Nat} (hi : l[i]? = some p) :
  let Y := itM X (l.take i); p ≤ Y.ms.length ∧ asks2 Y p = none ∧ overM Y = 0 ∧ Y.W.en = 0 ∧ itM X (l.take (i + 1)) = (stepM Y p 0).1 := by
 have hl := (List.getElem?_eq_some_iff.1 hi).1
 have e : l = l.take i ++ p :: l.drop (i + 1) := by
  have h1 := (List.getElem?_eq_some_iff.1 hi).2
  rw [← h1, List.getElem_cons_drop, List.take_append_drop]
 have e2 : l.take (i + 1) = l.take i ++ [p] := by rw [List.take_add_one, hi]; rfl
 intro Y
 rw [e, okM_app] at h
 simp only [okM, Bool.and_eq_true, decide_eq_true_eq] at h
 exact ⟨h.2.1.1, h.2.1.2.1, h.2.1.2.2.1, h.2.1.2.2.2.1, by rw [e2, itM_app]; rfl⟩
theorem SdWF.its : ∀ (l : List Nat) {B : Nat} {X : Sd}, SdWF B X → okM X l = true → B + l.length ≤ 80000 → SdWF (B + l.length) (itM X l)
 | [], B, X, h, _, _ => h
 | p :: t, B, X, h, ho, hB => by
  simp only [okM, Bool.and_eq_true, decide_eq_true_eq] at ho
  simp only [List.length_cons] at hB
  have h1 := h.step (by omega) ho.1.1 ho.1.2.2.2.1 (d := 0) (fun k n e => by rw [ho.1.2.1] at e; cases e)
  rw [ho.1.2.2.2.2] at h1
  have h2 := SdWF.its t h1 ho.2 (by simp; omega)
  have e : B + (p :: t).length = B + ([] : List Cs3).length + 1 + t.length := by simp; omega
  rw [e]
  exact h2
theorem okM_take {X : Sd} {l : List Nat} (h : okM X l = true) (i : Nat) : okM X (l.take i) = true := by
 have h2 := h
 rw [← List.take_append_drop i l, okM_app, Bool.and_eq_true] at h2
 exact h2.1
theorem LStep.pick {sp : Nat} {S : Src} {X : Sd} {j : Nat} {e : Ev} {k : Int} {X' : Sd} {s' : Src} (h : LStep (srcD sp 0) S X j e k X' s') (ht : S.tape = []) (hlt : S.taken.length < S.nums.length) (hov : overM X = 0) (m : Nat) (hm : m = S.nums.getD S.taken.length 0 % (X.ms.length + 1)) (ha : asks2 X m = none) :
  e = (stepM X m 0).2 ∧ k = 0 ∧ X' = (stepM X m 0).1 ∧ s' = S.take 1 m := by
 have hmany : S.many = S.nums.length := by unfold Src.many; rw [ht]; simp
 have hd := oracle_draw ht 1 (X.ms.length + 1) (by omega)
 rw [← hm] at hd
 have hd' : drawAt S S.taken.length 1 (cnt ((X.ms.length : Int) + 1)) = some m := hd
 have hdv : ∀ (m' : Nat) s1, (srcD sp 0).Dv S 1 ((X.ms.length : Int) + 1) (m' : Int) s1 → m' = m ∧ s1 = S.take 1 m := fun m' s1 hh => by
  obtain ⟨-, u, e1, e2, e3⟩ := hh
  rw [hd'] at e2
  cases e2
  exact ⟨by omega, e3⟩
 rcases h with ⟨h0, -⟩ | ⟨-, -, ⟨m', v, s1, h1, h2, h3, h4, h5, h6⟩ | ⟨r, h2, -⟩⟩
 ·exact absurd hov h0
 ·obtain ⟨rfl, rfl⟩ := hdv _ _ h2
  rcases h3 with ⟨-, rfl, rfl⟩ | ⟨k, n, e, -⟩
  ·exact ⟨h4, h5, h6, rfl⟩
  ·rw [ha] at e; cases e
 ·rcases h2 with h2 | ⟨m', s1, kd, n, -, k1, k2, -⟩
  ·obtain ⟨-, h2⟩ := h2
   rcases h2 with ⟨e, -⟩ | ⟨-, e, -⟩
   ·omega
   ·rw [hd'] at e; cases e
  ·obtain ⟨rfl, -⟩ := hdv _ _ k1
   rw [ha] at k2; cases k2
theorem LStep.pick2 {sp : Nat} {S : Src} {X : Sd} {j : Nat} {e : Ev} {k : Int} {X' : Sd} {s' : Src} (h : LStep (srcD sp 0) S X j e k X' s') (ht : S.tape = []) (hlt : S.taken.length + 1 < S.nums.length) (hov : overM X = 0) (m : Nat) (hm : m = S.nums.getD S.taken.length 0 % (X.ms.length + 1)) {kd : Int} {n : Nat} (hn : 1 ≤ n) (ha : asks2 X m = some (kd, (n : Int))) (v : Nat) (hv : v = S.nums.getD (S.taken.length + 1) 0 % n) :
  e = (stepM X m v).2 ∧ k = 0 ∧ X' = (stepM X m v).1 ∧ s' = (S.take 1 m).take kd v := by
 have hmany : S.many = S.nums.length := by unfold Src.many; rw [ht]; simp
 have hd := oracle_draw ht 1 (X.ms.length + 1) (by omega)
 rw [← hm] at hd
 have hd' : drawAt S S.taken.length 1 (cnt ((X.ms.length : Int) + 1)) = some m := hd
 have hdv : ∀ (m' : Nat) s1, (srcD sp 0).Dv S 1 ((X.ms.length : Int) + 1) (m' : Int) s1 → m' = m ∧ s1 = S.take 1 m := fun m' s1 hh => by
  obtain ⟨-, u, e1, e2, e3⟩ := hh
  rw [hd'] at e2
  cases e2
  exact ⟨by omega, e3⟩
 have hl1 : (S.take 1 m).taken.length = S.taken.length + 1 := by simp [Src.take]
 have hd2 := oracle_draw (S := S.take 1 m) ht kd n hn
 rw [hl1, show (S.take 1 m).nums = S.nums from rfl, ← hv] at hd2
 rcases h with ⟨h0, -⟩ | ⟨-, -, ⟨m', v', s1, h1, h2, h3, h4, h5, h6⟩ | ⟨r, h2, -⟩⟩
 ·exact absurd hov h0
 ·obtain ⟨rfl, rfl⟩ := hdv _ _ h2
  rcases h3 with ⟨e, -⟩ | ⟨k, n', e, -, -, u, e1, e2, e3⟩
  ·rw [ha] at e; cases e
  ·rw [ha] at e
   cases e
   rw [hl1, hd2] at e2
   cases e2
   subst e1
   exact ⟨h4, h5, h6, e3⟩
 ·rcases h2 with h2 | ⟨m', s1, kd', n', -, k1, k2, k3⟩
  ·obtain ⟨-, h2⟩ := h2
   rcases h2 with ⟨e, -⟩ | ⟨-, e, -⟩
   ·omega
   ·rw [hd'] at e; cases e
  ·obtain ⟨rfl, rfl⟩ := hdv _ _ k1
   rw [ha] at k2
   cases k2
   obtain ⟨-, k3⟩ := k3
   rcases k3 with ⟨e, -⟩ | ⟨-, e, -⟩
   ·rw [hl1] at e
    have : (S.take 1 m').many = S.many := rfl
    omega
   ·rw [hl1, hd2] at e; cases e
theorem itM_ms : ∀ (l : List Nat) (X : Sd), (itM X l).ms.length = X.ms.length
 | [], X => rfl
 | p :: t, X => (itM_ms t _).trans (ms_pick X p 0)
def orS (nums pk : List Nat) : Src := ⟨[], nums, pk.map fun p => ((1 : Int), p)⟩
theorem orS_take (nums pk : List Nat) (p : Nat) : (orS nums pk).take 1 p = orS nums (pk ++ [p]) := by simp [orS, Src.take]
theorem orS_ok (sp : Nat) {nums pk : List Nat} {j : Nat} (hn : ∀ n ∈ nums, n < 18446744073709551616) (hl : pk.length ≤ nums.length) (hm : nums.length ≤ 1000000) (hj : pk.length + j ≤ 1000001) : (srcD sp 0).ok j (orS nums pk) := by
 have e1 : (orS nums pk).many = nums.length := by simp [orS, Src.many]
 have e2 : (orS nums pk).taken.length = pk.length := by simp [orS]
 refine ⟨⟨fun r hr => by simp [orS] at hr, hn⟩, (by first | exact ⟨fun _ => rfl, (fun e => by cases e), by omega⟩ | exact ⟨fun _ => rfl, fun e => by cases e⟩), by rw [e1]; omega, by rw [e1, e2]; exact hl, by rw [e2]; exact hj⟩
theorem srcD_pan (sp : Nat) : ∀ (s : (srcD sp 0).T) (kd n : Int) (r : Ending) (s' : (srcD sp 0).T), (srcD sp 0).Dp s kd n r s' → ∃ k u, Ended r k u ∧ (k = 1 ∨ k = 2) := by
 rintro s kd n r s' ⟨-, h | h⟩
 ·exact ⟨1, uz, .inr (.inl ⟨h.2, rfl, rfl⟩), .inl rfl⟩
 ·exact ⟨2, _, .inr (.inr ⟨_, _, _, _, h.2.2, rfl, rfl⟩), .inr rfl⟩
theorem pk_step {w0 w : World} {b sp : Nat} {X0 : Sd} {nums pk : List Nat} {R : List Asr} {k p : Nat} (h : Own w0 w (SchA b sp (itM X0 (pk.take k)) :: SrcA sp 0 (orS nums (pk.take k)) .nilFunc :: R)) (wf : SdWF 0 X0) (ok : okM X0 pk = true) (hk : pk[k]? = some p)
  (hp : p = nums.getD k 0 % (X0.ms.length + 1)) (hkn : k < nums.length) (hn : ∀ n ∈ nums, n < 18446744073709551616) (hm : nums.length ≤ 70000) :
  Calls Tryz.prog 13 #[.pointer (some ⟨b, 0, none⟩)] w fun r w' => ∃ ra rc, r = .returned (.tuple #[evV (stepM (itM X0 (pk.take k)) p 0).2 ra rc, .int .i64 0]) ∧
   Own w0 w' (SchA b sp (itM X0 (pk.take (k + 1))) :: SrcA sp 0 (orS nums (pk.take (k + 1))) .nilFunc :: R) := by
 have hkl := (List.getElem?_eq_some_iff.1 hk).1
 obtain ⟨q1, q2, q3, q4, q5⟩ := okM_at ok hk
 have etl : (pk.take k).length = k := by rw [List.length_take]; omega
 have hwf := SdWF.its (pk.take k) wf (okM_take ok k) (by omega)
 refine (lstep_any (D := srcD sp 0) (s := orS nums (pk.take k)) (R := R) (j := 0) h (orS_ok sp hn (by omega) (by omega) (by omega)) hwf (by omega) (.inl q4) (srcD_pan sp)).mono (fun r w' hh => ?_)
 obtain ⟨e, ra, rc, kk, X', s', hl, rfl, ho⟩ := hh
 have e2 : (orS nums (pk.take k)).taken.length = k := by simp [orS]; omega
 obtain ⟨rfl, rfl, rfl, rfl⟩ := LStep.pick hl rfl (by rw [e2]; exact hkn) q3 p (by rw [e2, itM_ms]; exact hp) q2
 refine ⟨ra, rc, rfl, ?_⟩
 rw [orS_take] at ho
 rw [q5, List.take_add_one, hk]
 exact ho.drop
def stMain (n : Nat) : List In4 := List.replicate n (11, 1, 0, 1) ++ [(7, (n : Int), 0, 0)]
def stFs (n : Nat) : List (List In4) := [stMain n, [(10, 0, 0, 0)]]
def stX0 (n : Nat) : Sd := newSd (newM (stFs n) [] [] 0) 2 2 64 1000
def stPk (n : Nat) : List Nat := List.replicate (n + 2) 0 ++ [1]
def stNum (n : Nat) : List Nat := List.replicate (n + 2) 0 ++ [1, 1, 0]
def stX (n : Nat) : Sd := itM (stX0 n) (stPk n)
def stRow (a k : Nat) : List Int := (List.range k).map fun i => ((a + i : Nat) : Int)
def stEnd (n : Nat) (X : Sd) : Bool :=
 decide (asks2 X 1 = some (2, 2)) && (decide (overM X = 0) && (decide (X.W.en = 0) && (decide ((stepM X 1 0).2.kind = 5 ∧ (stepM X 1 0).2.M = 1 ∧ (stepM X 1 0).2.G = 1 ∧ (stepM X 1 0).2.rd = []) &&
  (decide ((stepM X 1 0).1.ps.length = 2 ∧ (stepM X 1 0).1.ms.length = 2 ∧ ((stepM X 1 0).1.p 1).q.l = stRow 2 (n / 2 - 1) ∧ ((stepM X 1 0).1.p 0).q.l = stRow (n / 2 + 1) (n - 1 - n / 2)) &&
   decide (((stepM X 1 0).1.p 0).q.nx = some (n : Int) ∧ ((stepM X 1 0).1.p 1).tu = 1 ∧ ((stepM X 1 0).1.m 1).G = 1 ∧ X.ms.length = 2)))))
def stOk (n : Nat) : Bool := okM (stX0 n) (stPk n) && stEnd n (stX n)
theorem st_all : ∀ n, n < 29 → stOk (n + 2) = true := by decide +kernel
def stGood (n : Nat) : Bool := (stFs n).all fun l => l.all fun x => decide (0 ≤ x.1 ∧ goodB (stFs n).length 0 ([] : List Cs3).length ((0 : Nat) : Int) l.length x = some true)
theorem st_good : ∀ n, n < 29 → stGood (n + 2) = true := by decide +kernel
theorem st_pw {n : Nat} (h : stGood n = true) (hn : n ≤ 40) : PW (stFs n) [] ([] : List Int).length 0 := by
 have e : (stMain n).length = n + 1 := by simp [stMain]
 refine ⟨by show 1 ≤ 2 ∧ 2 ≤ 1000; omega, fun l hl => ?_, fun l hl x hx => ?_, by decide, fun k hk => by simp at hk, by decide, by decide⟩
 ·simp [stFs] at hl
  rcases hl with rfl | rfl
  ·omega
  ·decide
 ·have h1 := List.all_eq_true.1 h l hl
  have h2 := List.all_eq_true.1 h1 x hx
  simpa using h2
theorem st_num {n k : Nat} (hk : k < n + 3) : ∃ p, (stPk n)[k]? = some p ∧ p = (stNum n).getD k 0 % (2 + 1) := by
 unfold stPk stNum
 rw [List.getD_eq_getElem?_getD]
 by_cases h : k < n + 2
 ·rw [List.getElem?_append_left (by simp; exact h), List.getElem?_append_left (by simp; exact h), List.getElem?_replicate, if_pos h]
  exact ⟨0, rfl, rfl⟩
 ·obtain rfl : k = n + 2 := by omega
  rw [List.getElem?_append_right (by simp), List.getElem?_append_right (by simp)]
  simp
theorem st_num64 (n : Nat) : ∀ x ∈ stNum n, x < 18446744073709551616 := fun x hx => by
 simp [stNum] at hx
 omega
theorem stPk_len (n : Nat) : (stPk n).length = n + 3 := by simp [stPk]
theorem stNum_len (n : Nat) : (stNum n).length = n + 5 := by simp [stNum]
structure StOk (n : Nat) : Prop where
 wf : SdWF 0 (stX0 n)
 ok : okM (stX0 n) (stPk n) = true
 fin : stEnd n (stX n) = true
 le : 2 ≤ n ∧ n ≤ 30
theorem st_ok (n : Nat) (h : n < 29) : StOk (n + 2) := by
 have h1 := st_all n h
 unfold stOk at h1
 rw [Bool.and_eq_true] at h1
 exact ⟨newSd_wf (rooms := []) (st_pw (st_good n h) (by omega)) (by omega) (by omega) (by omega), h1.1, h1.2, by omega⟩
theorem stl_step {w0 w : World} {b sp n k : Nat} {R : List Asr} (hs : StOk n) (hk : k < n + 3) (h : Own w0 w (SchA b sp (itM (stX0 n) ((stPk n).take k)) :: SrcA sp 0 (orS (stNum n) ((stPk n).take k)) .nilFunc :: R)) :
  Calls Tryz.prog 13 #[.pointer (some ⟨b, 0, none⟩)] w fun r w' => ∃ kk mm gg rn ra rc, r = .returned (.tuple #[.agg #[.int .i64 kk, .int .i64 mm, .int .i64 gg, .slice ra rn rc], .int .i64 0]) ∧
   Own w0 w' (SchA b sp (itM (stX0 n) ((stPk n).take (k + 1))) :: SrcA sp 0 (orS (stNum n) ((stPk n).take (k + 1))) .nilFunc :: R) := by
 obtain ⟨p, h1, h2⟩ := st_num hk
 refine (pk_step h hs.wf hs.ok h1 h2 (by rw [stNum_len]; omega) (st_num64 n) (by rw [stNum_len]; have := hs.le; omega)).mono (fun r w' hh => ?_)
 obtain ⟨ra, rc, rfl, ho⟩ := hh
 exact ⟨_, _, _, _, ra, rc, rfl, ho⟩
def stZ (n : Nat) : Sd := (stepM (stX n) 1 0).1
structure StFin (n : Nat) : Prop where
 ps : (stZ n).ps.length = 2
 ms : (stZ n).ms.length = 2
 l1 : ((stZ n).p 1).q.l = stRow 2 (n / 2 - 1)
 l0 : ((stZ n).p 0).q.l = stRow (n / 2 + 1) (n - 1 - n / 2)
 nx : ((stZ n).p 0).q.nx = some (n : Int)
 tu : ((stZ n).p 1).tu = 1
 g : ((stZ n).m 1).G = 1
theorem st_last {w0 w : World} {b sp n : Nat} {R : List Asr} (hs : StOk n) (h : Own w0 w (SchA b sp (itM (stX0 n) ((stPk n).take (n + 3))) :: SrcA sp 0 (orS (stNum n) ((stPk n).take (n + 3))) .nilFunc :: R)) :
  StFin n ∧ Calls Tryz.prog 13 #[.pointer (some ⟨b, 0, none⟩)] w fun r w' => ∃ ra rc S', r = .returned (.tuple #[.agg #[.int .i64 5, .int .i64 1, .int .i64 1, .slice ra 0 rc], .int .i64 0]) ∧
   Own w0 w' (SchA b sp (stZ n) :: SrcA sp 0 S' .nilFunc :: R) := by
 have hf := hs.fin
 have hwf := SdWF.its (stPk n) hs.wf hs.ok (by rw [stPk_len]; have := hs.le; omega)
 rw [show (stPk n).take (n + 3) = stPk n from List.take_of_length_le (by rw [stPk_len]; omega)] at h
 change SdWF _ (stX n) at hwf
 change Own w0 w (SchA b sp (stX n) :: _) at h
 unfold stEnd at hf
 simp only [Bool.and_eq_true, decide_eq_true_eq] at hf
 obtain ⟨f1, f2, f3, ⟨f4, f5, f6, f7⟩, ⟨f8, f9, f10, f11⟩, f12, f13, f14, f15⟩ := hf
 refine ⟨⟨f8, f9, f10, f11, f12, f13, f14⟩, ?_⟩
 have hle := hs.le
 refine (lstep_any (D := srcD sp 0) (s := orS (stNum n) (stPk n)) (R := R) (j := 0) h (orS_ok sp (st_num64 n) (by rw [stPk_len, stNum_len]; omega) (by rw [stNum_len]; omega) (by rw [stPk_len]; omega)) hwf (by rw [stPk_len]; omega) (.inl f3) (srcD_pan sp)).mono (fun r w' hh => ?_)
 obtain ⟨e, ra, rc, kk, X', s', hl, rfl, ho⟩ := hh
 have e2 : (orS (stNum n) (stPk n)).taken.length = n + 3 := by simp [orS, stPk_len]
 obtain ⟨rfl, rfl, rfl, rfl⟩ := LStep.pick2 hl rfl (by rw [e2]; show _ < (stNum n).length; rw [stNum_len]; omega) f2 1 (by
  rw [e2, f15]; show 1 = (stNum n).getD (n + 3) 0 % 3
  unfold stNum
  rw [List.getD_eq_getElem?_getD, List.getElem?_append_right (by simp)]; simp) (n := 2) (by omega) f1 0 (by
  rw [e2]; show 0 = (stNum n).getD (n + 3 + 1) 0 % 2
  unfold stNum
  rw [List.getD_eq_getElem?_getD, List.getElem?_append_right (by simp)]; simp)
 refine ⟨ra, rc, _, ?_, ho.drop⟩
 unfold evV
 rw [show ((0 : Nat) : Int) = 0 from rfl, f4, f5, f6, f7]
 rfl
theorem zip_snoc {α β : Type} : ∀ (rs : List α) (ps : List β) (r : α) (p : β), ps[rs.length]? = some p → List.zip (rs ++ [r]) ps = List.zip rs ps ++ [(r, p)]
 | [], [], r, p, h => by simp at h
 | [], q :: ps, r, p, h => by simp at h; subst h; simp
 | x :: rs, [], r, p, h => by simp at h
 | x :: rs, y :: ps, r, p, h => by
  have := zip_snoc rs ps r p (by simpa using h)
  simp [this]
def pvc (x : Nat × Pm) : List Value := [.int .i64 x.2.q.num, .slice (some ⟨x.1, 0, none⟩) x.2.q.l.length x.2.q.l.length, .int .i64 (x.2.tu : Int), .int .i64 x.2.by_]
def pvs (rs : List Nat) (ps : List Pm) : List Value := (List.zip rs ps).flatMap pvc
def prs (rs : List Nat) (ps : List Pm) : List Asr := (List.zip rs ps).map fun x => RowA (some ⟨x.1, 0, none⟩) x.2.q.l.length x.2.q.l
theorem pvs_snoc {rs : List Nat} {ps : List Pm} {r : Nat} {p : Pm} (h : ps[rs.length]? = some p) : pvs (rs ++ [r]) ps = pvs rs ps ++ pvc (r, p) := by simp [pvs, zip_snoc rs ps r p h]
theorem prs_snoc {rs : List Nat} {ps : List Pm} {r : Nat} {p : Pm} (h : ps[rs.length]? = some p) : prs (rs ++ [r]) ps = prs rs ps ++ [RowA (some ⟨r, 0, none⟩) p.q.l.length p.q.l] := by simp [prs, zip_snoc rs ps r p h]
theorem pvs_len {rs : List Nat} {ps : List Pm} (h : rs.length ≤ ps.length) : (pvs rs ps).length = rs.length * 4 := by
 unfold pvs
 rw [flat_len _ 4 (fun _ => rfl) _]
 simp; omega
theorem info_pshow : (Tryz.prog.info? 64).map (fun i => (i.zero, i.size, i.bytes)) = some (some (.agg #[.int .i64 0, .slice none 0 0, .int .i64 0, .int .i64 0]), 4, 48) := by kernel_rfl
section
variable {w0 w : World} {b sp : Nat} {L : Sl} {X : Sd} {R : List Asr}
theorem SAt.addRow {w' : World} {a : Option Addr} {cap : Nat} {l : List Int} (h : SAt w0 w b sp L X R) (hb : Below w.heap.size w w') (hr : RowAt w' a cap l) (hf : ∀ x ∈ blk a, w.heap.size ≤ x) : SAt w0 w' b sp L X (RowA a cap l :: R) := by
 obtain ⟨Q, k1, k2⟩ := h.tail
 exact k2 _ (RowA a cap l :: R) (Own.newRow k1 hb hr hf)
theorem SAt.rowTurn {w' : World} {s n n' cap cap' : Nat} {a a' : Option Addr} {cs cs' : List Value} (h : SAt w0 w b sp L X (RowGA s a cap n cs :: R)) (hr : RowG s w' a' cap' n' cs') (c : Chg (blk a) w w') (hf : ∀ x ∈ blk a', x ∈ blk a ∨ w.heap.size ≤ x) : SAt w0 w' b sp L X (RowGA s a' cap' n' cs' :: R) := by
 obtain ⟨Q, k1, k2⟩ := h.tail
 exact k2 _ (RowGA s a' cap' n' cs' :: R) (Own.rowTurn (As := R ++ Q) k1 hr c hf)
theorem SAt.rowN {s n cap : Nat} {a : Option Addr} {cs : List Value} (h : SAt w0 w b sp L X (RowGA s a cap n cs :: R)) : RowG s w a cap n cs := by
 obtain ⟨Q, k1, -⟩ := h.tail
 exact Own.rowG k1 0 rfl
theorem SAt.lst {l : List Asr} (h : SAt w0 w b sp L X (l ++ R)) : SAt w0 w b sp L X (LstA l :: R) := by
 obtain ⟨Q, k1, k2⟩ := h.tail
 exact k2 _ (LstA l :: R) (Own.lst (by rw [List.append_assoc] at k1; exact k1))
theorem SAt.lstAdd {l : List Asr} {A : Asr} (h : SAt w0 w b sp L X (A :: LstA l :: R)) : SAt w0 w b sp L X (LstA (l ++ [A]) :: R) := by
 obtain ⟨Q, k1, k2⟩ := h.tail
 exact k2 _ (LstA (l ++ [A]) :: R) (Own.lstAdd k1)
theorem SAt.rowNil (h : SAt w0 w b sp L X R) (s : Nat) : SAt w0 w b sp L X (RowGA s none 0 0 [] :: R) := by
 obtain ⟨Q, k1, k2⟩ := h.tail
 exact k2 _ (RowGA s none 0 0 [] :: R) (Own.rowNil k1 s)
end
theorem sprocs_any {w0 w : World} {b sp : Nat} {L : Sl} {X : Sd} {R : List Asr} (h : SAt w0 w b sp L X R) (hn : X.ps.length ≤ 1000) :
  Calls Tryz.prog 20 #[.pointer (some ⟨b, 0, none⟩)] w fun r w' => ∃ a c rs, rs.length = X.ps.length ∧ r = .returned (.slice a X.ps.length c) ∧ SAt w0 w' b sp L X (RowGA 4 a c X.ps.length (pvs rs X.ps) :: LstA (prs rs X.ps) :: R) := by
 obtain ⟨c12v, hc12⟩ := h.c12
 have h0 : SAt w0 w b sp L X (RowGA 4 none 0 0 (pvs [] X.ps) :: LstA (prs [] X.ps) :: R) := SAt.rowNil (SAt.lst (l := []) h) 4
 have H0 := Lib.hid h0
 obtain ⟨n, hN⟩ : ∃ n, n = X.ps.length := ⟨_, rfl⟩
 rw [← hN] at hc12 hn ⊢
 have HN := Lib.hid hN
 clear h h0 hN
 go_enter Tryz.func20, Tryz.ntmps20
 go_wp2_with fail
 go_loopw [3, 11] (fun s iv wr => ∃ i : Nat, ∃ a c, ∃ rs : List Nat, i ≤ n ∧ iv = .int .i64 i ∧ s = .slice a i c ∧ rs.length = i ∧ Hid (SAt w0 wr b sp L X (RowGA 4 a c i (pvs rs X.ps) :: LstA (prs rs X.ps) :: R))) (fun _ iv _ => n - (intOf iv).toNat)
 case atStart => exact ⟨0, none, 0, [], by omega, rfl, rfl, rfl, H0⟩
 case round =>
  obtain ⟨i, a, c, rs, hi, rfl, rfl, hrs, hr⟩ := hrel
  clear hc12 H0
  by_cases hlt : i < n
  ·have hlt2 : (i : Int) < (n : Int) := by omega
   have hi0 : (0 : Int) ≤ (i : Int) := by omega
   have hiX : i < X.ps.length := by have := HN.out; omega
   obtain ⟨pb, off, p, g, hpa, hld⟩ := hr.out.pa hiX
   obtain ⟨⟨z0, z1, z2⟩, -, -⟩ := hr.out.proc hiX hpa hld
   rw [hpa]
   have h1 := hr.out.box [.pointer (some ⟨p, 0, none⟩), .int .i64 ((X.p i).tu : Int), .int .i64 (X.p i).by_] 89
   have hpi : X.ps[rs.length]? = some (X.p i) := by rw [hrs]; exact X.p_at hiX
   have hpl : (pvs rs X.ps).length = i * 4 := by rw [pvs_len (by omega), hrs]
   have HP := Lib.hid (And.intro hiX (And.intro hld (And.intro hpi hpl)))
   clear hr hpa hiX hld hpi hpl
   obtain ⟨i0, hi1, hz0, hz1, hz2⟩ := info_parts info_pshow
   have Hi := Lib.hid hi1; clear hi1
   have Hz0 := Lib.hid hz0; clear hz0
   have Hz1 := Lib.hid hz1; clear hz1
   have Hz2 := Lib.hid hz2; clear hz2
   go_upto_region 5 with fail
   generalize wr.alloc (.cells [.pointer (some ⟨p, 0, none⟩), .int .i64 ((X.p i).tu : Int), .int .i64 (X.p i).by_].toArray 89) = w1 at *
   generalize wr.heap.size = q at *
   have h2 := h1.step (below_drew1 w1)
   have HSB : Hid (∀ (wx : World) (R' : List Asr), SAt w0 wx b sp L X (CelA q [.pointer (some ⟨p, 0, none⟩), .int .i64 ((X.p i).tu : Int), .int .i64 (X.p i).by_] :: R') → wx.cell? ⟨q, 0, none⟩ = some (.pointer (some ⟨p, 0, none⟩)) ∧ wx.cell? ⟨q, 1, none⟩ = some (.int .i64 ((X.p i).tu : Int)) ∧ wx.cell? ⟨q, 2, none⟩ = some (.int .i64 (X.p i).by_)) :=
    Lib.hid (fun wx R' hx => ⟨(hx.cel 0 _ rfl).1, (hx.cel 1 _ rfl).1, (hx.cel 2 _ rfl).1⟩)
   clear h1 z0 z1 z2
   refine wp_region_lexH (fun wx => wx.cell? ⟨q, 0, none⟩ = some (.pointer (some ⟨p, 0, none⟩)) ∧ wx.cell? ⟨q, 1, none⟩ = some (.int .i64 ((X.p i).tu : Int)) ∧ wx.cell? ⟨q, 2, none⟩ = some (.int .i64 (X.p i).by_)) 15 (Array.replicate 15 false) (by kernel_rfl) (by kernel_rfl) ?_
   generalize w1.drew = w2 at *
   refine wpAnyH_seg 0 3 _ #[true, true, true, false, false, false, false, false, false, false, false, false, false, false, false] 12 (by kernel_rfl) noPanic_put (HSB.out _ _ h2) (by kernel_rfl) ?_
   simp only [List.take_succ_cons, List.take_zero, List.drop_zero]
   repeat ((first | refine wpSegH_no (by rfl) ?_ | (refine wpSegH_yes (by rfl) ?_; apply Exists.intro; apply And.intro; (· (intro wx hS; (try dsimp only at hS); go_simp; first | done | with_reducible rfl)))); simp only [Act.put, List.setIfInBounds_toArray, List.set_cons_zero, List.set_cons_succ])
   refine wpSegH_nil ?_
   refine wpAnyH_seg 4 2 _ #[true, true, true, false, true, true, false, false, false, false, false, false, false, false, false] 10 (by kernel_rfl) noPanic_put (HSB.out _ _ h2) (by kernel_rfl) ?_
   simp only [List.take_succ_cons, List.take_zero, List.drop_succ_cons, List.drop_zero]
   repeat ((first | refine wpSegH_no (by rfl) ?_ | (refine wpSegH_yes (by rfl) ?_; apply Exists.intro; apply And.intro; (· (intro wx hS; (try dsimp only at hS); go_simp; first | done | with_reducible rfl)))); simp only [Act.put, List.setIfInBounds_toArray, List.set_cons_zero, List.set_cons_succ])
   refine wpSegH_nil ?_
   refine wpAnyH_seg 7 4 _ #[true, true, true, false, true, true, false, true, true, true, true, false, false, false, false] 6 (by kernel_rfl) noPanic_put (HSB.out _ _ h2) (by kernel_rfl) ?_
   simp only [List.take_succ_cons, List.take_zero, List.drop_succ_cons, List.drop_zero]
   repeat ((first | refine wpSegH_no (by rfl) ?_ | (refine wpSegH_yes (by rfl) ?_; apply Exists.intro; apply And.intro; (· (intro wx hS; (try dsimp only at hS); go_simp; first | done | with_reducible rfl)))); simp only [Act.put, List.setIfInBounds_toArray, List.set_cons_zero, List.set_cons_succ])
   refine wpSegH_nil ?_
   refine wpAnyH_one 3 _ #[true, true, true, true, true, true, false, true, true, true, true, false, false, false, false] 5 (by kernel_rfl) (fun K hK => ?_)
   have HKK := Lib.hid hK
   clear hK
   simp only [List.drop_succ_cons, List.drop_zero]
   refine headH_mk (by rfl) ?_
   go_simp
   refine (sd_next h2 HP.out.1 HP.out.2.1).mono ?_
   rintro r w3 ⟨rfl, rfl⟩
   refine HKK.out _ _ (HSB.out _ _ h2) ?_
   clear HKK K
   refine wpAnyH_one 6 _ #[true, true, true, true, true, true, true, true, true, true, true, false, false, false, false] 4 (by kernel_rfl) (fun K hK => ?_)
   have HKK := Lib.hid hK
   clear hK
   simp only [List.drop_succ_cons, List.drop_zero]
   refine headH_mk (by rfl) ?_
   go_simp
   refine (llist_any w3 p g _ _ (h2.loc HP.out.1 HP.out.2.1)).mono ?_
   rintro r w4 ⟨rb, rfl, hrb, hrow, hb4⟩
   have h3 := h2.addRow hb4 hrow (by intro x hx; simp [blk] at hx; omega)
   have h4 := h3.perm (List.Perm.swap _ _ _)
   refine HKK.out _ _ (HSB.out _ _ h4) ?_
   clear HKK K
   refine wpAnyH_seg 11 1 _ #[true, true, true, true, true, true, true, true, true, true, true, true, false, false, false] 3 (by kernel_rfl) noPanic_put (HSB.out _ _ h4) (by kernel_rfl) ?_
   simp only [List.take_succ_cons, List.take_zero, List.drop_succ_cons, List.drop_zero]
   repeat ((first | refine wpSegH_no (by rfl) ?_ | (refine wpSegH_yes (by rfl) ?_; apply Exists.intro; apply And.intro; (· (intro wx hS; (try dsimp only at hS); go_simp; first | done | with_reducible rfl)))); simp only [Act.put, List.setIfInBounds_toArray, List.set_cons_zero, List.set_cons_succ])
   refine wpSegH_nil ?_
   have h5 := h4.step (below_alloc1 w4 (.cells #[.int .i64 (X.p i).q.num, .slice (some ⟨rb, 0, none⟩) (X.p i).q.l.length (X.p i).q.l.length, .int .i64 ((X.p i).tu : Int), .int .i64 (X.p i).by_] 64))
   refine wpAnyH_one 12 _ #[true, true, true, true, true, true, true, true, true, true, true, true, true, false, false] 2 (by kernel_rfl) (fun K hK => ?_)
   have HKK := Lib.hid hK
   clear hK
   simp only [List.drop_succ_cons, List.drop_zero]
   refine headH_mk (by rfl) ?_
   go_simp
   refine HKK.out _ _ (HSB.out _ _ h5) ?_
   clear HKK K
   refine wpAnyH_one 13 _ #[true, true, true, true, true, true, true, true, true, true, true, true, true, true, false] 1 (by kernel_rfl) (fun K hK => ?_)
   have HKK := Lib.hid hK
   clear hK
   simp only [List.drop_succ_cons, List.drop_zero]
   refine headH_mk (by rfl) ?_
   have h6 := h5.perm ((List.perm_middle (a := RowGA 4 a c i (pvs rs X.ps)) (l₁ := [CelA q _, RowA _ _ _])))
   refine wp_append_rowG (n := i) (m := 1) (cs := pvs rs X.ps) (ds := pvc (rb, X.p i)) _ _ 61 (by rfl) 64 i0 _ Tryz.underlying61 Hi.out Hz0.out Hz1.out Hz2.out rfl (by omega) (by omega) (by rfl) (by rfl) h6.rowN (CellsAt.new _ (pvc (rb, X.p i)) _ rfl) rfl (by simp [pvc, Value.oneCell']) (by omega) ?_
   intro a9 c9 w9 k9 ch9 f9
   have h7 := h6.rowTurn k9 ch9 f9
   have h8 := h7.perm (List.Perm.swap _ _ _)
   refine HKK.out _ _ (HSB.out _ _ h8) ?_
   clear HKK K
   refine wpAnyH_seg 14 1 _ #[true, true, true, true, true, true, true, true, true, true, true, true, true, true, true] 0 (by kernel_rfl) noPanic_put (HSB.out _ _ h8) (by kernel_rfl) ?_
   simp only [List.take_succ_cons, List.take_zero, List.drop_succ_cons, List.drop_zero]
   repeat ((first | refine wpSegH_no (by rfl) ?_ | (refine wpSegH_yes (by rfl) ?_; apply Exists.intro; apply And.intro; (· (intro wx hS; (try dsimp only at hS); go_simp; first | done | with_reducible rfl)))); simp only [Act.put, List.setIfInBounds_toArray, List.set_cons_zero, List.set_cons_succ])
   refine wpSegH_nil ?_
   refine wpAnyH_done (by kernel_rfl) (NoPanic.normal ?_) _
   have HF : Hid (SAt w0 w9 b sp L X (RowGA 4 a9 c9 (i + 1) (pvs (rs ++ [rb]) X.ps) :: LstA (prs (rs ++ [rb]) X.ps) :: R)) := Lib.hid (by
    rw [pvs_snoc HP.out.2.2.1, prs_snoc HP.out.2.2.1]
    have ha := h8.less
    have hb := (ha.perm (List.perm_middle (a := RowGA 4 a9 c9 (i + 1) (pvs rs X.ps ++ pvc (rb, X.p i))) (l₁ := [RowA (some ⟨rb, 0, none⟩) (X.p i).q.l.length (X.p i).q.l, LstA (prs rs X.ps)]) (l₂ := R)).symm).lstAdd
    exact hb.perm (List.Perm.swap _ _ _))
   go_wp2
   exact ⟨⟨i + 1, a9, c9, rs ++ [rb], by omega, by go_num, rfl, by simp [hrs], HF⟩, by simp [intOf]; omega⟩
  ·have hge : ¬ (i : Int) < (n : Int) := by omega
   obtain rfl : i = n := by omega
   go_wp2
   go_ret
   exact ⟨a, c, rs, hrs, rfl, hr.out⟩
theorem clonem_any (w : World) (a : Option Addr) (n c : Nat) (cs : List Value) (h : RowG 3 w a c n cs) (hone : ∀ u ∈ cs, u.oneCell' = true) (hl : n ≤ 1000000) :
  Calls Tryz.prog 40 #[.slice a n c] w fun r w' => ∃ a' c', r = .returned (.slice a' n c') ∧ RowG 3 w' a' c' n cs ∧ (∀ x ∈ blk a', w.heap.size ≤ x) ∧ Below w.heap.size w w' := by
 cases a with
 | none =>
  obtain ⟨rfl, rfl, rfl⟩ := nil_of_none (by omega) h
  clear h hone
  have he : ∀ w : World, (binOp .eql 67 (.slice none 0 0) (.slice none 0 0)).run Tryz.prog w = .ok (.bool true) w := fun _ => rfl
  go_enter Tryz.func40, Tryz.ntmps40
  go_wp2
  go_ret
  exact ⟨none, 0, rfl, RowG.nil _ _, fun x hx => by simp [blk] at hx, Below.refl _ _⟩
 | some ad =>
  obtain ⟨i0, hi0, hz0, hz1, hz2⟩ := info_parts info_mach
  have Hi := Lib.hid hi0; clear hi0
  have Hz0 := Lib.hid hz0; clear hz0
  have Hz1 := Lib.hid hz1; clear hz1
  have Hz2 := Lib.hid hz2; clear hz2
  have H := Lib.hid h
  have HO := Lib.hid hone
  clear h hone
  have he : ∀ w : World, (binOp .eql 67 (.slice (some ad) n c) (.slice none 0 0)).run Tryz.prog w = .ok (.bool false) w := fun _ => rfl
  go_enter Tryz.func40, Tryz.ntmps40
  go_wp2_with (at_builtin; refine wpList_append_rowG (m := n) (n := 0) (cs := []) (ds := cs) rfl _ _ 67 rfl 66 i0 _ Tryz.underlying67 Hi.out Hz0.out Hz1.out Hz2.out rfl (by omega) (by omega) rfl rfl (RowG.zero (by simp)) ((H.out.below (below_alloc1 _ _)).cells) H.out.1 HO.out (by omega) ?_)
  intro a1 c1 w1 k1 ch1 f1
  have hf : RowG 3 w1 a1 c1 n cs ∧ (∀ x ∈ blk a1, w.heap.size ≤ x) ∧ Below w.heap.size w w1 := by
   refine ⟨by simpa using k1, fun x hx => ?_, Chg.below (below_alloc1 _ _) ch1 (fun x hx => by simp [blk] at hx; omega)⟩
   rcases f1 x hx with h | h
   ·simp [blk] at h; omega
   ·first | omega | (simp at h; omega)
  have HF := Lib.hid hf
  clear hf k1 ch1 f1
  go_wp2
  go_ret
  exact ⟨a1, c1, by simp, HF.out⟩
theorem smachs_any {w0 w : World} {b sp : Nat} {L : Sl} {X : Sd} {R : List Asr} (h : SAt w0 w b sp L X R) (hn : X.ms.length ≤ 1000) :
  Calls Tryz.prog 21 #[.pointer (some ⟨b, 0, none⟩)] w fun r w' => ∃ a c, r = .returned (.slice a X.ms.length c) ∧ SAt w0 w' b sp L X (RowGA 3 a c X.ms.length (mcs X.ms) :: R) := by
 have c13 := h.c13'
 obtain ⟨n, hN⟩ : ∃ n, n = X.ms.length := ⟨_, rfl⟩
 have hr : RowG 3 w L.ma L.mc n (mcs X.ms) := by
  obtain ⟨S, hf, ⟨-, e, -⟩, h1⟩ := h
  rw [← e.1, ← e.2, hN]
  exact h1.rowG 3 rfl
 rw [← hN] at c13 hn ⊢
 have HC := Lib.hid (clonem_any w L.ma n L.mc (mcs X.ms) hr (by
  intro u hu
  simp [mcs] at hu
  obtain ⟨x, -, hx⟩ := hu
  simp [mc1] at hx
  rcases hx with rfl | rfl | rfl <;> rfl) (by omega))
 have H := Lib.hid h
 clear h hr hN
 go_enter Tryz.func21, Tryz.ntmps21
 go_wp2_with fail
 refine HC.out.mono ?_
 rintro r w1 ⟨a1, c1, rfl, k1, f1, b1⟩
 have hs : SAt w0 w1 b sp L X (RowGA 3 a1 c1 n (mcs X.ms) :: R) := by
  obtain ⟨Q, q1, q2⟩ := H.out.tail
  exact q2 _ (RowGA 3 a1 c1 n (mcs X.ms) :: R) (q1.add b1 (A := RowGA 3 a1 c1 n (mcs X.ms)) (F := blk a1) ⟨rfl, k1⟩ f1)
 have HS := Lib.hid hs
 clear hs k1 f1 b1
 go_wp2
 go_ret
 exact ⟨a1, c1, rfl, HS.out⟩
theorem ints_cells {w : World} {a : Option Addr} {l : List Int} (h : IntsAt w a l) : CellsAt w a (intc l) := fun j v hj => by
 simp [intc] at hj
 obtain ⟨x, hx, rfl⟩ := hj
 obtain ⟨hl, rfl⟩ := List.getElem?_eq_some_iff.1 hx
 exact h j hl
theorem two_ps {w0 w : World} {b sp : Nat} {L : Sl} {X : Sd} {R : List Asr} {a : Option Addr} {c : Nat} {rs : List Nat} (h : SAt w0 w b sp L X (RowGA 4 a c 2 (pvs rs X.ps) :: LstA (prs rs X.ps) :: R)) (h2 : X.ps.length = 2) (hrs : rs.length = 2) :
  ∃ pb off r0 r1, a = some ⟨pb, off, none⟩ ∧ w.cell? ⟨pb, off, none⟩ = some (.int .i64 (X.p 0).q.num) ∧ w.cell? ⟨pb, off + 1, none⟩ = some (.slice (some ⟨r0, 0, none⟩) (X.p 0).q.l.length (X.p 0).q.l.length) ∧
   w.cell? ⟨pb, off + 4 + 1, none⟩ = some (.slice (some ⟨r1, 0, none⟩) (X.p 1).q.l.length (X.p 1).q.l.length) ∧ w.cell? ⟨pb, off + 4 + 2, none⟩ = some (.int .i64 ((X.p 1).tu : Int)) ∧
   CellsAt w (some ⟨r0, 0, none⟩) (intc (X.p 0).q.l) ∧ CellsAt w (some ⟨r1, 0, none⟩) (intc (X.p 1).q.l) := by
 obtain ⟨P0, P1, e⟩ : ∃ P0 P1, X.ps = [P0, P1] := by
  match hp : X.ps, h2 with
  | [x, y], _ => exact ⟨x, y, rfl⟩
 obtain ⟨r0, r1, rfl⟩ : ∃ r0 r1, rs = [r0, r1] := by
  match rs, hrs with
  | [x, y], _ => exact ⟨x, y, rfl⟩
 have e0 : X.p 0 = P0 := by unfold Sd.p; rw [e]; rfl
 have e1 : X.p 1 = P1 := by unfold Sd.p; rw [e]; rfl
 have hr := h.rowN.cells
 obtain ⟨Q, k1, -⟩ := (h.perm (List.Perm.swap _ _ _)).tail
 rw [e] at hr k1
 have k2 : Own w0 w (LstA [RowA (some ⟨r0, 0, none⟩) P0.q.l.length P0.q.l, RowA (some ⟨r1, 0, none⟩) P1.q.l.length P1.q.l] :: _) := k1
 have k3 := k2.unl
 have hr' : CellsAt w a [.int .i64 P0.q.num, .slice (some ⟨r0, 0, none⟩) P0.q.l.length P0.q.l.length, .int .i64 (P0.tu : Int), .int .i64 P0.by_, .int .i64 P1.q.num, .slice (some ⟨r1, 0, none⟩) P1.q.l.length P1.q.l.length, .int .i64 (P1.tu : Int), .int .i64 P1.by_] := hr
 obtain ⟨pb, off, ha, z0⟩ := hr' 0 _ rfl
 obtain ⟨pb', off', ha1, z1⟩ := hr' 1 _ rfl
 obtain ⟨pb2, off2, ha2, z2⟩ := hr' 5 _ rfl
 obtain ⟨pb3, off3, ha3, z3⟩ := hr' 6 _ rfl
 rw [ha] at ha1 ha2 ha3
 cases ha1
 cases ha2
 cases ha3
 rw [e0, e1]
 exact ⟨pb, off, r0, r1, ha, z0, z1, z2, z3, ints_cells (k3.row 0 rfl).ints, ints_cells (k3.row 1 rfl).ints⟩
theorem two_ms {w0 w : World} {b sp : Nat} {L : Sl} {X : Sd} {R : List Asr} {a : Option Addr} {c : Nat} (h : SAt w0 w b sp L X (RowGA 3 a c 2 (mcs X.ms) :: R)) (h2 : X.ms.length = 2) :
  ∃ mb off, a = some ⟨mb, off, none⟩ ∧ w.cell? ⟨mb, off + 3 + 1, none⟩ = some (.int .i64 (X.m 1).G) := by
 obtain ⟨M0, M1, e⟩ : ∃ P0 P1, X.ms = [P0, P1] := by
  match hp : X.ms, h2 with
  | [x, y], _ => exact ⟨x, y, rfl⟩
 have e1 : X.m 1 = M1 := by unfold Sd.m; rw [e]; rfl
 have hr := h.rowN.cells
 rw [e] at hr
 obtain ⟨mb, off, ha, z⟩ := hr 4 (.int .i64 M1.G) rfl
 rw [e1]
 exact ⟨mb, off, ha, z⟩
end Go.Proofs.YtodjgipiomnnfaaGreat
open Go Go.RowKit
set_option linter.unusedVariables false
namespace Go.Proofs.YtodjgipiomnnfaaGreat.schedSteals
theorem i4s_app (l m : List In4) : i4s (l ++ m) = i4s l ++ i4s m := by unfold i4s; rw [List.flatMap_append]
theorem rep_succ (i : Nat) (x : In4) : i4s (List.replicate (i + 1) x) = i4s (List.replicate i x) ++ i4c x := by
 rw [List.replicate_succ', i4s_app]; simp [i4s]
theorem cells_of {w : World} {b : Nat} {cs : List Value} (h : Blk w b cs) : CellsAt w (some ⟨b, 0, none⟩) cs := fun j v hj => ⟨b, 0, rfl, by rw [Nat.zero_add]; exact (h j v hj).1⟩
theorem info_cin : (Tryz.prog.info? 34).map (fun i => (i.zero, i.size, i.bytes)) = some (some (.agg #[.int .i64 0, .int .i64 0, .int .i64 0, .int .i64 0]), 4, 32) := by kernel_rfl
theorem made_u64 (n : Nat) : (madeCells #[Value.int .u64 0] (n * 1)).toList = numc (List.replicate n 0) := by
 rw [Nat.mul_one, toList_madeCells_one]; simp [numc]
theorem make_nums (w : World) (n : Nat) (hn : n ≤ 1000000) : ∃ w1 a c, (Instr.makeSlice 44 (.int .i64 (n : Int)) (.int .i64 (n : Int))).run Tryz.prog w = .ok (.slice a n c) w1 ∧ RowG 1 w1 a c n (numc (List.replicate n 0)) ∧ (∀ x ∈ blk a, w.heap.size ≤ x) ∧ Below w.heap.size w w1 := by
 obtain ⟨i0, hi, hz0, hz1, hz2⟩ := info_parts info_u6
 obtain ⟨w1, h1, h2, h3⟩ := run_make_full (P := Tryz.prog) w w.heap.size 44 55 i0 _ 1 Tryz.underlying44 hi hz0 hz1 .i64 .i64 n (by rw [hz2]; omega) (by unfold maxLen; omega) (Nat.le_refl _)
 obtain ⟨a, cap, e, hr, hb⟩ := RowG.of_own h2
 simp only [Value.slice.injEq] at e
 obtain ⟨e1, e2, e3⟩ := e
 subst e1
 rw [← e3] at hr
 rw [show (Value.int .u64 0).cells = #[Value.int .u64 0] from rfl, made_u64] at hr
 exact ⟨w1, _, _, h1, hr, hb, (grownBy_chg h3).to_below0⟩
theorem numc_app (l m : List Nat) : numc (l ++ m) = numc l ++ numc m := by simp [numc]
theorem st_rows (n m : Nat) : stRow 2 n ++ stRow (n + 2) m = stRow 2 (n + m) := by
 unfold stRow
 rw [List.range_add, List.map_append, List.map_map]
 congr 1
 apply List.map_congr_left
 intro x _
 simp; omega
theorem st_prog {w : World} {a : Option Addr} {cap n c1 cf : Nat} (h0 : CellsAt w a (i4s (stMain n))) (hn : a = none → cap = 0) (h1 : CellsAt w (some ⟨c1, 0, none⟩) (i4s [(10, 0, 0, 0)]))
  (hf : CellsAt w (some ⟨cf, 0, none⟩) [.slice a (n + 1) cap, .slice (some ⟨c1, 0, none⟩) 1 1]) (hN : n ≤ 40) :
  ProgIn w (some ⟨cf, 0, none⟩) [(a, cap), (some ⟨c1, 0, none⟩, 1)] (stFs n) none [] none 0 [] := by
 have e : (stMain n).length = n + 1 := by simp [stMain]
 refine ⟨?_, rfl, fun i r l hr hl => ?_, CellsAt.nil _ _, CellsAt.nil _ _, fun _ => rfl, by decide, by show 2 ≤ 1000; omega, by decide⟩
 ·show CellsAt w _ [.slice a (stMain n).length cap, .slice (some ⟨c1, 0, none⟩) 1 1]
  rw [e]; exact hf
 ·match i with
  | 0 => simp [stFs] at hr hl; subst hr hl; exact ⟨h0, hn, by omega⟩
  | 1 => simp [stFs] at hr hl; subst hr hl; exact ⟨h1, (fun h => by cases h), by decide⟩
  | i + 2 => simp at hr
theorem walk (a0 : Int) (w : World) (w0 : (Lit.int .i64 a0).wf = true) :
  Calls Tryz.prog 6 #[.int .i64 a0] w fun e w' => e = .returned (.bool true) ∧ Below w.heap.size w w' := by
 obtain ⟨M, hM', hM2, -⟩ := small_of a0 29 (by omega)
 have hM : (bits BinOp.and IntKind.i64 a0 255).tmod 29 = (M : Int) := hM'
 clear hM' w0
 obtain ⟨i0, hi0, hz0, hz1, hz2⟩ := info_parts info_cin
 have Hi := Lib.hid hi0; clear hi0
 have Hz0 := Lib.hid hz0; clear hz0
 have Hz1 := Lib.hid hz1; clear hz1
 have Hz2 := Lib.hid hz2; clear hz2
 obtain ⟨j0, hj0, hy0, hy1, hy2⟩ := info_parts info_u6
 have Hj := Lib.hid hj0; clear hj0
 have Hy0 := Lib.hid hy0; clear hy0
 have Hy1 := Lib.hid hy1; clear hy1
 have Hy2 := Lib.hid hy2; clear hy2
 go_enter Tryz.func6, Tryz.ntmps6
 go_wp2_with fail
 refine (awake18_any _).mono ?_
 rintro e w1 ⟨rfl, hb⟩
 have HB := Lib.hid hb; clear hb
 obtain ⟨N, hN⟩ : ∃ N, N = M + 2 := ⟨_, rfl⟩
 have hN2 : 2 ≤ N ∧ N ≤ 30 := by omega
 have hNM : 2 + (M : Int) = (N : Int) := by omega
 have hw2 : IntKind.i64.wrap (2 + (M : Int)) = (N : Int) := by rw [IntKind.wrap_i64]; omega
 have HNM := Lib.hid (And.intro hN hM2)
 clear hN
 go_upto_region 5 with fail
 try rw [hw2]
 try rw [hNM]
 clear hNM hw2 hM hM2
 have ho0 : Own w1 (w1.alloc (.cells #[] 34)) [RowGA 4 (some ⟨w1.heap.size, 0, none⟩) 0 0 []] := (Own.nil (Below.refl _ _)).add (below_alloc1 _ _) (A := RowGA 4 (some ⟨w1.heap.size, 0, none⟩) 0 0 []) (F := [w1.heap.size]) ⟨rfl, RowG.zero (by simp)⟩ (by intro x hx; simp at hx; omega)
 have HO := Lib.hid ho0; clear ho0
 go_wp2_with fail
 go_loopw [3, 23] (fun s iv wr => ∃ i : Nat, ∃ a cap, i ≤ N ∧ iv = .int .i64 i ∧ s = .slice a i cap ∧ Hid (Own w1 wr [RowGA 4 a cap i (i4s (List.replicate i (11, 1, 0, 1)))])) (fun _ iv _ => N - (intOf iv).toNat)
 case atStart => exact ⟨0, some ⟨w1.heap.size, 0, none⟩, 0, by omega, rfl, rfl, HO⟩
 case round =>
  obtain ⟨i, a, cap, hi, rfl, rfl, hr⟩ := hrel
  by_cases hlt : i < N
  ·have hlt2 : (i : Int) < (N : Int) := by omega
   have o1 := hr.out.step (below_alloc1 wr (.cells #[.int .i64 11, .int .i64 1, .int .i64 0, .int .i64 1] 34))
   have H1 := Lib.hid o1
   clear o1 hr
   go_wp2_with (at_builtin; go_loud (refine wpList_append_rowG rfl _ _ 31 rfl 34 i0 _ Tryz.underlying31 Hi.out Hz0.out Hz1.out Hz2.out rfl (by decide) (by decide) (n := i) (m := 1) (cs := i4s (List.replicate i (11, 1, 0, 1))) (ds := [.int .i64 11, .int .i64 1, .int .i64 0, .int .i64 1]) (by rfl) (by rfl) (H1.out.rowG 0 rfl) (CellsAt.new _ [.int .i64 11, .int .i64 1, .int .i64 0, .int .i64 1] _ rfl) rfl (by simp [Value.oneCell']) (by omega) ?_))
   intro a9 c9 w9 k9 ch9 f9
   have o2 := Own.rowTurn H1.out k9 ch9 (fun x hx => by simpa using f9 x hx)
   have H2 : Hid (Own w1 w9 [RowGA 4 a9 c9 (i + 1) (i4s (List.replicate (i + 1) (11, 1, 0, 1)))]) := Lib.hid (by rw [rep_succ]; exact o2)
   clear o2 k9 ch9 f9 H1
   go_wp2
   exact ⟨⟨i + 1, a9, c9, by omega, by go_num, rfl, H2⟩, by simp [intOf]; omega⟩
  ·obtain rfl : i = N := by omega
   have hge : ¬ ((i : Int) < (i : Int)) := by omega
   go_upto_region 9 with fail
   clear hlt hi
   have o1 := hr.out.step (below_alloc1 wr (.cells #[.int .i64 7, .int .i64 i, .int .i64 0, .int .i64 0] 34))
   have H1 := Lib.hid o1
   clear o1 hr
   go_wp2_with (at_builtin; go_loud (refine wpList_append_rowG rfl _ _ 31 rfl 34 i0 _ Tryz.underlying31 Hi.out Hz0.out Hz1.out Hz2.out rfl (by decide) (by decide) (n := i) (m := 1) (cs := i4s (List.replicate i (11, 1, 0, 1))) (ds := [.int .i64 7, .int .i64 i, .int .i64 0, .int .i64 0]) (by rfl) (by rfl) (H1.out.rowG 0 rfl) (CellsAt.new _ [.int .i64 7, .int .i64 i, .int .i64 0, .int .i64 0] _ rfl) rfl (by simp [Value.oneCell']) (by omega) ?_))
   intro a9 c9 w9 k9 ch9 f9
   have o2 := Own.rowTurn H1.out k9 ch9 (fun x hx => by simpa using f9 x hx)
   have H2 : Hid (Own w1 w9 [RowGA 4 a9 c9 (i + 1) (i4s (stMain i))]) := Lib.hid (by unfold stMain; rw [i4s_app]; exact o2)
   clear o2 k9 ch9 f9 H1 HO
   obtain ⟨wm, an, cn, hmk, hmr, hmb, hmB⟩ := make_nums w9 (i + 2) (by omega)
   have hwn : IntKind.i64.wrap ((i : Int) + 2) = ((i + 2 : Nat) : Int) := by rw [IntKind.wrap_i64]; omega
   rw [show (((i + 2 : Nat)) : Int) = (i : Int) + 2 by omega] at hmk
   have HMR := Lib.hid (And.intro hmr (And.intro hmb hmB))
   clear hmr hmb hmB
   go_upto_region 11 with fail
   have o1 := (H2.out.add HMR.out.2.2 (A := RowGA 1 an cn (i + 2) (numc (List.replicate (i + 2) 0))) (F := blk an) ⟨rfl, HMR.out.1⟩ HMR.out.2.1).step (below_alloc1 wm (.cells #[.int .u64 1, .int .u64 1, .int .u64 0] 55))
   have H1 := Lib.hid o1
   clear o1 H2 HMR hwn hmk
   go_wp2_with (at_builtin; go_loud (refine wpList_append_rowG rfl _ _ 44 rfl 55 j0 _ Tryz.underlying44 Hj.out Hy0.out Hy1.out Hy2.out rfl (by decide) (by decide) (n := i + 2) (m := 3) (cs := numc (List.replicate (i + 2) 0)) (ds := [.int .u64 1, .int .u64 1, .int .u64 0]) (by rfl) (by rfl) (H1.out.rowG 0 rfl) (CellsAt.new _ [.int .u64 1, .int .u64 1, .int .u64 0] _ rfl) rfl (by simp [Value.oneCell']) (by omega) ?_))
   intro an2 cn2 wn k9 ch9 f9
   have o2 := Own.rowTurn H1.out k9 ch9 (fun x hx => by simpa using f9 x hx)
   have H2 : Hid (Own w1 wn [RowGA 1 an2 cn2 (i + 5) (numc (stNum i)), RowGA 4 a9 c9 (i + 1) (i4s (stMain i))]) := Lib.hid (by unfold stNum; rw [numc_app]; exact o2)
   clear o2 k9 ch9 f9 H1
   go_upto_region 13 with fail
   have o3 : Own w1 (((wn.alloc (.cells #[.int .i64 10, .int .i64 0, .int .i64 0, .int .i64 0] 34)).alloc (.cells #[.slice a9 (i + 1) c9, .slice (some ⟨wn.heap.size, 0, none⟩) 1 1] 31)).alloc (.cells #[.slice (some ⟨wn.heap.size + 1, 0, none⟩) 2 2, .slice none 0 0, .int .i64 0, .slice none 0 0] 41))
     [CelA (wn.heap.size + 1 + 1) [.slice (some ⟨wn.heap.size + 1, 0, none⟩) 2 2, .slice none 0 0, .int .i64 0, .slice none 0 0], CelA (wn.heap.size + 1) [.slice a9 (i + 1) c9, .slice (some ⟨wn.heap.size, 0, none⟩) 1 1], CelA wn.heap.size [.int .i64 10, .int .i64 0, .int .i64 0, .int .i64 0], RowGA 1 an2 cn2 (i + 5) (numc (stNum i)), RowGA 4 a9 c9 (i + 1) (i4s (stMain i))] :=
    ((H2.out.alloc _ 34 rfl).alloc _ 31 (by simp)).alloc _ 41 (by simp)
   generalize (((wn.alloc (.cells #[.int .i64 10, .int .i64 0, .int .i64 0, .int .i64 0] 34)).alloc (.cells #[.slice a9 (i + 1) c9, .slice (some ⟨wn.heap.size, 0, none⟩) 1 1] 31)).alloc (.cells #[.slice (some ⟨wn.heap.size + 1, 0, none⟩) 2 2, .slice none 0 0, .int .i64 0, .slice none 0 0] 41)) = w13 at *
   generalize wn.heap.size + 1 + 1 = pg at *
   generalize wn.heap.size + 1 = cf at *
   generalize wn.heap.size = c1 at *
   have hP := st_prog (w := w13) (n := i) (o3.rowG 4 rfl).cells (o3.rowG 4 rfl).none0 (cells_of (o3.cel 2 rfl)) (cells_of (o3.cel 1 rfl)) (by omega)
   have hP1 := hP.below (below_drew1 w13)
   have o4 := o3.step (below_drew1 w13)
   have hsl : (stNum i).length = i + 5 := by simp [stNum]
   have hnn : an2 = none → (stNum i).length = 0 ∧ cn2 = 0 := fun e => by
    have hr := o3.rowG 3 rfl
    rw [e] at hr
    have h1 := (nil_of_none (by decide) hr).2.1
    omega
   have HSB : Hid (∀ (wx : World) (As Bs : List Asr), Own w1 wx (As ++ (CelA pg [.slice (some ⟨cf, 0, none⟩) 2 2, .slice none 0 0, .int .i64 0, .slice none 0 0] :: Bs)) → wx.cell? ⟨pg, 0, none⟩ = some (.slice (some ⟨cf, 0, none⟩) 2 2) ∧ wx.cell? ⟨pg, 1, none⟩ = some (.slice none 0 0) ∧ wx.cell? ⟨pg, 2, none⟩ = some (.int .i64 0) ∧ wx.cell? ⟨pg, 3, none⟩ = some (.slice none 0 0)) := Lib.hid (fun wx As Bs hx => by
    have h := Own.dropL hx
    exact ⟨(h.cel 0 rfl 0 _ rfl).1, (h.cel 0 rfl 1 _ rfl).1, (h.cel 0 rfl 2 _ rfl).1, (h.cel 0 rfl 3 _ rfl).1⟩)
   have HH := Lib.hid (And.intro hsl hnn)
   clear o3 H2 hP hsl hnn
   refine wp_region_lexH (fun wx => wx.cell? ⟨pg, 0, none⟩ = some (.slice (some ⟨cf, 0, none⟩) 2 2) ∧ wx.cell? ⟨pg, 1, none⟩ = some (.slice none 0 0) ∧ wx.cell? ⟨pg, 2, none⟩ = some (.int .i64 0) ∧ wx.cell? ⟨pg, 3, none⟩ = some (.slice none 0 0)) 6 (Array.replicate 6 false) (by kernel_rfl) (by kernel_rfl) ?_
   generalize w13.drew = w14 at *
   refine wpAnyH_seg 0 3 _ #[true, true, true, false, false, false] 3 (by kernel_rfl) noPanic_put (HSB.out _ [] _ o4) (by kernel_rfl) ?_
   simp only [List.take_succ_cons, List.take_zero, List.drop_zero]
   repeat ((first | refine wpSegH_no (by rfl) ?_ | (refine wpSegH_yes (by rfl) ?_; apply Exists.intro; apply And.intro; (· (intro wx hS; (try dsimp only at hS); go_simp; first | done | with_reducible rfl)))); simp only [Act.put, List.setIfInBounds_toArray, List.set_cons_zero, List.set_cons_succ])
   refine wpSegH_nil ?_
   refine wpAnyH_one 3 _ #[true, true, true, true, false, false] 2 (by kernel_rfl) (fun K hK => ?_)
   have HKK := Lib.hid hK
   clear hK
   simp only [List.drop_succ_cons, List.drop_zero]
   refine headH_mk (by rfl) ?_
   go_simp
   have hon := onew_any o4 an2 cn2 (stNum i) (o4.rowG 3 rfl).cells HH.out.2 (by rw [HH.out.1]; omega)
   rw [HH.out.1] at hon
   refine hon.mono ?_
   rintro r w15 ⟨sp, rfl, o5, hb5⟩
   have hP2 := hP1.below hb5
   clear hP1 hb5 o4 hon
   refine HKK.out _ _ (HSB.out _ [_] _ o5) ?_
   clear HKK K
   refine wpAnyH_one 4 _ #[true, true, true, true, true, false] 1 (by kernel_rfl) (fun K hK => ?_)
   have HKK := Lib.hid hK
   clear hK
   simp only [List.drop_succ_cons, List.drop_zero]
   refine headH_mk (by rfl) ?_
   go_simp
   refine (snew_any o5 (some ⟨cf, 0, none⟩) 2 [(a9, c9), (some ⟨c1, 0, none⟩, 1)] (stFs i) none 0 [] 0 none 0 [] hP2 (by decide) 2 2 64 1000 (by omega) (by omega) sp).mono ?_
   rintro r w16 ⟨b, rfl, o6⟩
   refine HKK.out _ _ (HSB.out _ [_, _] _ o6) ?_
   clear HKK K
   refine wpAnyH_seg 5 1 _ #[true, true, true, true, true, true] 0 (by kernel_rfl) noPanic_put (HSB.out _ [_, _] _ o6) (by kernel_rfl) ?_
   simp only [List.take_succ_cons, List.take_zero, List.drop_succ_cons, List.drop_zero]
   repeat ((first | refine wpSegH_no (by rfl) ?_ | (refine wpSegH_yes (by rfl) ?_; apply Exists.intro; apply And.intro; (· (intro wx hS; (try dsimp only at hS); go_simp; first | done | with_reducible rfl)))); simp only [Act.put, List.setIfInBounds_toArray, List.set_cons_zero, List.set_cons_succ])
   refine wpSegH_nil ?_
   refine wpAnyH_done (by kernel_rfl) (NoPanic.normal ?_) _
   have H6 : Hid (Own w1 w16 (SchA b sp (stX0 i) :: SrcA sp 0 (orS (stNum i) []) .nilFunc :: [])) := Lib.hid ((o6.perm (List.perm_append_comm (l₁ := [SchA b sp (stX0 i), SrcA sp 0 (orS (stNum i) []) .nilFunc]) (l₂ := [CelA pg _, CelA cf _, CelA c1 _, RowGA 1 an2 cn2 (i + 5) (numc (stNum i)), RowGA 4 a9 c9 (i + 1) (i4s (stMain i))]))).dropL)
   clear o5 o6 hP2 HSB HH
   have hST : StOk i := by rw [HNM.out.1]; exact st_ok M HNM.out.2
   have HST := Lib.hid hST
   have hle : i ≤ 30 := hN2.2
   clear hST
   go_wp2_with fail
   go_loopw [53] (fun kv wr => ∃ k : Nat, k ≤ i + 3 ∧ kv = .int .i64 k ∧ Hid (Own w1 wr (SchA b sp (itM (stX0 i) ((stPk i).take k)) :: SrcA sp 0 (orS (stNum i) ((stPk i).take k)) .nilFunc :: []))) (fun kv _ => i + 3 - (intOf kv).toNat)
   case atStart => exact ⟨0, by omega, rfl, H6⟩
   case round =>
    obtain ⟨k, hk, rfl, hr⟩ := hrel
    clear H6
    by_cases hlt : k < i + 3
    ·have hlt2 : (k : Int) < (i : Int) + 3 := by omega
     have HX := Lib.hid (stl_step HST.out hlt hr.out)
     clear hr
     go_wp2_with fail
     refine HX.out.mono ?_
     rintro r w2 ⟨kk, mm, gg, rn, ra, rc, rfl, ho⟩
     have HF := Lib.hid (ho.step (below_alloc1 w2 (.cells #[.int .i64 kk, .int .i64 mm, .int .i64 gg, .slice ra rn rc] 46)))
     clear ho HX
     go_wp2
     exact ⟨⟨k + 1, by omega, by go_num, HF⟩, by simp [intOf]; omega⟩
    ·obtain rfl : k = i + 3 := by omega
     obtain ⟨hfin, hlast⟩ := st_last HST.out hr.out
     have HFI := Lib.hid hfin
     have HX := Lib.hid hlast
     clear hfin hlast hr
     have hge : ¬ (((i + 3 : Nat) : Int) < (i : Int) + 3) := by omega
     go_upto_region 20 with fail
     clear hge
     go_wp2_with fail
     refine HX.out.mono ?_
     rintro r w2 ⟨ra, rc, S', rfl, ho⟩
     obtain ⟨L, hs⟩ := ho.sat
     have h1 := hs.box [.int .i64 5, .int .i64 1, .int .i64 1, .slice ra 0 rc] 46
     have HS := Lib.hid (sprocs_any h1 (by rw [HFI.out.ps]; omega))
     rw [HFI.out.ps] at HS
     clear ho hs h1 HX
     go_upto_region 21 with fail
     generalize w2.alloc (.cells [.int .i64 5, .int .i64 1, .int .i64 1, .slice ra 0 rc].toArray 46) = w3 at *
     generalize w2.heap.size = qe at *
     go_wp2_with fail
     refine HS.out.mono ?_
     rintro r w4 ⟨a, c, rs, hrs, rfl, h2⟩
     obtain ⟨pb, off, r0, r1, rfl, z0, z1, z2, z3, g0, g1⟩ := two_ps h2 HFI.out.ps hrs
     have h3 := h2.perm (List.perm_append_comm_assoc [_, _] [CelA qe _] [SrcA sp 0 S' .nilFunc])
     have y0 := (h3.cel 0 _ rfl).1
     have y1 := (h3.cel 1 _ rfl).1
     have y2 := (h3.cel 2 _ rfl).1
     have H3 := Lib.hid h3
     obtain ⟨n1, hn1⟩ : ∃ n1, i / 2 = n1 + 1 := ⟨i / 2 - 1, by omega⟩
     obtain ⟨n0, hn0⟩ : ∃ n0, i - 1 - i / 2 = n0 := ⟨_, rfl⟩
     have e1 : ((stZ i).p 1).q.l = stRow 2 n1 := by rw [HFI.out.l1, hn1]; rfl
     have e0 : ((stZ i).p 0).q.l = stRow (n1 + 2) n0 := by rw [HFI.out.l0, hn0, hn1]
     have en : ((stZ i).p 0).q.num = (i : Int) := by unfold LQ.num; rw [HFI.out.nx]; rfl
     rw [en] at z0
     rw [e0] at z1 g0
     rw [e1] at z2 g1
     rw [HFI.out.tu] at z3
     have el : ∀ a k, (stRow a k).length = k := fun a k => by simp [stRow]
     rw [el] at z1 z2
     have hq : (i : Int).tdiv 2 = (n1 : Int) + 1 := by rw [Int.tdiv_eq_ediv_of_nonneg (by omega)]; omega
     have hE : (i : Int) - 1 - ((n1 : Int) + 1) = (n0 : Int) := by omega
     have hb1 : n1 ≤ 15 := by omega
     have hb0 : n0 ≤ 30 := by omega
     have HRS := Lib.hid hrs
     have G0 := Lib.hid g0
     have G1 := Lib.hid g1
     clear h2 h3 hrs HS g0 g1 e0 e1 en el hn1 hn0
     go_upto_region 25 with fail
     obtain ⟨k0, hk0, kz0, kz1, kz2⟩ := info_parts info_int
     have Hk := Lib.hid hk0; clear hk0
     have Hk0 := Lib.hid kz0; clear kz0
     have Hk1 := Lib.hid kz1; clear kz1
     have Hk2 := Lib.hid kz2; clear kz2
     have Z1 := Lib.hid z1
     have Z2 := Lib.hid z2
     have hbn : n1 + n0 ≤ 45 := by omega
     have hn1 : 0 + n1 ≤ 1000 := by omega
     have HBN := Lib.hid (And.intro hbn (And.intro hb1 hb0))
     have o1 : Own w4 w4.drew [] := Own.nil (below_drew1 w4)
     clear z0 z1 z2 z3 y0 y1 y2 hq hE hb1 hb0 hle hN2
     refine wp_region_lexH (fun wx => wx.cell? ⟨pb, off + 1, none⟩ = some (.slice (some ⟨r0, 0, none⟩) n0 n0) ∧ wx.cell? ⟨pb, off + 4 + 1, none⟩ = some (.slice (some ⟨r1, 0, none⟩) n1 n1)) 13 (Array.replicate 13 false) (by kernel_rfl) (by kernel_rfl) ?_
     generalize w4.drew = w5 at *
     refine wpAnyH_seg 1 4 _ #[false, true, true, true, true, false, false, false, false, false, false, false, false] 9 (by kernel_rfl) noPanic_put (⟨cell_below Z1.out o1.bel, cell_below Z2.out o1.bel⟩) (by kernel_rfl) ?_
     simp only [List.take_succ_cons, List.take_zero, List.drop_succ_cons, List.drop_zero]
     repeat ((first | refine wpSegH_no (by rfl) ?_ | (refine wpSegH_yes (by rfl) ?_; apply Exists.intro; apply And.intro; (· (intro wx hS; (try dsimp only at hS); go_simp; first | done | with_reducible rfl)))); simp only [Act.put, List.setIfInBounds_toArray, List.set_cons_zero, List.set_cons_succ])
     refine wpSegH_nil ?_
     refine wpAnyH_seg 6 4 _ #[false, true, true, true, true, false, true, true, true, true, false, false, false] 5 (by kernel_rfl) noPanic_put (⟨cell_below Z1.out o1.bel, cell_below Z2.out o1.bel⟩) (by kernel_rfl) ?_
     simp only [List.take_succ_cons, List.take_zero, List.drop_succ_cons, List.drop_zero]
     repeat ((first | refine wpSegH_no (by rfl) ?_ | (refine wpSegH_yes (by rfl) ?_; apply Exists.intro; apply And.intro; (· (intro wx hS; (try dsimp only at hS); go_simp; first | done | with_reducible rfl)))); simp only [Act.put, List.setIfInBounds_toArray, List.set_cons_zero, List.set_cons_succ])
     refine wpSegH_nil ?_
     refine wpAnyH_seg 12 1 _ #[false, true, true, true, true, false, true, true, true, true, false, false, true] 4 (by kernel_rfl) noPanic_put (⟨cell_below Z1.out o1.bel, cell_below Z2.out o1.bel⟩) (by kernel_rfl) ?_
     simp only [List.take_succ_cons, List.take_zero, List.drop_succ_cons, List.drop_zero]
     repeat ((first | refine wpSegH_no (by rfl) ?_ | (refine wpSegH_yes (by rfl) ?_; apply Exists.intro; apply And.intro; (· (intro wx hS; (try dsimp only at hS); go_simp; first | done | with_reducible rfl)))); simp only [Act.put, List.setIfInBounds_toArray, List.set_cons_zero, List.set_cons_succ])
     refine wpSegH_nil ?_
     have o2 : Own w4 (w5.alloc (.cells #[] 3)) [RowGA 1 (some ⟨w5.heap.size, 0, none⟩) 0 0 []] := o1.add (below_alloc1 _ _) (A := RowGA 1 (some ⟨w5.heap.size, 0, none⟩) 0 0 []) (F := [w5.heap.size]) ⟨rfl, RowG.zero (by simp)⟩ (by intro x hx; simp at hx; omega)
     refine wpAnyH_one 0 _ #[true, true, true, true, true, false, true, true, true, true, false, false, true] 3 (by kernel_rfl) (fun K hK => ?_)
     have HKK := Lib.hid hK
     clear hK
     simp only [List.drop_zero]
     refine headH_mk (by rfl) ?_
     go_simp
     refine HKK.out _ _ (⟨cell_below Z1.out o2.bel, cell_below Z2.out o2.bel⟩) ?_
     clear HKK K
     refine wpAnyH_one 5 _ #[true, true, true, true, true, true, true, true, true, true, false, false, true] 2 (by kernel_rfl) (fun K hK => ?_)
     have HKK := Lib.hid hK
     clear hK
     simp only [List.drop_succ_cons, List.drop_zero]
     refine headH_mk (by rfl) ?_
     refine wp_append_rowG (n := 0) (m := n1) (cs := []) (ds := intc (stRow 2 n1)) _ _ 38 (by rfl) 3 k0 _ Tryz.underlying38 Hk.out Hk0.out Hk1.out Hk2.out rfl (by omega) (by omega) (by rfl) (by rfl) (o2.rowG 0 rfl) (fun j v hj => by obtain ⟨b', f', e, hc⟩ := G1.out j v hj; exact ⟨b', f', e, by cases e; exact cell_below hc o2.bel⟩) (by simp [intc, stRow]) (fun u hu => by simp [intc] at hu; obtain ⟨x, -, rfl⟩ := hu; rfl) (by have := HBN.out; omega) ?_
     intro a9 c9 w9 k9 ch9 f9
     have o3 := Own.rowTurn o2 k9 ch9 f9
     refine HKK.out _ _ (⟨cell_below Z1.out o3.bel, cell_below Z2.out o3.bel⟩) ?_
     clear HKK K
     refine wpAnyH_one 10 _ #[true, true, true, true, true, true, true, true, true, true, true, false, true] 1 (by kernel_rfl) (fun K hK => ?_)
     have HKK := Lib.hid hK
     clear hK
     simp only [List.drop_succ_cons, List.drop_zero]
     refine headH_mk (by rfl) ?_
     refine wp_append_rowG (n := 0 + n1) (m := n0) (cs := [] ++ intc (stRow 2 n1)) (ds := intc (stRow (n1 + 2) n0)) _ _ 38 (by rfl) 3 k0 _ Tryz.underlying38 Hk.out Hk0.out Hk1.out Hk2.out rfl (by omega) (by omega) (by rfl) (by rfl) (o3.rowG 0 rfl) (fun j v hj => by obtain ⟨b', f', e, hc⟩ := G0.out j v hj; exact ⟨b', f', e, by cases e; exact cell_below hc o3.bel⟩) (by simp [intc, stRow]) (fun u hu => by simp [intc] at hu; obtain ⟨x, -, rfl⟩ := hu; rfl) (by have := HBN.out; omega) ?_
     intro aa ca wa ka cha fa
     have o4 := Own.rowTurn o3 ka cha fa
     refine HKK.out _ _ (⟨cell_below Z1.out o4.bel, cell_below Z2.out o4.bel⟩) ?_
     clear HKK K
     refine wpAnyH_seg 11 1 _ #[true, true, true, true, true, true, true, true, true, true, true, true, true] 0 (by kernel_rfl) noPanic_put (⟨cell_below Z1.out o4.bel, cell_below Z2.out o4.bel⟩) (by kernel_rfl) ?_
     simp only [List.take_succ_cons, List.take_zero, List.drop_succ_cons, List.drop_zero]
     repeat ((first | refine wpSegH_no (by rfl) ?_ | (refine wpSegH_yes (by rfl) ?_; apply Exists.intro; apply And.intro; (· (intro wx hS; (try dsimp only at hS); go_simp; first | done | with_reducible rfl)))); simp only [Act.put, List.setIfInBounds_toArray, List.set_cons_zero, List.set_cons_succ])
     refine wpSegH_nil ?_
     refine wpAnyH_done (by kernel_rfl) (NoPanic.normal ?_) _
     have HRW : Hid (∀ j, j < n1 + n0 → ∃ b' f', aa = some ⟨b', f', none⟩ ∧ wa.cell? ⟨b', f' + j, none⟩ = some (.int .i64 ((j : Int) + 2))) := Lib.hid (fun j hj => by
      refine ka.cells j _ ?_
      rw [List.nil_append, ← intc_app, st_rows]
      simp [intc, stRow, hj]
      omega)
     have HMC := Lib.hid (smachs_any (H3.out.step o4.bel) (by rw [HFI.out.ms]; omega))
     rw [HFI.out.ms] at HMC
     clear o1 o2 o3 o4 ka cha fa k9 ch9 f9 G0 G1
     go_wp2_with fail
     go_loopw [131] (fun jv wr => ∃ j : Nat, j ≤ n1 + n0 ∧ jv = .int .i64 j ∧ wr = wa) (fun jv _ => n1 + n0 - (intOf jv).toNat)
     case atStart => exact ⟨0, by omega, rfl, rfl⟩
     case round =>
      obtain ⟨j, hj, rfl, rfl⟩ := hrel
      by_cases hlt : j < n1 + n0
      ·have hlt2 : (j : Int) < (n1 : Int) + (n0 : Int) := by omega
       have hj0 : (0 : Int) ≤ (j : Int) := by omega
       obtain ⟨b', f', rfl, hc⟩ := HRW.out j hlt
       clear HMC
       go_wp2
       exact ⟨⟨j + 1, by omega, by go_num, by first | rfl | trivial⟩, by simp [intOf]; omega⟩
      ·have hge : ¬ ((j : Int) < (n1 : Int) + (n0 : Int)) := by omega
       go_upto_region 31 with fail
       go_wp2_with fail
       refine HMC.out.mono ?_
       rintro r wf ⟨am, cm, rfl, hm⟩
       obtain ⟨mb, mo, rfl, m1⟩ := two_ms hm HFI.out.ms
       rw [HFI.out.g] at m1
       have hm2 : SAt w1 wf b sp L (stZ i) (RowGA 4 (some ⟨pb, off, none⟩) c 2 (pvs rs (stZ i).ps) :: LstA (prs rs (stZ i).ps) :: [SrcA sp 0 S' .nilFunc]) := hm.less.less
       obtain ⟨pb2, off2, -, -, e2, -, -, -, t1, -, -⟩ := two_ps hm2 HFI.out.ps HRS.out
       cases e2
       rw [HFI.out.tu] at t1
       have HBF := Lib.hid (below_on HB.out hm.bel)
       clear hm hm2 HMC
       go_wp2
       go_ret
       exact ⟨rfl, HBF.out⟩
end Go.Proofs.YtodjgipiomnnfaaGreat.schedSteals
