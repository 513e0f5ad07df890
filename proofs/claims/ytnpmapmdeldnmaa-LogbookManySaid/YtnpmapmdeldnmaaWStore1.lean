/-
  A store in memory; the walks of its calls.
-/
import Derived.Test.YtnpmapmdeldnmaaRows
import Derived.Test.YtnpmapmdeldnmaaFrame
import Derived.Deep.QuietTactic
import Derived.BigQuiet
import Derived.Lib.LazyBuf
import Derived.WalkSmall
import Derived.Deep.DeepCutAuto
import Derived.RegionTactic
open Go Go.RowKit
set_option linter.unusedVariables false
namespace Go.Proofs.Ytnpmapmdeldnmaa
/-- A store. -/
structure SSt where
  bs : List UInt8
  safe : Nat
  room : Nat
  armed : Bool
  left : Nat
  dead : Bool
def SSt.ok (s : SSt) : Prop := s.safe ≤ s.bs.length ∧ s.bs.length ≤ s.room ∧ s.room ≤ 9223372036854775807 ∧ s.left ≤ 9223372036854775807 ∧ s.bs.length ≤ 140737488355328
/-- Nothing. -/
def SSt.new (room : Int) : SSt := ⟨[], 0, room.toNat, false, 0, false⟩
/-- May a call go on? -/
def SSt.may (s : SSt) : Bool := !s.armed || decide (s.left ≠ 0)
/-- A call that asked. -/
def SSt.call (s : SSt) : SSt := if s.armed then (if s.left = 0 then { s with dead := true } else { s with left := s.left - 1 }) else s
def SSt.append (s : SSt) (t : List UInt8) : SSt := if s.may then (if s.bs.length + t.length ≤ s.room then { s.call with bs := s.bs ++ t } else s.call) else s.call
def SSt.appendE (s : SSt) (t : List UInt8) : Int := if s.may then (if s.bs.length + t.length ≤ s.room then 0 else 6) else 8
def SSt.sync (s : SSt) : SSt := if s.may then { s.call with safe := s.bs.length } else s.call
def SSt.syncE (s : SSt) : Int := if s.may then 0 else 8
def SSt.arm (s : SSt) (n : Int) : SSt := if s.dead then s else { s with armed := decide (0 ≤ n), left := n.toNat }
/-- How many bytes that aren't safe stay. -/
def SSt.keeps (s : SSt) (keep : Int) : Nat := min keep.toNat (s.bs.length - s.safe)
def overlay (l m : List UInt8) : List UInt8 := m.take l.length ++ l.drop m.length
def SSt.crash (s : SSt) (keep : Int) (m : List UInt8) : SSt :=
  ⟨s.bs.take s.safe ++ overlay ((s.bs.drop s.safe).take (s.keeps keep)) m, s.safe + s.keeps keep, s.room, false, 0, false⟩
/-- Its fields' cells. -/
def SSt.cells (s : SSt) (v : Value) : List Value := [v, .int .i64 (s.safe : Int), .int .i64 (s.room : Int), .bool s.armed, .int .i64 (s.left : Int), .bool s.dead]
/-- A store at block p; F: its blocks. -/
def StoreAt (w : World) (p : Nat) (s : SSt) (F : List Nat) : Prop :=
  s.ok ∧ ∃ v, F = p :: v.ownBlock.toList ∧ v.ownBlock ≠ some p ∧ Blk w p (s.cells v) ∧ w.ownsRow 0 5 1 v s.bs.length (u8c s.bs)
theorem StoreAt.chg {w w' : World} {p : Nat} {s : SSt} {F G : List Nat} (h : StoreAt w p s F) (c : Chg G w w') (hd : ∀ x ∈ F, x ∉ G) : StoreAt w' p s F := by
  obtain ⟨h0, v, rfl, h2, h3, h4⟩ := h
  refine ⟨h0, v, rfl, h2, h3.chg c (hd p (by simp)), owns_chg h4 c (fun g hg => hd g (by simp [hg]))⟩
theorem StoreAt.lt {w : World} {p : Nat} {s : SSt} {F : List Nat} (h : StoreAt w p s F) : ∀ x ∈ F, x < w.heap.size := by
  obtain ⟨h0, v, rfl, h2, h3, h4⟩ := h
  intro x hx
  simp at hx
  rcases hx with rfl | hx
  · exact h3.lt (by simp [SSt.cells])
  · exact owns_lt h4 x hx

set_option maxRecDepth 100000 in
set_option maxHeartbeats 1000000 in
theorem snew_any (r : Int) (w : World) (h1 : -9223372036854775808 ≤ r) (h2 : r ≤ 9223372036854775807) :
    Calls Try.prog 5 #[.int .i64 r] w fun e w' => e = .returned (.pointer (some ⟨w.heap.size, 0, none⟩)) ∧ StoreAt w' w.heap.size (SSt.new r) [w.heap.size] ∧ Chg [] w w' := by
  have hok : (SSt.new r).ok := by simp [SSt.ok, SSt.new]; omega
  have Hok := Lib.hid hok; clear hok
  by_cases h0 : r < 0
  all_goals
    go_enter Try.func5, Try.ntmps5
    go_wp2
    go_ret
    refine ⟨rfl, ⟨Hok.out, .slice none 0 0, rfl, by simp [Value.ownBlock], ?_, World.ownsRow_nil _ _ _ _⟩, Chg.of_below (below_alloc1 _ _)⟩
    first
      | (have e : (SSt.new r).cells (.slice none 0 0) = [.slice none 0 0, .int .i64 0, .int .i64 0, .bool false, .int .i64 0, .bool false] := by simp [SSt.cells, SSt.new, Int.toNat_of_nonpos (show r ≤ 0 by omega)]
         rw [e]
         exact Blk.mk w _ _ _ rfl)
      | (have e : (SSt.new r).cells (.slice none 0 0) = [.slice none 0 0, .int .i64 0, .int .i64 r, .bool false, .int .i64 0, .bool false] := by simp [SSt.cells, SSt.new, Int.toNat_of_nonneg (show 0 ≤ r by omega)]
         rw [e]
         exact Blk.mk w _ _ _ rfl)

theorem SSt.at (s : SSt) {w : World} {p : Nat} {v : Value} (h : Blk w p (s.cells v)) :
    (w.cell? ⟨p, 0, none⟩ = some v ∧ w.cell? ⟨p, 1, none⟩ = some (.int .i64 (s.safe : Int)) ∧ w.cell? ⟨p, 2, none⟩ = some (.int .i64 (s.room : Int)) ∧ w.cell? ⟨p, 3, none⟩ = some (.bool s.armed) ∧ w.cell? ⟨p, 4, none⟩ = some (.int .i64 (s.left : Int)) ∧ w.cell? ⟨p, 5, none⟩ = some (.bool s.dead)) ∧
    (w.frozen? ⟨p, 0, none⟩ = false ∧ w.frozen? ⟨p, 1, none⟩ = false ∧ w.frozen? ⟨p, 3, none⟩ = false ∧ w.frozen? ⟨p, 4, none⟩ = false ∧ w.frozen? ⟨p, 5, none⟩ = false) :=
  ⟨⟨(h 0 _ rfl).1, (h 1 _ rfl).1, (h 2 _ rfl).1, (h 3 _ rfl).1, (h 4 _ rfl).1, (h 5 _ rfl).1⟩, (h 0 _ rfl).2, (h 1 _ rfl).2, (h 3 _ rfl).2, (h 4 _ rfl).2, (h 5 _ rfl).2⟩

set_option maxRecDepth 100000 in
set_option maxHeartbeats 1000000 in
theorem let_any (p : Nat) (s : SSt) (F : List Nat) (w : World) (h : StoreAt w p s F) :
    Calls Try.prog 23 #[.pointer (some ⟨p, 0, none⟩)] w fun e w' => e = .returned (.bool s.may) ∧ StoreAt w' p s.call F ∧ Chg F w w' := by
  have h' := h
  obtain ⟨h0, v, rfl, h2, h3, h4⟩ := h
  obtain ⟨⟨g0, g1, g2, g3, g4, g5⟩, f0, f1, f3, f4, f5⟩ := s.at h3
  have H := Lib.hid h'; clear h'
  have H3 := Lib.hid h3; clear h3
  have H4 := Lib.hid h4; clear h4
  have H2 := Lib.hid h2; clear h2
  have hl := h0.2.2.2.1
  have H0 := Lib.hid h0; clear h0
  cases ha : s.armed
  · have e1 : s.may = true := by simp [SSt.may, ha]
    have e2 : s.call = s := by simp [SSt.call, ha]
    have E1 := Lib.hid e1; clear e1
    have E2 := Lib.hid e2; clear e2
    rw [ha] at g3
    clear ha
    go_enter Try.func23, Try.ntmps23
    go_wp2
    go_ret
    exact ⟨ret_bool E1.out.symm, by rw [E2.out]; exact H.out, Chg.refl _ _⟩
  · rw [ha] at g3
    by_cases hz : s.left = 0
    · have e1 : s.may = false := by simp [SSt.may, ha, hz]
      have e2 : s.call = { s with dead := true } := by simp [SSt.call, ha, hz]
      have E1 := Lib.hid e1; clear e1
      have E2 := Lib.hid e2; clear e2
      have g4' : w.cell? ⟨p, 4, none⟩ = some (.int .i64 0) := by rw [g4, hz]; rfl
      clear ha hz hl g4
      go_enter Try.func23, Try.ntmps23
      go_wp2
      go_ret
      refine ⟨ret_bool E1.out.symm, ?_, (Chg.refl _ _).setCell _ (.inl (by simp))⟩
      rw [E2.out]
      refine ⟨H0.out, v, rfl, H2.out, ?_, owns_chg H4.out ((Chg.refl [p] _).setCell _ (.inl (by simp))) (fun g hg => by simp; intro e; subst e; exact H2.out hg)⟩
      exact H3.out.set 5 (.bool true)
    · have e1 : s.may = true := by simp [SSt.may, ha, hz]
      have e2 : s.call = { s with left := s.left - 1 } := by simp [SSt.call, ha, hz]
      have E1 := Lib.hid e1; clear e1
      have E2 := Lib.hid e2; clear e2
      have hb : ((s.left : Int) == 0) = false := by rw [beq_eq_false_iff_ne]; omega
      have hc : (s.left : Int) - 1 = ((s.left - 1 : Nat) : Int) := by omega
      have HC := Lib.hid hc; clear hc
      clear ha hz
      go_enter Try.func23, Try.ntmps23
      go_wp2
      go_ret
      refine ⟨ret_bool E1.out.symm, ?_, (Chg.refl _ _).setCell _ (.inl (by simp))⟩
      rw [E2.out, HC.out]
      refine ⟨⟨H0.out.1, H0.out.2.1, H0.out.2.2.1, by simp only; omega, H0.out.2.2.2.2⟩, v, rfl, H2.out, ?_, owns_chg H4.out ((Chg.refl [p] _).setCell _ (.inl (by simp))) (fun g hg => by simp; intro e; subst e; exact H2.out hg)⟩
      exact H3.out.set 4 (.int .i64 ((s.left - 1 : Nat) : Int))
set_option maxRecDepth 100000 in
set_option maxHeartbeats 1000000 in
theorem slen_any (p : Nat) (s : SSt) (F : List Nat) (w : World) (h : StoreAt w p s F) :
    Calls Try.prog 17 #[.pointer (some ⟨p, 0, none⟩)] w fun e w' => e = .returned (.int .i64 (s.bs.length : Int)) ∧ w = w' := by
  obtain ⟨h0, v, rfl, h2, h3, h4⟩ := h
  obtain ⟨⟨g0, g1, g2, g3, g4, g5⟩, f0, f1, f3, f4, f5⟩ := s.at h3
  obtain ⟨a, cap, rfl⟩ : ∃ a cap, v = .slice a s.bs.length cap := by
    rcases h4.2 with ⟨rfl, hn⟩ | ⟨g, cap, cur, rfl, _⟩
    · exact ⟨none, 0, by rw [hn]⟩
    · exact ⟨_, _, rfl⟩
  clear h0 h2 h3 h4
  go_enter Try.func17, Try.ntmps17
  go_wp2
  go_ret
  exact ⟨rfl, rfl⟩
set_option maxRecDepth 100000 in
set_option maxHeartbeats 1000000 in
theorem sbytes_any (p : Nat) (s : SSt) (F : List Nat) (w : World) (h : StoreAt w p s F) :
    Calls Try.prog 16 #[.pointer (some ⟨p, 0, none⟩)] w fun e w' => e = .returned (.string ⟨s.bs.toArray⟩) ∧ w = w' := by
  obtain ⟨h0, v, rfl, h2, h3, h4⟩ := h
  obtain ⟨⟨g0, g1, g2, g3, g4, g5⟩, f0, f1, f3, f4, f5⟩ := s.at h3
  have hcv : (convert 48 9 v).run Try.prog w = .ok (.string ⟨s.bs.toArray⟩) w := by
    rcases h4.2 with ⟨rfl, hn⟩ | ⟨g, cap, cur, rfl, _⟩
    · rw [run_convert_bytes_nil w 48 5 Try.underlying48 Try.underlying5 0 0 9 Try.underlying9, List.length_eq_zero_iff.1 hn]
      rfl
    · exact run_convert_bytes_back (P := Try.prog) w 48 9 5 ⟨g, 0, none⟩ cap s.bs Try.underlying48 Try.underlying5 Try.underlying9 (fun j hj => h4.cells (g := g) rfl j _ (u8c_at _ j hj))
  clear h0 h2 h3 h4
  go_enter Try.func16, Try.ntmps16
  go_wp2
  go_ret
  exact ⟨rfl, rfl⟩
end Go.Proofs.Ytnpmapmdeldnmaa
