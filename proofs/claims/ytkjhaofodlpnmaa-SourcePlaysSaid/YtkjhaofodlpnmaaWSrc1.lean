/-
  Sources: lists that are cloned.
-/
import Derived.Test.YtkjhaofodlpnmaaRowG3
import Derived.Test.YtkjhaofodlpnmaaRecsIn
import Derived.Test.YtkjhaofodlpnmaaRows
open Go Go.RowKit
set_option linter.unusedVariables false
namespace Go.Proofs.Ytkjhaofodlpnmaa
/-- Numbers' cells. -/
def numc (l : List Nat) : List Value := l.map fun (n : Nat) => Value.int .u64 (n : Int)
theorem numc_len (l : List Nat) : (numc l).length = l.length := by simp [numc]
theorem numc_one (l : List Nat) : ∀ u ∈ numc l, u.oneCell' = true := by
  intro u hu; unfold numc at hu; rw [List.mem_map] at hu; obtain ⟨n, _, rfl⟩ := hu; rfl
theorem recc_one (l : List Rec) : ∀ u ∈ recCells l, u.oneCell' = true := by
  intro u hu; unfold recCells at hu; rw [List.mem_flatMap] at hu; obtain ⟨r, _, h⟩ := hu; simp at h; rcases h with rfl | rfl <;> rfl
theorem info_u6 : (Try.prog.info? 35).map (fun i => (i.zero, i.size, i.bytes)) = some (some (.int .u64 0), 1, 8) := by kernel_rfl
theorem info_rcd : (Try.prog.info? 37).map (fun i => (i.zero, i.size, i.bytes)) = some (some (.agg #[.int .i64 0, .int .u64 0]), 2, 16) := by kernel_rfl
set_option maxRecDepth 100000 in
set_option maxHeartbeats 1000000 in
theorem cloneu_any (w : World) (a : Option Addr) (n c : Nat) (cs : List Value) (h : CellsAt w a cs) (hn : cs.length = n) (hone : ∀ u ∈ cs, u.oneCell' = true) (h0 : a = none → n = 0 ∧ c = 0) (hl : n * 8 ≤ 140737488355328) :
    Calls Try.prog 17 #[.slice a n c] w fun r w' => ∃ a' c', r = .returned (.slice a' n c') ∧ RowG 1 w' a' c' n cs ∧ (∀ x ∈ blk a', w.heap.size ≤ x) ∧ Below w.heap.size w w' := by
  cases a with
  | none =>
    obtain ⟨rfl, rfl⟩ := h0 rfl
    obtain rfl := List.length_eq_zero_iff.1 hn
    clear h hone
    have he : ∀ w : World, (binOp .eql 22 (.slice none 0 0) (.slice none 0 0)).run Try.prog w = .ok (.bool true) w := fun _ => rfl
    go_enter Try.func17, Try.ntmps17
    go_wp2
    go_ret
    exact ⟨none, 0, rfl, RowG.nil _ _, fun x hx => by simp [blk] at hx, Below.refl _ _⟩
  | some ad =>
    obtain ⟨i0, hi0, hz0, hz1, hz2⟩ := info_parts info_u6
    have Hi := Lib.hid hi0; clear hi0
    have Hz0 := Lib.hid hz0; clear hz0
    have Hz1 := Lib.hid hz1; clear hz1
    have Hz2 := Lib.hid hz2; clear hz2
    have H := Lib.hid h
    have HO := Lib.hid hone
    have HN := Lib.hid hn
    clear h hone h0 hn
    have he : ∀ w : World, (binOp .eql 22 (.slice (some ad) n c) (.slice none 0 0)).run Try.prog w = .ok (.bool false) w := fun _ => rfl
    go_enter Try.func17, Try.ntmps17
    go_wp2_with (at_builtin; refine wpList_append_none (m := n) (ds := cs) rfl _ _ 22 rfl 35 i0 _ Try.underlying22 Hi.out Hz0.out Hz1.out Hz2.out rfl (by omega) rfl rfl (by simp) (H.out.below (below_alloc1 _ _)) (by rw [HN.out]; simp) HO.out (by unfold maxLen; omega) (by omega) (by rw [World.cell?_alloc_mark]; rfl) ?_)
    intro a1 c1 w1 k1 ch1 f1
    have hf : RowG 1 w1 a1 c1 n cs ∧ (∀ x ∈ blk a1, w.heap.size ≤ x) ∧ Below w.heap.size w w1 := by
      refine ⟨by simpa using k1, fun x hx => ?_, Chg.below (below_alloc1 _ _) ch1 (fun x hx => by simp at hx; omega)⟩
      rcases f1 x hx with h | h
      · omega
      · first | omega | (simp at h; omega)
    have HF := Lib.hid hf
    clear hf k1 ch1 f1
    go_wp2
    go_ret
    exact ⟨a1, c1, by simp, HF.out⟩
set_option maxRecDepth 100000 in
set_option maxHeartbeats 1000000 in
theorem cloner_any (w : World) (a : Option Addr) (n c : Nat) (cs : List Value) (h : CellsAt w a cs) (hn : cs.length = n * 2) (hone : ∀ u ∈ cs, u.oneCell' = true) (h0 : a = none → n = 0 ∧ c = 0) (hl : n * 16 ≤ 140737488355328) :
    Calls Try.prog 19 #[.slice a n c] w fun r w' => ∃ a' c', r = .returned (.slice a' n c') ∧ RowG 2 w' a' c' n cs ∧ (∀ x ∈ blk a', w.heap.size ≤ x) ∧ Below w.heap.size w w' := by
  cases a with
  | none =>
    obtain ⟨rfl, rfl⟩ := h0 rfl
    obtain rfl := List.length_eq_zero_iff.1 (show cs.length = 0 by omega)
    clear h hone
    have he : ∀ w : World, (binOp .eql 26 (.slice none 0 0) (.slice none 0 0)).run Try.prog w = .ok (.bool true) w := fun _ => rfl
    go_enter Try.func19, Try.ntmps19
    go_wp2
    go_ret
    exact ⟨none, 0, rfl, RowG.nil _ _, fun x hx => by simp [blk] at hx, Below.refl _ _⟩
  | some ad =>
    obtain ⟨i0, hi0, hz0, hz1, hz2⟩ := info_parts info_rcd
    have Hi := Lib.hid hi0; clear hi0
    have Hz0 := Lib.hid hz0; clear hz0
    have Hz1 := Lib.hid hz1; clear hz1
    have Hz2 := Lib.hid hz2; clear hz2
    have H := Lib.hid h
    have HO := Lib.hid hone
    have HN := Lib.hid hn
    clear h hone h0 hn
    have he : ∀ w : World, (binOp .eql 26 (.slice (some ad) n c) (.slice none 0 0)).run Try.prog w = .ok (.bool false) w := fun _ => rfl
    go_enter Try.func19, Try.ntmps19
    go_wp2_with (at_builtin; refine wpList_append_none (m := n) (ds := cs) rfl _ _ 26 rfl 37 i0 _ Try.underlying26 Hi.out Hz0.out Hz1.out Hz2.out rfl (by omega) rfl rfl (by simp) (H.out.below (below_alloc1 _ _)) HN.out HO.out (by unfold maxLen; omega) (by omega) (by rw [World.cell?_alloc_mark]; rfl) ?_)
    intro a1 c1 w1 k1 ch1 f1
    have hf : RowG 2 w1 a1 c1 n cs ∧ (∀ x ∈ blk a1, w.heap.size ≤ x) ∧ Below w.heap.size w w1 := by
      refine ⟨by simpa using k1, fun x hx => ?_, Chg.below (below_alloc1 _ _) ch1 (fun x hx => by simp at hx; omega)⟩
      rcases f1 x hx with h | h
      · omega
      · first | omega | (simp at h; omega)
    have HF := Lib.hid hf
    clear hf k1 ch1 f1
    go_wp2
    go_ret
    exact ⟨a1, c1, by simp, HF.out⟩
end Go.Proofs.Ytkjhaofodlpnmaa
