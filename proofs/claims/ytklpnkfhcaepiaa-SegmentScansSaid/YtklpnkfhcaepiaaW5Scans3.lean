/-
  The walk of the law SegmentScans.
-/
import Derived.Test.YtklpnkfhcaepiaaW5Scans2
import Derived.Test.YtklpnkfhcaepiaaWCut
import Derived.Test.YtklpnkfhcaepiaaInArgs
import Derived.Deep.RegionHeld3
import Derived.Deep.DrawnRows
import Derived.RegionTactic
import Derived.ChangeAlike
import Derived.WalkSmall
import Derived.OpenShut
import Derived.Deep.DeepCutAuto
open Go Go.RowKit
set_option linter.unusedVariables false
namespace Go.Proofs.Ytklpnkfhcaepiaa.segmentScans
attribute [local go_sem ↓] Go.wp_at_zero Go.wp_at_succ
theorem enters (args : Array Value) (w : World) : (callFunc 20 args).run Try.prog w = .ok (.enter 20 args) w := by kernel_rfl
def nums (l : List (ByteArray × Nat)) : List Nat := 0 :: l.map (·.2)
theorem bods_add (l : List (ByteArray × Nat)) (b : ByteArray) (e : Nat) : bods (l ++ [(b, e)]) = bods l ++ [b] := by simp [bods]
theorem nums_add (l : List (ByteArray × Nat)) (b : ByteArray) (e : Nat) : nums (l ++ [(b, e)]) = nums l ++ [e] := by simp [nums]
theorem bods_len (l : List (ByteArray × Nat)) : (bods l).length = l.length := by simp [bods]
theorem nums_len (l : List (ByteArray × Nat)) : (nums l).length = l.length + 1 := by simp [nums]
theorem scanF_len : ∀ (f : Nat) (s : ByteArray) (a q : Nat), (scanF f s a q).length ≤ f
  | 0, s, a, q => by simp [scanF]
  | f + 1, s, a, q => by
    rw [scanF]
    split
    · rw [List.length_cons]; have := scanF_len f s (openR s a).2.2.1 ((q + 1) % 18446744073709551616); omega
    · simp
theorem scanR_len (s : ByteArray) (q : Nat) : (scanR s q).length ≤ s.size + 1 := scanF_len _ _ _ _
theorem nums_last (l : List (ByteArray × Nat)) (h : l.length < (nums l).length) : (nums l)[l.length] = lastEnd l := by
  rcases List.eq_nil_or_concat l with rfl | ⟨l', x, rfl⟩
  · rfl
  · simp only [List.concat_eq_append, lastEnd_snoc]; simp [nums]
set_option maxHeartbeats 1000000 in
/-- The program's Scan, that shows its bodies to the law's own. -/
theorem scan_seen (hsee : SeeAny) (w2 W : World) (pg pe ps q : Nat) (stop : Int) (T : ByteArray) (hT : T.size ≤ 1000) (hq : q < 18446744073709551616) (h : Two w2 W pg pe [] [0]) (hst : w2.cell? ⟨ps, 0, none⟩ = some (.int .i64 stop)) :
    Calls Try.prog 19 #[.string T, .int .u64 q, .func (.func 20) #[] #[.pointer (some ⟨pg, 0, none⟩), .pointer (some ⟨ps, 0, none⟩), .pointer (some ⟨pe, 0, none⟩)]] W fun e w' =>
      ∃ pre post, scanR T q = pre ++ post ∧ e = .returned (.int .i64 (lastEnd pre : Int)) ∧ Two w2 w' pg pe (bods pre) (nums pre) ∧ ((post = [] ∧ (0 ≤ stop → (pre.length : Int) ≤ stop)) ∨ (post ≠ [] ∧ stop = (pre.length : Int))) := by
  have hlen := scanR_len T q
  refine (scan_any 20 _ T q W (by omega) hq (fun pre W' => Two w2 W' pg pe (bods pre) (nums pre) ∧ (0 ≤ stop → (pre.length : Int) ≤ stop)) (fun pre W' => Two w2 W' pg pe (bods pre) (nums pre) ∧ stop = (pre.length : Int)) enters ⟨h, fun h => h⟩ ?_ ?_).mono ?_
  · rintro pre W1 W' ⟨h1, h2⟩ hw
    exact ⟨h1.below hw, h2⟩
  · rintro pre b e post W1 hL ⟨h1, h2⟩ hbs hes
    have hl := congrArg List.length hL
    rw [List.length_append, List.length_cons] at hl
    have hcell : W1.cell? ⟨ps, 0, none⟩ = some (.int .i64 stop) := by
      obtain ⟨_, _, _, _, _, _, _, _, _, _, _, _, _, _, hB⟩ := h1
      exact cell_below hst hB
    refine (hsee _ _ _ _ _ _ _ _ b e h1 (by rw [bods_len]; omega) (by rw [nums_len]; omega) hcell).mono ?_
    rintro r W' (⟨rfl, g1, g2⟩ | ⟨rfl, g1, g2⟩)
    · rw [bods_len] at g1
      refine .inl ⟨rfl, by rw [bods_add, nums_add]; exact g2, fun h0 => ?_⟩
      have := h2 h0
      rw [List.length_append, List.length_singleton]; omega
    · rw [bods_len] at g1
      exact .inr ⟨rfl, g2, g1⟩
  · rintro e w' ⟨pre, post, h1, rfl, ⟨rfl, h2, h3⟩ | ⟨h0, h2, h3⟩⟩
    · exact ⟨pre, [], h1, rfl, h2, .inl ⟨rfl, h3⟩⟩
    · exact ⟨pre, post, h1, rfl, h2, .inr ⟨h0, h3⟩⟩
end Go.Proofs.Ytklpnkfhcaepiaa.segmentScans
