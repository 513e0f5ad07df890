/-
  The walks of mod and awake.
-/
import Derived.Test.YtjanangcfgmdeaaDoorWCOwn
open Go Go.RowKit
set_option linter.unusedVariables false
namespace Go.Proofs.YtjanangcfgmdeaaDoor
/-- A number from 0 to below another one. -/
def modI (n m : Int) : Int := if m < 1 then 0 else (n.tmod m + m).tmod m
theorem tmod_range (n m : Int) (h : 1 ≤ m) : -m < n.tmod m ∧ n.tmod m < m := by
  constructor
  · rcases (by omega : n < 0 ∨ 0 ≤ n) with hn | hn
    · have h1 := Int.tmod_nonneg m (show 0 ≤ -n by omega)
      have h2 := Int.tmod_lt_of_pos (-n) (show 0 < m by omega)
      rw [Int.neg_tmod] at h1 h2
      omega
    · have := Int.tmod_nonneg m hn; omega
  · exact Int.tmod_lt_of_pos n (by omega)
theorem modI_range (n m : Int) (h : 1 ≤ m) : 0 ≤ modI n m ∧ modI n m < m := by
  obtain ⟨h1, h2⟩ := tmod_range n m h
  unfold modI
  rw [if_neg (by omega)]
  exact ⟨Int.tmod_nonneg m (by omega), Int.tmod_lt_of_pos _ (by omega)⟩
set_option maxRecDepth 100000 in
set_option maxHeartbeats 2000000 in
theorem mod_any (n m : Int) (w : World) (hm : m ≤ 1000000) : Calls Tryd.prog 9 #[.int .i64 n, .int .i64 m] w fun e w' => e = .returned (.int .i64 (modI n m)) ∧ w' = w := by
  by_cases h : m < 1
  · have e : modI n m = 0 := by unfold modI; rw [if_pos h]
    rw [e]
    clear e hm
    go_enter Tryd.func9, Tryd.ntmps9
    go_wp2_with fail
    go_ret
    exact ⟨rfl, rfl⟩
  · obtain ⟨h1, h2⟩ := tmod_range n m (by omega)
    have e : modI n m = (n.tmod m + m).tmod m := by unfold modI; rw [if_neg h]
    obtain ⟨h3, h4⟩ := modI_range n m (by omega)
    rw [e] at h3 h4 ⊢
    obtain ⟨x, hx⟩ : ∃ x, n.tmod m = x := ⟨_, rfl⟩
    obtain ⟨y, hy⟩ : ∃ y, (x + m).tmod m = y := ⟨_, rfl⟩
    rw [hx] at h1 h2 h3 h4 ⊢
    rw [hy] at h3 h4 ⊢
    have hm0 : ¬ m = 0 := by omega
    clear e
    go_enter Tryd.func9, Tryd.ntmps9
    go_wp2_with fail
    go_ret
    exact ⟨rfl, rfl⟩
set_option maxRecDepth 100000 in
set_option maxHeartbeats 4000000 in
theorem awake10_any (w : World) (hg : ShAt w) : Calls Tryd.prog 5 #[] w fun e w' => e = .returned (.bool true) ∧ Below w.heap.size w w' := by
  have h1 : ∀ t u, PAt ((w.alloc (.cells #[.int .i64 0, .int .i64 0, .int .i64 0, .int .i64 0] t)).alloc (.cells #[.slice (some ⟨w.heap.size, 0, none⟩) 1 1] u)) (some ⟨w.heap.size + 1, 0, none⟩) none none ⟨[[(0, 0, 0, 0)]], [], 0, []⟩ := fun t u => by
    have b0 := Blk.mk w [.int .i64 0, .int .i64 0, .int .i64 0, .int .i64 0] t _ rfl
    have b1 := Blk.mk (w.alloc (.cells #[.int .i64 0, .int .i64 0, .int .i64 0, .int .i64 0] t)) [.slice (some ⟨w.heap.size, 0, none⟩) 1 1] u (w.heap.size + 1) (by simp)
    have b2 := b0.below (below_alloc1 _ (.cells #[.slice (some ⟨w.heap.size, 0, none⟩) 1 1] u))
    refine ⟨fun i hi => ?_, IntsAt.nil _ _, fun i hi => by simp at hi⟩
    obtain rfl : i = 0 := by simpa using hi
    refine ⟨_, 0, _, 1, rfl, (b1 0 _ rfl).1, fun k hk => ?_⟩
    obtain rfl : k = 0 := by simpa using hk
    exact ⟨_, 0, rfl, (b2 0 _ rfl).1, (b2 1 _ rfl).1, (b2 2 _ rfl).1, (b2 3 _ rfl).1⟩
  have h2 : ∀ w', PAt w' none none none ⟨[], [], 0, []⟩ := fun w' => ⟨fun i hi => by simp at hi, IntsAt.nil _ _, fun i hi => by simp at hi⟩
  have c1 := fun t u => check_any (some ⟨w.heap.size + 1, 0, none⟩) 1 none 0 none 0 ⟨[[(0, 0, 0, 0)]], [], 0, []⟩ _ ((hg.below (below_alloc1 _ _)).below (below_alloc1 _ _)) (h1 t u)
  have c2 := fun w' hs => check_any none 0 none 0 none 0 ⟨[], [], 0, []⟩ w' hs (h2 w')
  have e1 : chkI ⟨[[(0, 0, 0, 0)]], [], 0, []⟩ = (0, 0, 0) := by decide
  have e2 : chkI ⟨[], [], 0, []⟩ = (-1, -1, 3) := by decide
  simp only [e1, e2] at c1 c2
  unfold pv at c1 c2
  have hq : ∀ w, (binOp .eql 31 (.agg #[.int .i64 (-1), .int .i64 (-1), .int .i64 3]) (.agg #[.int .i64 (-1), .int .i64 (-1), .int .i64 3])).run Tryd.prog w = .ok (.bool true) w := fun _ => by kernel_rfl
  have C1 := Lib.hid c1
  have C2 := Lib.hid c2
  have HG := Lib.hid hg
  clear c1 c2 h1 h2 hg e1 e2
  go_enter Tryd.func5, Tryd.ntmps5
  go_wp2_with fail
  refine (C1.out _ _).mono ?_
  rintro e w1 ⟨rfl, b1⟩
  have B1 := Lib.hid (below_on ((below_alloc1 w _).alloc (by simp) _) b1)
  clear b1 C1
  go_wp2_with fail
  refine (C2.out _ (HG.out.below (below_on B1.out (below_alloc1 _ _)))).mono ?_
  rintro e w2 ⟨rfl, b2⟩
  have B2 := Lib.hid (below_on (below_on B1.out (below_alloc1 _ _)) b2)
  clear b2 C2
  go_wp2_with fail
  go_ret
  exact ⟨rfl, below_on B2.out (below_alloc1 _ _)⟩
end Go.Proofs.YtjanangcfgmdeaaDoor
