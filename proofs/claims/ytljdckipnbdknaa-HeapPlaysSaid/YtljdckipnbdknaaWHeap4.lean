/-
  The walks of a heap's Min, Len, Cancel.
-/
import Derived.Test.YtljdckipnbdknaaWHeap3
open Go Go.RowKit
set_option linter.unusedVariables false
namespace Go.Proofs.Ytljdckipnbdknaa
set_option maxRecDepth 100000 in
set_option maxHeartbeats 1000000 in
theorem hlen_any (w : World) (p : Nat) (v : Value) (l : List It) (nx : Nat) (h : HeapAt w p v l nx) :
    Calls Try.prog 15 #[.pointer (some ⟨p, 0, none⟩)] w fun r w' => r = .returned (.int .i64 (l.length : Int)) ∧ w' = w := by
  obtain ⟨h1, h2, h3⟩ := h
  obtain ⟨a0, cap, rfl, hcap⟩ := h2.slice
  obtain ⟨c0, -⟩ := h1 0 _ rfl
  clear h1 h2 h3
  go_enter Try.func15, Try.ntmps15
  go_wp2
  go_ret
  exact ⟨rfl, rfl⟩
set_option maxRecDepth 100000 in
set_option maxHeartbeats 1000000 in
theorem hmin_none (w : World) (p : Nat) (v : Value) (nx : Nat) (h : HeapAt w p v [] nx) :
    Calls Try.prog 13 #[.pointer (some ⟨p, 0, none⟩)] w fun r w' => r = .returned (.tuple #[itv ⟨0, 0, 0⟩, .bool false]) ∧ Below w.heap.size w w' := by
  obtain ⟨h1, h2, h3⟩ := h
  obtain ⟨a0, cap, rfl, hcap⟩ := h2.slice
  obtain ⟨c0, -⟩ := h1 0 _ rfl
  have c0' : w.cell? ⟨p, 0, none⟩ = some (.slice a0 0 cap) := c0
  have hp := h1.lt (by simp)
  clear h1 h2 h3 c0
  unfold itv
  have hend : ∀ v0 v1 v2 o, Below w.heap.size w ((((w.alloc o).setCell ⟨w.heap.size, 0, none⟩ v0).setCell ⟨w.heap.size, 1, none⟩ v1).setCell ⟨w.heap.size, 2, none⟩ v2) := fun v0 v1 v2 o =>
    (((below_alloc1 w o).setCell (p := ⟨w.heap.size, 0, none⟩) (Nat.le_refl _) v0).setCell (p := ⟨w.heap.size, 1, none⟩) (Nat.le_refl _) v1).setCell (p := ⟨w.heap.size, 2, none⟩) (Nat.le_refl _) v2
  have HE := Lib.hid hend; clear hend
  go_enter Try.func13, Try.ntmps13
  go_wp2
  exact bodyPost_ret (v := .tuple #[.agg #[.int .u64 0, .int .u64 0, .int .i64 0], .bool false]) (by simp [results, Try.results13, go_sem]) rfl ⟨rfl, by first | exact HE.out _ _ _ _ | exact below_alloc1 _ _⟩
set_option maxRecDepth 100000 in
set_option maxHeartbeats 1000000 in
theorem hmin_any (w : World) (p : Nat) (v : Value) (l : List It) (nx : Nat) (h : HeapAt w p v l nx) (hl : 0 < l.length) :
    Calls Try.prog 13 #[.pointer (some ⟨p, 0, none⟩)] w fun r w' => r = .returned (.tuple #[itv (gI l 0), .bool true]) ∧ Below w.heap.size w w' := by
  obtain ⟨h1, h2, h3⟩ := h
  have hlt := h2.lt
  obtain ⟨g, cap, rfl, hcap⟩ := h2.form hl
  have hg : g < w.heap.size := hlt g (by simp [Value.ownBlock])
  obtain ⟨c0, -⟩ := h1 0 _ rfl
  obtain ⟨c1, c2, c3⟩ := h2.cell 0 hl
  have hp := h1.lt (by simp)
  obtain ⟨n, hn⟩ : ∃ n, n = l.length := ⟨_, rfl⟩
  rw [← hn] at c0 hl
  have hb0 : ((n : Int) == 0) = false := by rw [beq_eq_false_iff_ne]; omega
  have hn0 : (0 : Int) < (n : Int) := by omega
  clear h1 h2 h3 hlt hn hcap
  generalize gI l 0 = x at *
  obtain ⟨xa, xs, xi⟩ := x
  unfold itv
  simp only [Nat.zero_mul, Nat.zero_add] at c1 c2 c3 ⊢
  go_enter Try.func13, Try.ntmps13
  go_wp2
  exact bodyPost_ret (v := .tuple #[.agg #[.int .u64 xa, .int .u64 xs, .int .i64 xi], .bool true]) (by simp [results, Try.results13, go_sem]) rfl ⟨rfl, below_alloc1 _ _⟩
set_option maxRecDepth 100000 in
set_option maxHeartbeats 1000000 in
theorem seqIs_any (w : World) (x : It) (s : Int) (c : Nat) (hc : w.cell? ⟨c, 0, none⟩ = some (.int .u64 s)) :
    Calls Try.prog 18 #[itv x, .pointer (some ⟨c, 0, none⟩)] w fun r w' => r = .returned (.bool (x.seq == s)) ∧ Below w.heap.size w w' := by
  have hlt := World.block_lt_of_cell? w _ hc
  obtain ⟨xa, xs, xi⟩ := x
  unfold itv
  go_enter Try.func18, Try.ntmps18
  go_wp2
  go_ret
  exact ⟨rfl, below_alloc1 _ _⟩
/-- Where somebody of that number stands. -/
def Found (l : List It) (s : Int) (r : Ending) : Prop := (∃ k : Nat, r = .returned (.int .i64 k) ∧ k < l.length ∧ (gI l k).seq = s) ∨ (r = .returned (.int .i64 (-1)) ∧ ∀ j, j < l.length → (gI l j).seq ≠ s)
set_option maxRecDepth 100000 in
set_option maxHeartbeats 1000000 in
theorem idxf_any (w : World) (v : Value) (l : List It) (s : Int) (c : Nat) (h : ItemsAt w v l) (hl : l.length ≤ 1000000) (hc : w.cell? ⟨c, 0, none⟩ = some (.int .u64 s)) :
    Calls Try.prog 17 #[v, .func (.func 18) #[] #[.pointer (some ⟨c, 0, none⟩)]] w fun r w' => Found l s r ∧ Below w.heap.size w w' := by
  obtain ⟨a0, cap, rfl, hcap⟩ := h.slice
  have hlt := World.block_lt_of_cell? w _ hc
  have hcell : ∀ w', Below w.heap.size w w' → ∀ i, i < l.length → ∃ g, a0 = some ⟨g, 0, none⟩ ∧ w'.cell? ⟨g, i * 3, none⟩ = some (.int .u64 (gI l i).at_) ∧ w'.cell? ⟨g, i * 3 + 1, none⟩ = some (.int .u64 (gI l i).seq) ∧ w'.cell? ⟨g, i * 3 + 2, none⟩ = some (.int .i64 (gI l i).id) := fun w' hb i hi => by
    obtain ⟨g, cap', hv, _⟩ := h.form (by omega)
    simp only [Value.slice.injEq, true_and] at hv
    obtain ⟨rfl, rfl⟩ := hv
    exact ⟨g, rfl, (h.below hb).cell i hi⟩
  have hcall : ∀ w', Below w.heap.size w w' → ∀ x, Calls Try.prog 18 #[itv x, .pointer (some ⟨c, 0, none⟩)] w' fun r w'' => r = .returned (.bool (x.seq == s)) ∧ Below w.heap.size w w'' := fun w' hb x =>
    (seqIs_any w' x s c (cell_below hc hb)).mono fun r w'' ⟨e1, e2⟩ => ⟨e1, below_on hb e2⟩
  have hfound : ∀ k : Nat, k < l.length → (gI l k).seq = s → Found l s (.returned (.int .i64 k)) := fun k h1 h2 => .inl ⟨k, rfl, h1, h2⟩
  have hnone : (∀ j, j < l.length → (gI l j).seq ≠ s) → Found l s (.returned (.int .i64 (-1))) := fun h1 => .inr ⟨rfl, h1⟩
  have HCELL := Lib.hid hcell
  have HCALL := Lib.hid hcall
  have HF := Lib.hid hfound
  have HNO := Lib.hid hnone
  obtain ⟨n, hn⟩ : ∃ n, n = l.length := ⟨_, rfl⟩
  rw [← hn] at hl ⊢
  have HN := Lib.hid hn
  clear h hc hlt hcell hcall hfound hnone hcap hn
  have eg : ∀ args w, (callFunc 18 args).run Try.prog w = .ok (.enter 18 args) w := by intro args w; kernel_rfl
  go_enter Try.func17, Try.ntmps17
  go_wp2_with fail
  go_loopw [8] (fun t wr => ∃ i : Nat, i ≤ n ∧ t = .int .i64 i ∧ Hid (Below w.heap.size w wr ∧ ∀ j, j < i → (gI l j).seq ≠ s)) (fun t _ => n - (intOf t).toNat)
  case atStart => exact ⟨0, by omega, rfl, Below.refl _ _, fun j hj => by omega⟩
  case round =>
    obtain ⟨i, hi, rfl, hr⟩ := hrel
    by_cases hlt : i < n
    · obtain ⟨g, rfl, c1, c2, c3⟩ := HCELL.out _ hr.out.1 i (by have := HN.out; omega)
      have hli : (i : Int) < (n : Int) := by omega
      have hcl := HCALL.out _ hr.out.1 (gI l i)
      have hdec : (gI l i).seq = s ∨ (gI l i).seq ≠ s := by omega
      have HF' := Lib.hid (HF.out i (by have := HN.out; omega))
      have hnext : (gI l i).seq ≠ s → ∀ j, j < i + 1 → (gI l j).seq ≠ s := fun h j hj => by
        by_cases e : j = i
        · subst e; exact h
        · exact hr.out.2 j (by omega)
      have HNEXT := Lib.hid hnext
      clear hnext
      generalize gI l i = x at *
      obtain ⟨xa, xs, xi⟩ := x
      unfold itv at hcl
      simp only at c1 c2 c3 hcl hdec
      rcases hdec with rfl | hne
      · rw [beq_self_eq_true] at hcl
        have HCL := Lib.hid hcl; clear hcl
        go_wp2_with fail
        refine HCL.out.mono ?_
        rintro r w1 ⟨rfl, hb⟩
        have HB := Lib.hid hb; clear hb
        go_wp2
        go_ret
        exact ⟨HF'.out (by first | trivial | rfl), HB.out⟩
      · rw [beq_eq_false_iff_ne.2 hne] at hcl
        have HCL := Lib.hid hcl; clear hcl
        have hx := HNEXT.out hne
        have HX := Lib.hid hx; clear hx hne
        go_wp2_with fail
        refine HCL.out.mono ?_
        rintro r w1 ⟨rfl, hb⟩
        have HB : Hid (Below w.heap.size w w1 ∧ ∀ j, j < i + 1 → (gI l j).seq ≠ s) := ⟨hb, HX.out⟩
        clear hb
        go_wp2
        exact ⟨⟨i + 1, by omega, by go_num, HB⟩, by simp [intOf]; omega⟩
    · obtain rfl : i = n := by omega
      have HE := Lib.hid (HNO.out (fun j hj => hr.out.2 j (by have := HN.out; omega)))
      have HB := Lib.hid hr.out.1
      clear hr
      go_wp2
      go_ret
      exact ⟨HE.out, HB.out⟩
/-- What Cancel comes to. -/
def Canc (w : World) (p : Nat) (v : Value) (l : List It) (nx : Nat) (s : Int) (r : Ending) (w' : World) : Prop :=
  (∃ (k : Nat) (v' : Value), r = .returned (.bool true) ∧ k < l.length ∧ (gI l k).seq = s ∧ HeapAt w' p v' (remF l k) nx ∧ v'.ownBlock = v.ownBlock ∧ Chg (foot p v) w w') ∨
  (r = .returned (.bool false) ∧ (∀ j, j < l.length → (gI l j).seq ≠ s) ∧ HeapAt w' p v l nx ∧ Below w.heap.size w w')
set_option maxRecDepth 100000 in
set_option maxHeartbeats 1000000 in
theorem cancel_any (w : World) (p : Nat) (v : Value) (l : List It) (nx : Nat) (s : Int) (h : HeapAt w p v l nx) (hl : l.length ≤ 1000000) :
    Calls Try.prog 9 #[.pointer (some ⟨p, 0, none⟩), .int .u64 s] w (Canc w p v l nx s) := by
  have hp := h.lt.1
  have b1 := below_alloc1 w (.cells #[.int .u64 s] 25)
  have hB := Blk.mk w [.int .u64 s] 25 _ rfl
  have hcell : (w.alloc (.cells #[.int .u64 s] 25)).cell? ⟨w.heap.size, 0, none⟩ = some (.int .u64 s) := (hB 0 _ rfl).1
  have h1 := h.below b1
  obtain ⟨c0, -⟩ := h1.1 0 _ rfl
  have hidx := idxf_any _ v l s _ h1.2.1 hl hcell
  have H1 := Lib.hid h1
  have hmf : ∀ (fn : Fn) (first cap : Array Value) (w : World), (Instr.makeFunc fn first cap).run Try.prog w = .ok (.func fn first cap) w := fun _ _ _ _ => rfl
  have hend0 : ∀ w2, Below (w.alloc (.cells #[.int .u64 s] 25)).heap.size (w.alloc (.cells #[.int .u64 s] 25)) w2 → HeapAt w2 p v l nx ∧ Below w.heap.size w w2 := fun w2 hb => ⟨h1.below hb, below_on b1 hb⟩
  have hrem : ∀ w2 (k : Nat), Below (w.alloc (.cells #[.int .u64 s] 25)).heap.size (w.alloc (.cells #[.int .u64 s] 25)) w2 → k < l.length → Calls Try.prog 19 #[.pointer (some ⟨p, 0, none⟩), .int .i64 (k : Int)] w2 fun r w' => ∃ v', r = .returned (.tuple #[]) ∧ HeapAt w' p v' (remF l k) nx ∧ v'.ownBlock = v.ownBlock ∧ Chg (foot p v) w w' := fun w2 k hb hk =>
    (remove_any w2 p v l nx k (h1.below hb) hk hl).mono fun r w' ⟨v', e1, e2, e3, e4⟩ => ⟨v', e1, e2, e3, (Chg.of_below (below_on b1 hb)).trans0 e4⟩
  have HEND := Lib.hid hend0
  have HREM := Lib.hid hrem
  have HIDX := Lib.hid hidx
  clear hend0 hrem hidx b1 hB h h1 hcell
  go_enter Try.func9, Try.ntmps9
  go_wp2_with fail
  refine HIDX.out.mono ?_
  rintro r w1 ⟨hf, hb⟩
  rcases hf with ⟨k, rfl, hk, hks⟩ | ⟨rfl, hno⟩
  · have HR := Lib.hid (HREM.out w1 k hb hk)
    have HKS := Lib.hid hks
    have HK := Lib.hid hk
    clear hb hks hk
    have hkp : ¬ (k : Int) < 0 := by omega
    go_wp2_with fail
    refine HR.out.mono ?_
    rintro r w2 ⟨v', rfl, k1, k2, k3⟩
    have HE : Hid (Canc w p v l nx s (.returned (.bool true)) w2) := .inl ⟨k, v', rfl, HK.out, HKS.out, k1, k2, k3⟩
    clear k1 k2 k3
    go_wp2
    go_ret
    exact HE.out
  · have HE : Hid (Canc w p v l nx s (.returned (.bool false)) w1) := .inr ⟨rfl, hno, HEND.out _ hb⟩
    clear hb hno
    go_wp2
    go_ret
    exact HE.out
end Go.Proofs.Ytljdckipnbdknaa
