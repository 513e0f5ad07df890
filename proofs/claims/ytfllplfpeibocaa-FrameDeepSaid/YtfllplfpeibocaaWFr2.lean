/-
  Stacks of frames in memory; the walks of their calls.
-/
import Derived.Test.YtfllplfpeibocaaWFr1
import Derived.Deep.RegionLawGrows
import Derived.StillTailTactics
open Go Go.RowKit
set_option linter.unusedVariables false
namespace Go.Proofs.Ytfllplfpeibocaa
/-- A frame that begins. -/
def newF (fn arg into : Int) : List Int := [fn, 0, arg, 0, 0, 0, 0, 0, 0, 0, into]
theorem newF_len (fn arg into : Int) : (newF fn arg into).length = 11 := rfl
/-- n frames, behind one another. -/
structure StkAt (w : World) (g n cap : Nat) (z : List Int) : Prop where
  len : z.length = n * 11
  room : n ≤ cap
  lt : g < w.heap.size
  blk : Blk w g (intc z)
theorem StkAt.chg {F : List Nat} {w w' : World} {g n cap : Nat} {z : List Int} (h : StkAt w g n cap z) (c : Chg F w w') (hg : g ∉ F) : StkAt w' g n cap z :=
  ⟨h.len, h.room, Nat.lt_of_lt_of_le h.lt c.size, h.blk.chg c hg⟩
theorem StkAt.below {w w' : World} {g n cap : Nat} {z : List Int} (h : StkAt w g n cap z) (hb : Below w.heap.size w w') : StkAt w' g n cap z := h.chg (Chg.of_below (F := []) hb) (by simp)
theorem StkAt.cell {w : World} {g n cap : Nat} {z : List Int} (h : StkAt w g n cap z) (j : Nat) (hj : j < n * 11) : ∃ x, z[j]? = some x ∧ w.cell? ⟨g, j, none⟩ = some (.int .i64 x) ∧ w.frozen? ⟨g, j, none⟩ = false := by
  have hl : j < z.length := by rw [h.len]; exact hj
  obtain ⟨h1, h2⟩ := h.blk j _ (intc_at z j hl)
  exact ⟨z[j], List.getElem?_eq_getElem hl, h1, h2⟩
theorem StkAt.at {w : World} {g n cap : Nat} {z : List Int} (h : StkAt w g n cap z) {j : Nat} {x : Int} (hj : z[j]? = some x) : w.cell? ⟨g, j, none⟩ = some (.int .i64 x) ∧ w.frozen? ⟨g, j, none⟩ = false :=
  h.blk j _ (by rw [intc_get, hj]; rfl)
theorem StkAt.set {w : World} {g n cap : Nat} {z : List Int} (h : StkAt w g n cap z) (k : Nat) (x : Int) : StkAt (w.setCell ⟨g, k, none⟩ (.int .i64 x)) g n cap (z.set k x) :=
  ⟨by rw [List.length_set]; exact h.len, h.room, by rw [World.size_setCell]; exact h.lt, by
    have := h.blk.set k (.int .i64 x)
    have e : intc (z.set k x) = (intc z).set k (.int .i64 x) := by unfold intc; rw [List.map_set]
    rw [e]; exact this⟩
theorem StkAt.take {w : World} {g n cap : Nat} {z : List Int} (h : StkAt w g n cap z) (m : Nat) (hm : m ≤ n) : StkAt w g m cap (z.take (m * 11)) :=
  ⟨by rw [List.length_take, h.len]; omega, by have := h.room; omega, h.lt, fun j v hj => by
    rw [intc_get, List.getElem?_take] at hj
    split at hj
    · exact h.blk j v (by rw [intc_get]; exact hj)
    · simp at hj⟩
theorem StkAt.of_own {w : World} {base n g cap : Nat} {e : TypeId} {z : List Int} (h : w.ownsRow base e 11 (.slice (some ⟨g, 0, none⟩) n cap) n (intc z)) : StkAt w g n cap z := by
  have hl : z.length = n * 11 := by have := h.1; rw [intc_len] at this; exact this
  rcases h.2 with ⟨hv, _⟩ | ⟨g', cap', cur, hv, hb, hg, h1, h2, h3, h4⟩
  · simp at hv
  · simp only [Value.slice.injEq, Option.some.injEq, Addr.mk.injEq, and_true, true_and] at hv
    obtain ⟨rfl, rfl⟩ := hv
    refine ⟨hl, h1, (Array.getElem?_eq_some_iff.1 hg).1, fun j v hj => ?_⟩
    have hj' : cur[j]? = some v := by
      rw [← h4, List.getElem?_take] at hj
      split at hj
      · simpa using hj
      · simp at hj
    constructor
    · rw [cell_of_row _ _ _ _ _ _ hg]; exact hj'
    · simp [World.frozen?, hg]
def newV (fn arg into : Int) : Value := .agg #[.int .i64 fn, .int .i64 0, .int .i64 arg, .int .i64 0, .int .i64 0, .int .i64 0, .int .i64 0, .int .i64 0, .int .i64 0, .int .i64 0, .int .i64 into]
set_option maxRecDepth 100000 in
set_option maxHeartbeats 2000000 in
theorem first_any (fn arg into : Int) (w : World) : Calls Try.prog 12 #[.int .i64 fn, .int .i64 arg, .int .i64 into] w fun e w' => e = .returned (.agg #[.int .i64 fn, .int .i64 0, .int .i64 arg, .int .i64 0, .int .i64 0, .int .i64 0, .int .i64 0, .int .i64 0, .int .i64 0, .int .i64 0, .int .i64 into]) ∧ Below w.heap.size w w' := by
  go_enter Try.func12, Try.ntmps12
  go_wp2_with fail
  exact bodyPost_ret (v := newV fn arg into) (by simp [results, Try.results12, go_sem, newV]) rfl ⟨rfl, below_alloc1 _ _⟩
set_option maxRecDepth 100000 in
set_option maxHeartbeats 2000000 in
theorem begin_any (fn arg : Int) (w : World) : Calls Try.prog 6 #[.int .i64 fn, .int .i64 arg] w fun e w' => ∃ g, e = .returned (.slice (some ⟨g, 0, none⟩) 1 1) ∧ w.heap.size ≤ g ∧ StkAt w' g 1 1 (newF fn arg 0) ∧ Below w.heap.size w w' := by
  go_enter Try.func6, Try.ntmps6
  go_wp2_with (go_at_call 12; refine (first_any _ _ _ _).mono ?_; rintro e w1 ⟨rfl, hb1⟩)
  go_ret
  exact ⟨w1.heap.size, rfl, hb1.size, ⟨rfl, Nat.le_refl _, by simp, Blk.mk w1 (intc (newF fn arg 0)) _ _ rfl⟩, below_on hb1 (below_alloc1 _ _)⟩
set_option maxRecDepth 100000 in
set_option maxHeartbeats 2000000 in
theorem top_any (g m cap : Nat) (w : World) (hm : m ≤ 1000) : Calls Try.prog 9 #[.slice (some ⟨g, 0, none⟩) (m + 1) cap] w fun e w' => e = .returned (.pointer (some ⟨g, m * 11, none⟩)) ∧ w' = w := by
  go_enter Try.func9, Try.ntmps9
  go_wp2_with fail
  go_ret
  exact ⟨rfl, rfl⟩
set_option maxRecDepth 100000 in
set_option maxHeartbeats 2000000 in
theorem top_two (g m cap : Nat) (w : World) (hm : m ≤ 1000) : Calls Try.prog 9 #[.slice (some ⟨g, 0, none⟩) (m + 2) cap] w fun e w' => e = .returned (.pointer (some ⟨g, (m + 1) * 11, none⟩)) ∧ w' = w := by
  have h2 : ((m : Int) + 2 - 1).toNat = m + 1 := by omega
  go_enter Try.func9, Try.ntmps9
  go_wp2_with fail
  go_ret
  exact ⟨rfl, rfl⟩
set_option maxRecDepth 100000 in
set_option maxHeartbeats 2000000 in
theorem top_none (w : World) : Calls Try.prog 9 #[.slice none 0 0] w fun e w' => e = .returned (.pointer none) ∧ w = w' := by
  go_enter Try.func9, Try.ntmps9
  go_wp2_with fail
  go_ret
  exact ⟨rfl, rfl⟩
theorem info_frame : (Try.prog.info? 32).map (fun i => (i.zero, i.size, i.bytes)) = some (some (.agg #[.int .i64 0, .int .i64 0, .int .i64 0, .int .i64 0, .int .i64 0, .int .i64 0, .int .i64 0, .int .i64 0, .int .i64 0, .int .i64 0, .int .i64 0]), 11, 88) := by kernel_rfl
theorem own_form {w : World} {base size n : Nat} {e : TypeId} {v : Value} {xs : List Value} (h : w.ownsRow base e size v n xs) (hn : 0 < n) : ∃ g cap, v = .slice (some ⟨g, 0, none⟩) n cap := by
  rcases h.2 with ⟨_, h0⟩ | ⟨g, cap, cur, hv, _⟩
  · omega
  · exact ⟨g, cap, hv⟩
/-- append(s, t...) of frames, where there is no room. -/
theorem append_stk {w : World} {g n c0 cap m c : Nat} {z z2 : List Int} (h : StkAt w g n cap z) (ad : Addr) (hl : z2.length = m * 11) (hc : ∀ j u, (intc z2)[j]? = some u → w.cell? (ad.add j) = some u) (hg : c0 < n + m) (hm : n + m ≤ 1000) :
    ∃ g' cap' w', (Builtin.append_ #[25, 25] 25 #[.slice (some ⟨g, 0, none⟩) n c0, .slice (some ad) m c]).run Try.prog w = .ok (.slice (some ⟨g', 0, none⟩) (n + m) cap') w' ∧ StkAt w' g' (n + m) cap' (z ++ z2) ∧ w.heap.size ≤ g' ∧ Below w.heap.size w w' := by
  obtain ⟨i0, hi0, hz0, hz1, hz2⟩ := info_parts info_frame
  obtain ⟨v', w', hr, h1, h2⟩ := run_append_arg_grows (P := Try.prog) w 25 25 32 i0 _ 11 88 Try.underlying25 hi0 hz0 hz1 hz2 rfl (by decide) ⟨g, 0, none⟩ n c0 (intc z) (by rw [intc_len, h.len]) (fun j u hj => by rw [Addr.add_lit, Nat.zero_add]; exact (h.blk j u hj).1) ad m c (intc z2) (by rw [intc_len, hl]) hc hg (by unfold maxLen; omega) (by omega)
  obtain ⟨g', cap', rfl⟩ := own_form h1 (by omega)
  rw [← intc_app] at h1
  refine ⟨g', cap', w', hr, .of_own h1, ?_, (grownBy_chg h2).to_below (by simp) (Nat.le_refl _)⟩
  rcases h1.2 with ⟨hv, _⟩ | ⟨g2, cp, cur, hv, hb, _⟩
  · simp at hv
  · simp only [Value.slice.injEq, Option.some.injEq, Addr.mk.injEq] at hv
    omega
theorem step_append_stk {w : World} {ops : Array Oper} {o : Oper} {ac : Act} {K : Act → World → Prop} {Q : Exit → Act → World → Prop} {E : Prop} (hgd : o.guard = none) (sl x : Operand) (hty : o.type = 25)
    (ho : o.op = .call { callee := .builtin .append, args := #[sl, x], argTypes := #[25, 25] }) {g n c0 cap m c : Nat} {z z2 : List Int} (ad : Addr) (hs : ac.eval sl = .slice (some ⟨g, 0, none⟩) n c0) (hx : ac.eval x = .slice (some ad) m c)
    (ha : StkAt w g n cap z) (hl : z2.length = m * 11) (hc : ∀ j u, (intc z2)[j]? = some u → w.cell? (ad.add j) = some u) (hg : c0 < n + m) (hm : n + m ≤ 1000)
    (h : ∀ g' cap' w', StkAt w' g' (n + m) cap' (z ++ z2) → w.heap.size ≤ g' → Below w.heap.size w w' → K (ac.put o.dst (.slice (some ⟨g', 0, none⟩) (n + m) cap')) w') : if Region.wanted o (yielded ops ac.tmps) = true then Oper.wp Try.prog o ac w K Q else E := by
  have hw : Region.wanted o (yielded ops ac.tmps) = true := by simp [Region.wanted, hgd]
  rw [if_pos hw]
  obtain ⟨g', cap', w', hr, h2, h3, h4⟩ := append_stk (w := w) (c := c) ha ad hl hc hg hm
  unfold Oper.wp execOp
  simp only [ho, resolve, invoke, builtin, Sem.run_bind, Sem.run_pure, Result.andThen_ok, List.map_toArray, List.map_cons, List.map_nil, hs, hx, hty, hr]
  exact h g' cap' w' h2 h3 h4
theorem wpList_append_stk {w : World} {ops : Array Oper} {rest : List Oper} {o : Oper} {a : Act} {Q : Exit → Act → World → Prop} (hgd : o.guard = none) (sl x : Operand) (hty : o.type = 25)
    (ho : o.op = .call { callee := .builtin .append, args := #[sl, x], argTypes := #[25, 25] }) {g n c0 cap m c : Nat} {z z2 : List Int} (ad : Addr) (hs : a.eval sl = .slice (some ⟨g, 0, none⟩) n c0) (hx : a.eval x = .slice (some ad) m c)
    (ha : StkAt w g n cap z) (hl : z2.length = m * 11) (hc : ∀ j u, (intc z2)[j]? = some u → w.cell? (ad.add j) = some u) (hg : c0 < n + m) (hm : n + m ≤ 1000)
    (h : ∀ g' cap' w', StkAt w' g' (n + m) cap' (z ++ z2) → w.heap.size ≤ g' → Below w.heap.size w w' → wpList Try.prog ops Q rest (a.put o.dst (.slice (some ⟨g', 0, none⟩) (n + m) cap')) w') : wpList Try.prog ops Q (o :: rest) a w := by
  refine wpList_plain hgd fun K hK => ?_
  obtain ⟨g', cap', w', hr, h2, h3, h4⟩ := append_stk (w := w) (c := c) ha ad hl hc hg hm
  unfold Oper.wp execOp
  simp only [ho, resolve, invoke, builtin, Sem.run_bind, Sem.run_pure, Result.andThen_ok, List.map_toArray, List.map_cons, List.map_nil, hs, hx, hty, hr]
  exact hK _ _ (h g' cap' w' h2 h3 h4)
set_option maxRecDepth 100000 in
set_option maxHeartbeats 2000000 in
theorem sclone_any (g n cap : Nat) (z : List Int) (w : World) (h : StkAt w g n cap z) (h1 : 1 ≤ n) (h2 : n ≤ 1000) : Calls Try.prog 13 #[.slice (some ⟨g, 0, none⟩) n cap] w fun e w' => ∃ g' cap', e = .returned (.slice (some ⟨g', 0, none⟩) n cap') ∧ w.heap.size ≤ g' ∧ StkAt w' g' n cap' z ∧ Below w.heap.size w w' := by
  have he : ∀ w : World, (binOp .eql 25 (.slice (some ⟨g, 0, none⟩) n cap) (.slice none 0 0)).run Try.prog w = .ok (.bool false) w := fun _ => rfl
  have h0 : StkAt (w.alloc (.cells #[] 32)) w.heap.size 0 0 [] := ⟨rfl, Nat.le_refl _, by simp, fun j v hj => by simp [intc] at hj⟩
  have hc : ∀ j u, (intc z)[j]? = some u → (w.alloc (.cells #[] 32)).cell? ((⟨g, 0, none⟩ : Addr).add j) = some u := fun j u hj => by rw [Addr.add_lit, Nat.zero_add]; exact cell_below (h.blk j u hj).1 (below_alloc1 _ _)
  have H0 := Lib.hid h0
  have HC := Lib.hid hc
  have H := Lib.hid h
  clear h h0 hc
  go_enter Try.func13, Try.ntmps13
  go_wp2_with (at_builtin; go_loud (refine wpList_append_stk rfl _ _ rfl rfl (z := []) (z2 := z) _ rfl rfl H0.out H.out.len HC.out (by omega) (by omega) ?_); intro g1 c1 w1 k1 k2 k3)
  go_ret
  exact ⟨g1, c1, by simp, Nat.le_trans (by simp) k2, by simpa using k1, below_on (below_alloc1 _ _) k3⟩
set_option maxRecDepth 100000 in
set_option maxHeartbeats 2000000 in
theorem clone_any (g n cap : Nat) (z : List Int) (w : World) (h : StkAt w g n cap z) (h1 : 1 ≤ n) (h2 : n ≤ 1000) : Calls Try.prog 8 #[.slice (some ⟨g, 0, none⟩) n cap] w fun e w' => ∃ g' cap', e = .returned (.slice (some ⟨g', 0, none⟩) n cap') ∧ w.heap.size ≤ g' ∧ StkAt w' g' n cap' z ∧ Below w.heap.size w w' := by
  go_enter Try.func8, Try.ntmps8
  go_wp2_with (go_at_call 13; refine (sclone_any _ _ _ _ _ h h1 h2).mono ?_; rintro e w1 ⟨g', cap', rfl, hg, hs, hb⟩)
  go_ret
  exact ⟨g', cap', rfl, hg, hs, hb⟩
set_option maxRecDepth 100000 in
set_option maxHeartbeats 2000000 in
theorem call_any (g n cap : Nat) (z : List Int) (fn arg into : Int) (w : World) (h : StkAt w g n cap z) (h1 : 1 ≤ n) (h2 : n ≤ 15) : Calls Try.prog 7 #[.slice (some ⟨g, 0, none⟩) n cap, .int .i64 fn, .int .i64 arg, .int .i64 into] w fun e w' => ∃ g' cap', e = .returned (.tuple #[.slice (some ⟨g', 0, none⟩) (n + 1) cap', .bool true]) ∧ w.heap.size ≤ g' ∧ StkAt w' g' (n + 1) cap' (z ++ newF fn arg into) ∧ Below w.heap.size w w' := by
  have hroom := h.room
  have H := Lib.hid h
  have HB := Lib.hid (Below.refl w.heap.size w)
  clear h
  go_enter Try.func7, Try.ntmps7
  go_upto_region 3 with fail
  go_region_held3 (fun w' => Below w.heap.size w w') (first | exact below_drew1 _ | assumption | (refine below_on ?_ (below_alloc1 _ _); assumption) | (refine below_on ?_ ‹_›; assumption))
    (first
      | (refine step_append_stk (by rfl) _ _ (by rfl) (by rfl) (z := z) (z2 := newF fn arg into) _ (by rfl) (by rfl) (H.out.below (by assumption)) (by rfl) (fun j u hj => by rw [Addr.add_lit, Nat.zero_add]; exact (Blk.mk _ (intc (newF fn arg into)) _ _ rfl j u hj).1) (by omega) (by omega) ?_; intro g1 c1 w1 k1 k2 k3)
      | (go_at_call 12; refine (first_any _ _ _ _).mono ?_; rintro e w1 ⟨rfl, hb1⟩))
  go_wp2_with fail
  go_ret2
  exact ⟨g1, c1, rfl, by have := hb1.size; simp at k2 this; omega, k1, by assumption⟩
set_option maxRecDepth 100000 in
set_option maxHeartbeats 2000000 in
theorem call_deep (g cap : Nat) (z : List Int) (fn arg into : Int) (w : World) (h : StkAt w g 16 cap z) : Calls Try.prog 7 #[.slice (some ⟨g, 0, none⟩) 16 cap, .int .i64 fn, .int .i64 arg, .int .i64 into] w fun e w' => ∃ g' cap', e = .returned (.tuple #[.slice (some ⟨g', 0, none⟩) 16 cap', .bool false]) ∧ Below w.heap.size w w' := by
  have H := Lib.hid h
  clear h
  go_enter Try.func7, Try.ntmps7
  go_wp2_with (go_at_call 8; refine (clone_any _ _ _ _ _ H.out (by omega) (by omega)).mono ?_; rintro e w1 ⟨g', cap', rfl, hg, hs, hb⟩)
  go_ret2
  exact ⟨g', cap', rfl, hb⟩
set_option maxRecDepth 100000 in
set_option maxHeartbeats 2000000 in
theorem return_none (g cap : Nat) (v : Int) (w : World) : Calls Try.prog 11 #[.slice (some ⟨g, 0, none⟩) 1 cap, .int .i64 v] w fun e w' => e = .returned (.tuple #[.slice none 0 0, .bool false]) ∧ w = w' := by
  go_enter Try.func11, Try.ntmps11
  go_wp2_with fail
  go_ret2
  exact ⟨rfl, rfl⟩
set_option maxRecDepth 100000 in
set_option maxHeartbeats 2000000 in
theorem return_any (g m cap : Nat) (z : List Int) (v : Int) (k : Nat) (w : World) (h : StkAt w g (m + 2) cap z) (h2 : m ≤ 14) (hk : z[m * 11 + 21]? = some (k : Int)) (hk8 : k < 8) :
    Calls Try.prog 11 #[.slice (some ⟨g, 0, none⟩) (m + 2) cap, .int .i64 v] w fun e w' => ∃ g' cap', e = .returned (.tuple #[.slice (some ⟨g', 0, none⟩) (m + 1) cap', .bool true]) ∧ w.heap.size ≤ g' ∧ StkAt w' g' (m + 1) cap' ((z.take ((m + 1) * 11)).set (m * 11 + 2 + k) v) ∧ Below w.heap.size w w' := by
  have hroom := h.room
  have H := Lib.hid h
  have HK := Lib.hid hk
  clear h hk
  go_enter Try.func11, Try.ntmps11
  go_wp2_with (go_at_call 8; refine (clone_any _ _ _ _ _ (H.out.take (m + 1) (by omega)) (by omega) (by omega)).mono ?_; rintro e w1 ⟨g', cap', rfl, hg, hs, hb⟩)
  obtain ⟨g0, -⟩ := (H.out.below hb).at HK.out
  have g0' : w1.cell? ⟨g, (m + 1) * 11 + 10, none⟩ = some (.int .i64 (k : Int)) := by rw [show (m + 1) * 11 + 10 = m * 11 + 21 by omega]; exact g0
  obtain ⟨x, hx, y0, y1⟩ := hs.cell (m * 11 + 2 + k) (by omega)
  have k0 : (0 : Int) ≤ (k : Int) := by omega
  have k8 : (k : Int) < 8 := by omega
  have HS := Lib.hid hs
  have HB := Lib.hid hb
  have HG := Lib.hid hg
  clear g0 hs hb hg hx
  refine wp_region_still_tail 11 (by kernel_rfl) (by kernel_rfl) ?_
  simp only [List.take_succ_cons, List.take_zero, List.drop_succ_cons, List.drop_zero]
  still_step
  still_call (top_any g' m cap' _ (by omega))
  still_step
  still_call (top_two g m cap _ (by omega))
  repeat still_step
  refine wpStill_nil ?_
  go_wp2_with fail
  go_ret2
  exact ⟨g', cap', rfl, HG.out, (HS.out.below (below_drew1 _)).set _ _, HB.out.drew.setCell HG.out _⟩
end Go.Proofs.Ytfllplfpeibocaa
