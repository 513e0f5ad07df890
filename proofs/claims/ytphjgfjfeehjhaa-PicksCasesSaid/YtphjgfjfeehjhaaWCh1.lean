/-
  Channels in memory: rows of those that wait; the eldest of a row.
-/
import Derived.Test.YtphjgfjfeehjhaaIRow2
import Derived.Test.YtphjgfjfeehjhaaRowG
open Go Go.RowKit
set_option linter.unusedVariables false
namespace Go.Proofs.Ytphjgfjfeehjhaa
/-- One that waits: who, with which case, with which number. -/
abbrev Wt := Int × Int × Int
def wv (x : Wt) : Value := .agg #[.int .i64 x.1, .int .i64 x.2.1, .int .i64 x.2.2]
def wtc (l : List Wt) : List Value := l.flatMap fun x => [.int .i64 x.1, .int .i64 x.2.1, .int .i64 x.2.2]
theorem wtc_len (l : List Wt) : (wtc l).length = l.length * 3 := by
  unfold wtc; induction l with
  | nil => rfl
  | cons x l ih => simp only [List.flatMap_cons, List.length_append, ih, List.length_cons, List.length_nil]; omega
theorem wtc_app (l m : List Wt) : wtc (l ++ m) = wtc l ++ wtc m := by unfold wtc; rw [List.flatMap_append]
theorem wtc_cons (x : Wt) (l : List Wt) : wtc (x :: l) = .int .i64 x.1 :: .int .i64 x.2.1 :: .int .i64 x.2.2 :: wtc l := rfl
theorem wtc_at : ∀ (l : List Wt) (i : Nat) (h : i < l.length), (wtc l)[i * 3]? = some (.int .i64 l[i].1) ∧ (wtc l)[i * 3 + 1]? = some (.int .i64 l[i].2.1) ∧ (wtc l)[i * 3 + 2]? = some (.int .i64 l[i].2.2)
  | x :: l, 0, _ => ⟨rfl, rfl, rfl⟩
  | x :: l, i + 1, h => by
    have := wtc_at l i (by simpa using h)
    rw [wtc_cons, show (i + 1) * 3 = i * 3 + 1 + 1 + 1 by omega]
    exact this
theorem wtc_drop (l : List Wt) (n : Nat) : wtc (l.drop n) = (wtc l).drop (n * 3) := by
  induction l generalizing n with
  | nil => simp [wtc]
  | cons x l ih =>
    cases n with
    | zero => simp
    | succ n =>
      rw [List.drop_succ_cons, wtc_cons, show (n + 1) * 3 = n * 3 + 1 + 1 + 1 by omega]
      simp only [List.drop_succ_cons]
      exact ih n
theorem wtc_take (l : List Wt) (n : Nat) : wtc (l.take n) = (wtc l).take (n * 3) := by
  induction l generalizing n with
  | nil => simp [wtc]
  | cons x l ih =>
    cases n with
    | zero => simp [wtc]
    | succ n =>
      rw [List.take_succ_cons, wtc_cons, wtc_cons, show (n + 1) * 3 = n * 3 + 1 + 1 + 1 by omega]
      simp only [List.take_succ_cons]
      rw [ih]
theorem wtc_one (l : List Wt) : ∀ v ∈ wtc l, v.oneCell' = true := fun v hv => by
  unfold wtc at hv
  rw [List.mem_flatMap] at hv
  obtain ⟨x, _, hx⟩ := hv
  simp at hx
  rcases hx with rfl | rfl | rfl <;> rfl
/-- Those that wait, read. -/
theorem CellsAt.wt {w : World} {a : Option Addr} {l : List Wt} (h : CellsAt w a (wtc l)) (i : Nat) (hi : i < l.length) : ∃ b off, a = some ⟨b, off, none⟩ ∧ w.cell? ⟨b, off + i * 3, none⟩ = some (.int .i64 l[i].1) ∧ w.cell? ⟨b, off + i * 3 + 1, none⟩ = some (.int .i64 l[i].2.1) ∧ w.cell? ⟨b, off + i * 3 + 2, none⟩ = some (.int .i64 l[i].2.2) := by
  obtain ⟨h1, h2, h3⟩ := wtc_at l i hi
  obtain ⟨b, off, rfl, e1⟩ := h _ _ h1
  obtain ⟨b2, o2, k2, e2⟩ := h _ _ h2
  obtain ⟨b3, o3, k3, e3⟩ := h _ _ h3
  cases k2
  cases k3
  exact ⟨b, off, rfl, e1, by rw [Nat.add_assoc]; exact e2, by rw [Nat.add_assoc]; exact e3⟩
theorem CellsAt.int {w : World} {a : Option Addr} {l : List Int} (h : CellsAt w a (intc l)) (i : Nat) (hi : i < l.length) : ∃ b off, a = some ⟨b, off, none⟩ ∧ w.cell? ⟨b, off + i, none⟩ = some (.int .i64 l[i]) := h _ _ (intc_at l i hi)
theorem Own.rowG {w0 w : World} {As : List Asr} (h : Own w0 w As) (i : Nat) {s : Nat} {a : Option Addr} {cap n : Nat} {cs : List Value} (hi : As[i]? = some (RowGA s a cap n cs)) : RowG s w a cap n cs := by
  obtain ⟨F, ⟨_, h1⟩, _⟩ := h.fact i hi; exact h1
/-- A row is another one, of what was one's own. -/
theorem Own.rowTurn {w0 w w' : World} {As : List Asr} {s : Nat} {a a' : Option Addr} {cap cap' n n' : Nat} {cs cs' : List Value} (h : Own w0 w (RowGA s a cap n cs :: As)) (hr : RowG s w' a' cap' n' cs') (c : Chg (blk a) w w') (hf : ∀ x ∈ blk a', x ∈ blk a ∨ w.heap.size ≤ x) :
    Own w0 w' (RowGA s a' cap' n' cs' :: As) := by
  refine Own.turn (As := [RowGA s a cap n cs]) (As' := [RowGA s a' cap' n' cs']) (R := As) h (fun F hF => ?_)
  obtain ⟨rfl, h1⟩ := sep_one.1 hF
  exact ⟨blk a', sep_one.2 ⟨rfl, hr⟩, c, hf⟩
/-- A piece that is some pieces. -/
theorem Own.unfold {w0 w : World} {A : Asr} {R : List Asr} (h : Own w0 w (A :: R)) {P : List Asr → Prop} (hA : ∀ F, A.at_ w F → ∃ As, P As ∧ Sep w As F) : ∃ As, P As ∧ Own w0 w (As ++ R) := by
  obtain ⟨h1, F, ⟨F1, F2, rfl, h2, h3, h4⟩, h5⟩ := h
  obtain ⟨As, hp, hs⟩ := hA F1 h2
  exact ⟨As, hp, h1, F1 ++ F2, hs.app h4 h3, h5⟩
theorem Own.fold {w0 w : World} {A : Asr} {As R : List Asr} (h : Own w0 w (As ++ R)) (hA : ∀ F, Sep w As F → A.at_ w F) : Own w0 w (A :: R) := by
  obtain ⟨h1, F, h2, h5⟩ := h
  obtain ⟨F1, F2, rfl, h3, h4, h6⟩ := h2.split
  exact ⟨h1, F1 ++ F2, ⟨F1, F2, rfl, hA F1 h3, h4, h6⟩, h5⟩
theorem info_wt : (Try.prog.info? 62).map (fun i => (i.zero, i.size, i.bytes)) = some (some (.agg #[.int .i64 0, .int .i64 0, .int .i64 0]), 3, 24) := by kernel_rfl
theorem info_i6 : (Try.prog.info? 2).map (fun i => (i.zero, i.size, i.bytes)) = some (some (.int .i64 0), 1, 8) := by kernel_rfl
theorem size_wt : ∀ w, (sizeOf (Try.prog.elem 46)).run Try.prog w = .ok 3 w := by
  obtain ⟨i0, hi, hz0, hz1, hz2⟩ := info_parts info_wt
  intro w
  have e : Try.prog.elem 46 = 62 := by kernel_rfl
  rw [e]; simp [sizeOf, typeInfo, hi, hz1]
theorem under_wt : Try.prog.underlying 46 = some (.slice (Try.prog.elem 46)) := by
  have e : Try.prog.elem 46 = 62 := by kernel_rfl
  rw [e]; exact Try.underlying46
theorem size_i6 : ∀ w, (sizeOf (Try.prog.elem 43)).run Try.prog w = .ok 1 w := by
  obtain ⟨i0, hi, hz0, hz1, hz2⟩ := info_parts info_i6
  intro w
  have e : Try.prog.elem 43 = 2 := by kernel_rfl
  rw [e]; simp [sizeOf, typeInfo, hi, hz1]
theorem under_i6 : Try.prog.underlying 43 = some (.slice (Try.prog.elem 43)) := by
  have e : Try.prog.elem 43 = 2 := by kernel_rfl
  rw [e]; exact Try.underlying43
def zw : Wt := (0, 0, 0)
set_option maxRecDepth 100000 in
set_option maxHeartbeats 1000000 in
/-- The eldest of those that wait. -/
theorem eldw_none {w0 w : World} {R : List Asr} {p k c : Nat} {cs : List Value} {a : Option Addr} (h : Own w0 w (CelA p cs :: R)) (hk : cs[k]? = some (.slice a 0 c)) :
    Calls Try.prog 35 #[.pointer (some ⟨p, k, none⟩)] w fun r w' => r = .returned (.tuple #[wv zw, .bool false]) ∧ Own w0 w' (CelA p cs :: R) ∧ Below w.heap.size w w' := by
  obtain ⟨g0, f0⟩ := h.cel 0 rfl k _ hk
  have hs : ∀ w', Below w.heap.size w w' → Own w0 w' (CelA p cs :: R) ∧ Below w.heap.size w w' := fun w' hb => ⟨h.step hb, hb⟩
  have HS := Lib.hid hs
  have hpl := World.block_lt_of_cell? w _ g0
  clear h hs hk
  go_enter Try.func35, Try.ntmps35
  go_wp2
  exact bodyPost_ret (v := .tuple #[wv zw, .bool false]) (by simp [results, Try.results35, go_sem, wv, zw]) rfl ⟨rfl, HS.out _ (by repeat (first | exact Below.refl _ _ | refine Below.setCell ?_ (by simp) _ | refine Below.alloc ?_ (by simp) _))⟩
set_option maxRecDepth 100000 in
set_option maxHeartbeats 1000000 in
theorem eldw_some {w0 w : World} {R : List Asr} {p k c n : Nat} {cs : List Value} {a : Option Addr} {x : Wt} {t : List Wt} (h : Own w0 w (CelA p cs :: RowGA 3 a c n (wtc (x :: t)) :: R)) (hk : cs[k]? = some (.slice a n c)) (hn : n = (x :: t).length) (hnl : n ≤ 1000000) :
    Calls Try.prog 35 #[.pointer (some ⟨p, k, none⟩)] w fun r w' => r = .returned (.tuple #[wv x, .bool true]) ∧ ∃ a', Own w0 w' (CelA p (cs.set k (.slice a' t.length (c - 1))) :: RowGA 3 a' (c - 1) t.length (wtc t) :: R) := by
  obtain ⟨g0, f0⟩ := h.cel 0 rfl k _ hk
  have hrow := h.rowG 1 rfl
  obtain ⟨b, off, rfl, e1, e2, e3⟩ := hrow.cells.wt 0 (by simp)
  simp only [List.getElem_cons_zero, Nat.zero_mul, Nat.add_zero] at e1 e2 e3
  obtain ⟨a', hsl, hrow', hbl⟩ := slice_fromG under_wt size_wt hrow 1 (by rw [hn]; simp)
  have hsl2 : ∀ w, (Instr.slice 46 (.slice (some ⟨b, off, none⟩) n c) (some (.int .i64 1)) none none).run Try.prog w = .ok (.slice a' (n - 1) (c - 1)) w := hsl
  rw [Nat.one_mul, wtc_cons] at hrow'
  simp only [List.drop_succ_cons, List.drop_zero] at hrow'
  have hn1 : n - 1 = t.length := by rw [hn]; simp
  rw [hn1] at hsl2 hrow'
  have hn0 : 0 < n := by rw [hn]; simp
  have hpl := World.block_lt_of_cell? w _ g0
  have hbp : b < w.heap.size := World.block_lt_of_cell? w _ e1
  have hne : ∀ x ∈ blk (some ⟨b, off, none⟩), x ∉ [p] := fun x hx hc => by
    obtain ⟨_, F, ⟨F1, F2, rfl, ⟨rfl, _⟩, h4, F3, F4, rfl, ⟨rfl, _⟩, _, _⟩, _⟩ := h
    simp at hc; subst hc
    exact h4 x (by simp) (by simp [hx])
  have hs : ∃ a'', Own w0 (w.setCell ⟨p, k, none⟩ (.slice a' t.length (c - 1))) (CelA p (cs.set k (.slice a'' t.length (c - 1))) :: RowGA 3 a'' (c - 1) t.length (wtc t) :: R) := by
    have h2 := h.setAt 0 rfl k (.slice a' t.length (c - 1))
    have h3 := Own.rowTurn (h2.pick 1 rfl) (hrow'.chg (F := [p]) ((Chg.refl _ _).setCell _ (.inl (by simp))) (fun x hx => hne x (by rw [← hbl]; exact hx))) (Chg.refl _ _) (fun x hx => .inl (by rw [hbl] at hx; exact hx))
    exact ⟨a', h3.pick 1 rfl⟩
  have hs := fun o1 o2 => hs.imp fun a'' h => h.step (below_alloc2 _ o1 o2)
  have HS := Lib.hid hs
  clear h hs hrow hrow' hsl hne hbl hn hn1 hk
  go_enter Try.func35, Try.ntmps35
  go_wp2
  exact bodyPost_ret (v := .tuple #[wv x, .bool true]) (by simp [results, Try.results35, go_sem, wv]) rfl ⟨rfl, HS.out _ _⟩
set_option maxRecDepth 100000 in
set_option maxHeartbeats 1000000 in
/-- The eldest number. -/
theorem eldi_none {w0 w : World} {R : List Asr} {p k c : Nat} {cs : List Value} {a : Option Addr} (h : Own w0 w (CelA p cs :: R)) (hk : cs[k]? = some (.slice a 0 c)) :
    Calls Try.prog 38 #[.pointer (some ⟨p, k, none⟩)] w fun r w' => r = .returned (.tuple #[.int .i64 0, .bool false]) ∧ w = w' := by
  obtain ⟨g0, f0⟩ := h.cel 0 rfl k _ hk
  clear h hk
  go_enter Try.func38, Try.ntmps38
  go_wp2
  go_ret2
  exact ⟨rfl, rfl⟩
set_option maxRecDepth 100000 in
set_option maxHeartbeats 1000000 in
theorem eldi_some {w0 w : World} {R : List Asr} {p k c n : Nat} {cs : List Value} {a : Option Addr} {x : Int} {t : List Int} (h : Own w0 w (CelA p cs :: RowGA 1 a c n (intc (x :: t)) :: R)) (hk : cs[k]? = some (.slice a n c)) (hn : n = (x :: t).length) (hnl : n ≤ 1000000) :
    Calls Try.prog 38 #[.pointer (some ⟨p, k, none⟩)] w fun r w' => r = .returned (.tuple #[.int .i64 x, .bool true]) ∧ ∃ a', Own w0 w' (CelA p (cs.set k (.slice a' t.length (c - 1))) :: RowGA 1 a' (c - 1) t.length (intc t) :: R) := by
  obtain ⟨g0, f0⟩ := h.cel 0 rfl k _ hk
  have hrow := h.rowG 1 rfl
  obtain ⟨b, off, rfl, e1⟩ := hrow.cells.int 0 (by simp)
  simp only [List.getElem_cons_zero, Nat.add_zero] at e1
  obtain ⟨a', hsl, hrow', hbl⟩ := slice_fromG under_i6 size_i6 hrow 1 (by rw [hn]; simp)
  have hsl2 : ∀ w, (Instr.slice 43 (.slice (some ⟨b, off, none⟩) n c) (some (.int .i64 1)) none none).run Try.prog w = .ok (.slice a' (n - 1) (c - 1)) w := hsl
  have hcd : (intc (x :: t)).drop 1 = intc t := rfl
  rw [Nat.one_mul, hcd] at hrow'
  have hn1 : n - 1 = t.length := by rw [hn]; simp
  rw [hn1] at hsl2 hrow'
  have hn0 : 0 < n := by rw [hn]; simp
  have hpl := World.block_lt_of_cell? w _ g0
  have hbp : b < w.heap.size := World.block_lt_of_cell? w _ e1
  have hne : ∀ x ∈ blk (some ⟨b, off, none⟩), x ∉ [p] := fun x hx hc => by
    obtain ⟨_, F, ⟨F1, F2, rfl, ⟨rfl, _⟩, h4, F3, F4, rfl, ⟨rfl, _⟩, _, _⟩, _⟩ := h
    simp at hc; subst hc
    exact h4 x (by simp) (by simp [hx])
  have hs : ∃ a'', Own w0 (w.setCell ⟨p, k, none⟩ (.slice a' t.length (c - 1))) (CelA p (cs.set k (.slice a'' t.length (c - 1))) :: RowGA 1 a'' (c - 1) t.length (intc t) :: R) := by
    have h2 := h.setAt 0 rfl k (.slice a' t.length (c - 1))
    have h3 := Own.rowTurn (h2.pick 1 rfl) (hrow'.chg (F := [p]) ((Chg.refl _ _).setCell _ (.inl (by simp))) (fun x hx => hne x (by rw [← hbl]; exact hx))) (Chg.refl _ _) (fun x hx => .inl (by rw [hbl] at hx; exact hx))
    exact ⟨a', h3.pick 1 rfl⟩
  have HS := Lib.hid hs
  clear h hs hrow hrow' hsl hne hbl hn hn1 hk hcd
  go_enter Try.func38, Try.ntmps38
  go_wp2
  go_ret2
  exact ⟨rfl, HS.out⟩
end Go.Proofs.Ytphjgfjfeehjhaa
