/-
  The walk of the document's Wake.
-/
import Derived.Test.YtljdckipnbdknaaWRef9
open Go Go.RowKit
set_option linter.unusedVariables false
namespace Go.Proofs.Ytljdckipnbdknaa
/-- append(s, t...) of items, whatever both are. -/
theorem append_items {P : Program} {w : World} (t ty e : TypeId) (i : TypeInfo) (z : Value) (ht : P.underlying t = some (.slice e)) (hi : P.info? e = some i) (hz : i.zero = some z) (hsize : i.size = 3) (hby : i.bytes = 24) (hzs : z.cells.size = 3)
    {a b : Option Addr} {n cap m c : Nat} {l l2 : List It} (ha : ItemsT e w (.slice a n cap) l) (hn : n = l.length) (hm : m = l2.length) (hb : 0 < m → ∃ ad, b = some ad ∧ ∀ j u, (icells l2)[j]? = some u → w.cell? (ad.add j) = some u) (hl : n + m ≤ 1000000) :
    ∃ a' cap' w', (Builtin.append_ #[t, t] ty #[.slice a n cap, .slice b m c]).run P w = .ok (.slice a' (n + m) cap') w' ∧ ItemsT e w' (.slice a' (n + m) cap') (l ++ l2) ∧ Chg ((Value.slice a n cap).ownBlock.toList) w w' ∧ ∀ x ∈ (Value.slice a' (n + m) cap').ownBlock.toList, x ∈ (Value.slice a n cap).ownBlock.toList ∨ w.heap.size ≤ x := by
  obtain ⟨a0, c0, hv, hc0⟩ := ha.slice
  simp only [Value.slice.injEq] at hv
  obtain ⟨rfl, _, rfl⟩ := hv
  by_cases h0 : m = 0
  · subst h0
    have : l2 = [] := List.length_eq_zero_iff.1 hm.symm
    subst this
    refine ⟨a, cap, w, ?_, by simpa using ha, Chg.refl _ _, fun x hx => .inl hx⟩
    cases a <;> cases b <;> simp [Builtin.append_, run_underlying ht, sizeOf, typeInfo, hi, Builtin.lenOf, Builtin.firstCells, storeCells, loadCells, loadCellsFrom, hn ▸ hc0]
  · obtain ⟨ad, rfl, hcell⟩ := hb (by omega)
    unfold ItemsT at ha
    rw [← hn] at ha
    obtain ⟨g, cap', w', hr, h2, h3, h4, h5⟩ := run_append_lies (P := P) w t ty 0 e i z 3 24 ht hi hz hsize hby hzs (by decide) (.slice a n cap) n (icells l) ha ad m c (icells l2) (by rw [icells_len, hm]) hcell (icells_one l2) (by omega) (by unfold maxLen; omega) (by omega) (Nat.zero_le _) _ rfl
    refine ⟨_, cap', w', hr, ?_, grownBy_chg h3, fun x hx => ?_⟩
    · unfold ItemsT
      rw [List.length_append, ← hn, ← hm, icells_app]; exact h2
    · simp [Value.ownBlock] at hx
      subst hx
      rcases h4 with h | h
      · left; rw [h]; simp
      · right; omega
theorem step_append_items {P : Program} {w : World} {ops : Array Oper} {o : Oper} {ac : Act} {K : Act → World → Prop} {Q : Exit → Act → World → Prop} {E : Prop} (hgd : o.guard = none) (sl x : Operand) (t : TypeId)
    (ho : o.op = .call { callee := .builtin .append, args := #[sl, x], argTypes := #[t, t] }) (e : TypeId) (i : TypeInfo) (z : Value) (ht : P.underlying t = some (.slice e)) (hi : P.info? e = some i) (hz : i.zero = some z) (hsize : i.size = 3) (hby : i.bytes = 24) (hzs : z.cells.size = 3)
    {a b : Option Addr} {n cap m c : Nat} {l l2 : List It} (hs : ac.eval sl = .slice a n cap) (hx : ac.eval x = .slice b m c) (ha : ItemsT e w (.slice a n cap) l) (hn : n = l.length) (hm : m = l2.length) (hb : 0 < m → ∃ ad, b = some ad ∧ ∀ j u, (icells l2)[j]? = some u → w.cell? (ad.add j) = some u) (hl : n + m ≤ 1000000)
    (h : ∀ a' cap' w', ItemsT e w' (.slice a' (n + m) cap') (l ++ l2) → Chg ((Value.slice a n cap).ownBlock.toList) w w' → (∀ x ∈ (Value.slice a' (n + m) cap').ownBlock.toList, x ∈ (Value.slice a n cap).ownBlock.toList ∨ w.heap.size ≤ x) → K (ac.put o.dst (.slice a' (n + m) cap')) w') : if Region.wanted o (yielded ops ac.tmps) = true then Oper.wp P o ac w K Q else E := by
  have hw : Region.wanted o (yielded ops ac.tmps) = true := by simp [Region.wanted, hgd]
  rw [if_pos hw]
  obtain ⟨a', cap', w', hr, h2, h3, h4⟩ := append_items (P := P) (w := w) t o.type e i z ht hi hz hsize hby hzs ha hn hm (c := c) hb hl
  unfold Oper.wp execOp
  simp only [ho, resolve, invoke, builtin, Sem.run_bind, Sem.run_pure, Result.andThen_ok, List.map_toArray, List.map_cons, List.map_nil, hs, hx, hr]
  exact h a' cap' w' h2 h3 h4
theorem size_xitem : ∀ w, (sizeOf (Try.prog.elem 28)).run Try.prog w = .ok 3 w := by
  obtain ⟨i0, hi, hz0, hz1, hz2⟩ := info_parts info_xitem
  intro w
  have e : Try.prog.elem 28 = 48 := by kernel_rfl
  rw [e]; simp [sizeOf, typeInfo, hi, hz1]
theorem under_xitems : Try.prog.underlying 28 = some (.slice (Try.prog.elem 28)) := by
  have e : Try.prog.elem 28 = 48 := by kernel_rfl
  rw [e]; exact Try.underlying28
/-- s[k:] of items. -/
theorem xslice_from (a : Option Addr) (n cap k : Nat) (hk : k ≤ n) (hc : n ≤ cap) (ha : a = none ∨ ∃ g, a = some ⟨g, 0, none⟩) :
    ∃ b, (∀ w, (Instr.slice 28 (.slice a n cap) (some (.int .i64 (k : Int))) none none).run Try.prog w = .ok (.slice b (n - k) (cap - k)) w) ∧ (k < n → ∀ g, a = some ⟨g, 0, none⟩ → b = some ⟨g, k * 3, none⟩) := by
  rcases ha with rfl | ⟨g, rfl⟩
  · refine ⟨none, fun w => ?_, fun _ g hg => by cases hg⟩
    rw [run_slice_l (P := Try.prog) (t := 28) (ht := under_xitems) (kl := .i64) (l := (k : Int)) (h0 := by omega) (h1 := by omega), size_xitem]
    simp [Result.andThen, sliced]
  · by_cases hck : cap = k
    · refine ⟨some ⟨g, 0, none⟩, fun w => ?_, fun h => by omega⟩
      rw [run_slice_l (P := Try.prog) (t := 28) (ht := under_xitems) (kl := .i64) (l := (k : Int)) (h0 := by omega) (h1 := by omega), size_xitem]
      simp [Result.andThen, sliced, hck]
    · refine ⟨some ⟨g, k * 3, none⟩, fun w => ?_, fun _ g' hg => by cases hg; rfl⟩
      rw [run_slice_l (P := Try.prog) (t := 28) (ht := under_xitems) (kl := .i64) (l := (k : Int)) (h0 := by omega) (h1 := by omega), size_xitem]
      simp [Result.andThen, sliced, hck, Addr.add]
      try omega
theorem ItemsT.take {t : TypeId} {w : World} {a : Option Addr} {n cap : Nat} {l : List It} (h : ItemsT t w (.slice a n cap) l) (hn : n = l.length) (k : Nat) (hk : k ≤ n) : ItemsT t w (.slice a k cap) (l.take k) := by
  have hlk : (l.take k).length = k := by rw [List.length_take]; omega
  have hpre : icells l = icells (l.take k) ++ icells (l.drop k) := by rw [← icells_app, List.take_append_drop]
  unfold ItemsT at h ⊢
  rw [hlk]
  refine ⟨by rw [icells_len, hlk], ?_⟩
  rcases h.2 with ⟨hv, h0⟩ | ⟨g, cp, cur, hv, hb, hg, h1, h2, h3, h4⟩
  · simp only [Value.slice.injEq] at hv
    obtain ⟨rfl, h5, rfl⟩ := hv
    exact .inl ⟨by congr 1; omega, by omega⟩
  · simp only [Value.slice.injEq] at hv
    obtain ⟨rfl, h5, rfl⟩ := hv
    refine .inr ⟨g, cap, cur, rfl, hb, hg, by omega, h2, h3, ?_⟩
    have h6 : (icells l).take (k * 3) = icells (l.take k) := by rw [hpre, List.take_left' (by rw [icells_len, hlk])]
    rw [← h6, ← h4, List.take_take]
    congr 1; omega
/-- The cells behind the first k. -/
theorem ItemsT.tail {t : TypeId} {w : World} {a : Option Addr} {n cap : Nat} {l : List It} (h : ItemsT t w (.slice a n cap) l) (hn : n = l.length) (k : Nat) (hk : k < n) :
    ∃ g, a = some ⟨g, 0, none⟩ ∧ ∀ j u, (icells (l.drop k))[j]? = some u → w.cell? ((⟨g, k * 3, none⟩ : Addr).add j) = some u := by
  obtain ⟨g, rfl, _⟩ := h.cells 0 (by omega)
  refine ⟨g, rfl, fun j u hj => ?_⟩
  have hlk : (l.take k).length = k := by rw [List.length_take]; omega
  have hpre : icells l = icells (l.take k) ++ icells (l.drop k) := by rw [← icells_app, List.take_append_drop]
  have h1 := World.ownsRow.cells h (g := g) rfl (k * 3 + j) u (by rw [hpre, List.getElem?_append_right (by rw [icells_len, hlk]; omega), icells_len, hlk, Nat.add_sub_cancel_left]; exact hj)
  rw [Addr.add_lit]
  rwa [Addr.add_lit, Nat.zero_add] at h1
theorem Own.appItems {w0 w w2 : World} {R : List Asr} {t : TypeId} {a a' : Option Addr} {n c n' c' : Nat} {l l' : List It} (h : Own w0 w (ItA t (.slice a n c) l :: R)) (h7 : ItemsT t w2 (.slice a' n' c') l') (c7 : Chg ((Value.slice a n c).ownBlock.toList) w w2)
    (f7 : ∀ x ∈ (Value.slice a' n' c').ownBlock.toList, x ∈ (Value.slice a n c).ownBlock.toList ∨ w.heap.size ≤ x) : Own w0 w2 (ItA t (.slice a' n' c') l' :: R) := by
  refine Own.turn (As := [ItA t (.slice a n c) l]) (As' := [ItA t (.slice a' n' c') l']) (R := R) h (fun F hF => ?_)
  obtain ⟨rfl, h1⟩ := sep_one.1 hF
  exact ⟨_, sep_one.2 ⟨rfl, h7⟩, c7, f7⟩
/-- What the document's Wake answers. -/
def XW (w : World) (q : Nat) (l : List It) (k : Nat) (olds : List Nat) (r : Ending) (w' : World) : Prop :=
  ∃ v1 v2, r = .returned (.tuple #[xhv v1 q, v2]) ∧ ItemsT 48 w' v1 (l.drop k) ∧ ItemsT 48 w' v2 (l.take k) ∧ (∀ y ∈ v1.ownBlock.toList, w.heap.size ≤ y) ∧ (∀ y ∈ v2.ownBlock.toList, y ∈ olds) ∧ Below w.heap.size w w'
theorem xwake_end {w w4 : World} {l : List It} {q k n m c0 c2 s0 : Nat} {a0 a2 : Option Addr} {x0 x1 : Value} {R : List Asr} (hA : Own w w4 (ItA 48 (.slice a2 m c2) (l.drop k) :: CelA (s0 + 1) [x0, x1] :: R)) (H : ItemsT 48 w (.slice a0 n c0) l) (hn : n = l.length) (hk : k ≤ n) (v0 v1 : Value) :
    XW w q l k (Value.slice a0 n c0).ownBlock.toList (.returned (.tuple #[.agg #[.slice a2 m c2, .int .u64 (q : Int)], .slice a0 k c0])) ((w4.setCell ⟨s0 + 1, 0, none⟩ v0).setCell ⟨s0 + 1, 1, none⟩ v1) := by
  have hB := (hA.setAt 1 rfl 0 v0).setAt 1 rfl 1 v1
  obtain ⟨F, ⟨hF, h1⟩, h2⟩ := hB.fact 0 rfl
  subst hF
  exact ⟨.slice a2 m c2, .slice a0 k c0, by simp [xhv], h1, (H.below hB.bel).take hn k hk, h2, fun y hy => by cases a0 with
    | none => simp [Value.ownBlock] at hy
    | some a => simpa [Value.ownBlock] using hy, hB.bel⟩
set_option maxRecDepth 100000 in
set_option maxHeartbeats 20000000 in
theorem xwake_any (w : World) (v : Value) (l : List It) (q : Nat) (now : Int) (h : ItemsT 48 w v l) (hl : l.length ≤ 100000) :
    Calls Try.prog 10 #[xhv v q, .int .u64 now] w (XW w q l (xWakes l now) v.ownBlock.toList) := by
  obtain ⟨a0, c0, rfl, hc0⟩ := h.slice
  obtain ⟨n, hn⟩ : ∃ n, n = l.length := ⟨_, rfl⟩
  have ha0 : a0 = none ∨ ∃ g, a0 = some ⟨g, 0, none⟩ := by
    rcases h.2 with ⟨hv, _⟩ | ⟨g, _, _, hv, _⟩
    · simp only [Value.slice.injEq] at hv; exact .inl hv.1
    · simp only [Value.slice.injEq] at hv; exact .inr ⟨g, hv.1⟩
  have hin := xWakes_in l now
  have hat := xWakes_at l now
  have hkl := xWakes_le l now
  obtain ⟨k, hk⟩ : ∃ k, k = xWakes l now := ⟨_, rfl⟩
  rw [← hk] at hin hat hkl ⊢
  rw [← hn] at h hl hc0 hat hkl ⊢
  clear hk
  obtain ⟨b1, hs1, hb1⟩ := xslice_from a0 n c0 k hkl hc0 ha0
  have hs0 : ∀ w', (Instr.slice 28 (.slice a0 n c0) none (some (.int .i64 (k : Int))) none).run Try.prog w' = .ok (.slice a0 k c0) w' := fun w' => slice_head w' under_xitems size_xitem a0 n c0 k (by omega)
  have H := Lib.hid h
  have HN := Lib.hid hn
  have HIN := Lib.hid hin
  have HAT := Lib.hid hat
  have HB1 := Lib.hid hb1
  have HA0 := Lib.hid ha0
  clear h hn hin hat hb1 ha0
  unfold xhv
  obtain ⟨i0, hi0, hz0, hz1, hz2⟩ := info_parts info_xitem
  have Hi := Lib.hid hi0; clear hi0
  have Hz0 := Lib.hid hz0; clear hz0
  have Hz1 := Lib.hid hz1; clear hz1
  have Hz2 := Lib.hid hz2; clear hz2
  obtain ⟨s0, hs0'⟩ : ∃ s0, s0 = w.heap.size := ⟨_, rfl⟩
  have hO : Own w ((w.alloc (.cells #[.slice a0 n c0, .int .u64 (q : Int)] 30)).alloc (.cells #[.slice none 0 0, .int .u64 0] 30)) [CelA (s0 + 1) [.slice none 0 0, .int .u64 0], CelA s0 [.slice a0 n c0, .int .u64 (q : Int)]] :=
    ((Own.nil (Below.refl _ _)).alloc [.slice a0 n c0, .int .u64 (q : Int)] _ hs0').alloc [.slice none 0 0, .int .u64 0] _ (by simp [hs0'])
  have HO := Lib.hid hO
  have HS := Lib.hid hs0'
  clear hO
  go_enter Try.func10, Try.ntmps10
  go_upto_region 1 with fail
  rw [← hs0']
  clear hs0'
  generalize (w.alloc (.cells #[.slice a0 n c0, .int .u64 (q : Int)] 30)).alloc (.cells #[.slice none 0 0, .int .u64 0] 30) = W at *
  obtain ⟨g0, -⟩ := HO.out.cel 1 rfl 0 _ rfl
  obtain ⟨g1, -⟩ := HO.out.cel 1 rfl 1 _ rfl
  go_wp2_with fail
  go_loopw [6] (fun c wr => ∃ i : Nat, i ≤ k ∧ c = .int .i64 i ∧ Hid (wr = W)) (fun c _ => k - (intOf c).toNat)
  case atStart => exact ⟨0, by omega, rfl, rfl⟩
  case round =>
    obtain ⟨i, hi, rfl, hr⟩ := hrel
    obtain rfl := hr.out
    by_cases hlt : i < k
    · obtain ⟨g, rfl, d1, -, -⟩ := (H.out.below HO.out.bel).cells i (by have := HN.out; omega)
      have hx := HIN.out i hlt
      have hli : (i : Int) < (n : Int) := by omega
      generalize (gI l i).at_ = xa at *
      go_wp2
      exact ⟨⟨i + 1, by omega, by go_num, trivial⟩, by simp [intOf]; omega⟩
    · obtain rfl : k = i := by omega
      have f1 : wr.frozen? ⟨s0 + 1, 0, none⟩ = false ∧ wr.frozen? ⟨s0 + 1, 1, none⟩ = false := ⟨(HO.out.cel 0 rfl 0 _ rfl).2, (HO.out.cel 0 rfl 1 _ rfl).2⟩
      have hs0W : s0 + 1 < wr.heap.size := World.block_lt_of_cell? wr _ (HO.out.cel 0 rfl 0 _ rfl).1
      have HS : Hid (∀ w', Chg [wr.heap.size] wr w' → w'.cell? ⟨s0, 0, none⟩ = some (.slice a0 n c0) ∧ w'.cell? ⟨s0, 1, none⟩ = some (.int .u64 (q : Int)) ∧ w'.frozen? ⟨s0 + 1, 0, none⟩ = false ∧ w'.frozen? ⟨s0 + 1, 1, none⟩ = false ∧ w'.cell? ⟨s0 + 1, 0, none⟩ = some (.slice none 0 0) ∧ w'.cell? ⟨s0 + 1, 1, none⟩ = some (.int .u64 0)) := Lib.hid fun w' c =>
        ⟨cell_chg g0 c (by simp; omega), cell_chg g1 c (by simp; omega), by
          rw [World.frozen?_of_block (a := ⟨s0 + 1, 0, none⟩) (c.block (s0 + 1) hs0W (by simp; omega))]; exact f1.1, by
          rw [World.frozen?_of_block (a := ⟨s0 + 1, 1, none⟩) (c.block (s0 + 1) hs0W (by simp; omega))]; exact f1.2, cell_chg (HO.out.cel 0 rfl 0 _ rfl).1 c (by simp; omega), cell_chg (HO.out.cel 0 rfl 1 _ rfl).1 c (by simp; omega)⟩
      have HC : Hid (0 < n - k → ∃ ad, b1 = some ad ∧ ∀ w', Below wr.heap.size wr w' → ∀ j u, (icells (l.drop k))[j]? = some u → w'.cell? (ad.add j) = some u) := Lib.hid fun hlt => by
        obtain ⟨g, rfl, hg⟩ := (H.out.below HO.out.bel).tail HN.out k (by omega)
        exact ⟨_, HB1.out (by omega) g rfl, fun w' hb j u hj => by
          have h1 := hg j u hj
          rw [Addr.add_lit] at h1 ⊢
          exact cell_below h1 hb⟩
      have HW : Hid (∀ w', Chg [wr.heap.size] wr w' → CR (s0 + 1) 2 wr w') := Lib.hid fun w' c => by
        obtain ⟨y0, y1, y2, y3, y4, y5⟩ := HS.out w' c
        refine ⟨(Chg.refl [s0 + 1] wr).trans c (fun x hx => .inr (by simp at hx; omega)), Nat.lt_of_lt_of_le hs0W c.size, fun j hj => ?_⟩
        match j, hj with
        | 0, _ => exact ⟨by rw [y4]; rfl, y2⟩
        | 1, _ => exact ⟨by rw [y5]; rfl, y3⟩
      have HK : Hid (∀ w', CR (s0 + 1) 2 wr w' → w'.cell? ⟨s0, 0, none⟩ = some (.slice a0 n c0) ∧ w'.cell? ⟨s0, 1, none⟩ = some (.int .u64 (q : Int)) ∧ CR (s0 + 1) 2 wr w') := Lib.hid fun w' c => ⟨cell_chg g0 c.1 (by simp), cell_chg g1 c.1 (by simp), c⟩
      have HST : Hid (CR (s0 + 1) 2 wr wr) := Lib.hid (HW.out wr (Chg.refl _ _))
      have hnk : n - k = (l.drop k).length := by rw [List.length_drop, ← HN.out]
      have HNK := Lib.hid hnk
      clear hnk
      by_cases hkn : k < n
      case' pos =>
        obtain ⟨g, rfl, d1, -, -⟩ := (H.out.below HO.out.bel).cells k (by have := HN.out; omega)
        have hx := HAT.out hkn
        have hli : (k : Int) < (n : Int) := by omega
        generalize (gI l k).at_ = xa at *
        go_wp2_with fail
        clear d1
        generalize (some ⟨g, 0, none⟩ : Option Addr) = a0 at *
      case' neg =>
        have hli : ¬ (k : Int) < (n : Int) := by omega
        go_wp2_with fail
      all_goals
        go_region_held3 (fun w' => w'.cell? ⟨s0, 0, none⟩ = some (.slice a0 n c0) ∧ w'.cell? ⟨s0, 1, none⟩ = some (.int .u64 (q : Int)) ∧ CR (s0 + 1) 2 wr w')
          ((refine HK.out _ ?_; repeat (first | exact HST.out | exact hb5 | exact lim2 (by assumption) | refine CR.drew ?_ | refine CR.drewN ?_ _ | refine CR.set ?_ _ _ | refine CR.step ?_ (below_alloc1 _ _))))
          (first
            | (refine step_append_items (l := []) (l2 := l.drop k) (by rfl) _ _ _ (by rfl) 48 i0 _ Try.underlying28 Hi.out Hz0.out Hz1.out Hz2.out rfl (by rfl) (by rfl) (World.ownsRow_made _ #[] 0 (Nat.zero_le _) (by simp) (by simp)) (by rfl) HNK.out (fun hlt => by obtain ⟨ad, h1, h2⟩ := HC.out hlt; exact ⟨ad, h1, h2 _ (by first | exact below_alloc1 _ _ | exact (below_drew1 _).alloc (Nat.le_refl _) _ | exact (below_alloc1 _ _).drew)⟩) (by omega) ?_; intro a2 c2 w4 k7 c7 f7; have c1 : Chg [wr.heap.size] wr w4 := (Chg.of_below (by first | exact below_alloc1 _ _ | exact (below_drew1 _).alloc (Nat.le_refl _) _ | exact (below_alloc1 _ _).drew)).trans c7 (fun x hx => .inl hx); obtain ⟨y0, y1, y2, y3, y4, y5⟩ := HS.out w4 c1; have hb5 := HW.out w4 c1))
      all_goals
        rw [Nat.zero_add, List.nil_append] at k7
        rw [Nat.zero_add] at f7
        have hA := Own.appItems (by first | exact (HO.out.step (below_drew1 _)).noItems 48 rfl | exact (HO.out.noItems 48 rfl).step (below_drew1 _) | exact HO.out.noItems 48 rfl) k7 c7 f7
        have HX := Lib.hid (xwake_end (q := q) hA H.out HN.out hkl)
        rename_i hHeld
        clear hA k7 c7 f7 c1 hHeld hb5
        go_wp2
        exact bodyPost_ret (by simp [results, Try.results10, go_sem, y4, y5]) rfl (HX.out _ _)
end Go.Proofs.Ytljdckipnbdknaa
