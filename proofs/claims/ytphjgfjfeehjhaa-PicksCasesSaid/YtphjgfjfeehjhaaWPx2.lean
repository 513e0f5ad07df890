/-
  The walk of the document's Wait.
-/
import Derived.Test.YtphjgfjfeehjhaaRfW
import Derived.Test.YtphjgfjfeehjhaaSegH2
open Go Go.RowKit
set_option linter.unusedVariables false
namespace Go.Proofs.Ytphjgfjfeehjhaa
/-- Three that may come up next. -/
theorem wpAnyH_three {P : Program} {Q : Exit → Act → World → Prop} {S : World → Prop} {l : List Oper} (k k' k'' : Nat) (listed listed1 listed2 listed3 : Array Bool) (fuel : Nat) {a : Act} {w : World} (hB : (decide (Region.ready .any l.toArray listed = [k, k', k'']) && (listed.setIfInBounds k true == listed1) && (listed.setIfInBounds k' true == listed2) && (listed.setIfInBounds k'' true == listed3)) = true)
    (h1 : ∀ K : Act → World → Prop, (∀ a' w', S w' → wpAnyH P .any l.toArray Q S fuel listed1 a' w' → K a' w') → headH P l.toArray Q K a w (l.drop k))
    (h2 : ∀ K : Act → World → Prop, (∀ a' w', S w' → wpAnyH P .any l.toArray Q S fuel listed2 a' w' → K a' w') → headH P l.toArray Q K a w (l.drop k'))
    (h3 : ∀ K : Act → World → Prop, (∀ a' w', S w' → wpAnyH P .any l.toArray Q S fuel listed3 a' w' → K a' w') → headH P l.toArray Q K a w (l.drop k'')) : wpAnyH P .any l.toArray Q S (fuel + 1) listed a w := by
  simp only [Bool.and_eq_true, decide_eq_true_eq, beq_iff_eq] at hB
  obtain ⟨⟨⟨hr, rfl⟩, rfl⟩, rfl⟩ := hB
  refine wpAnyH_all hr (by simp) (fun i hi => ?_)
  have h : ∀ K : Act → World → Prop, (∀ a' w', S w' → wpAnyH P .any l.toArray Q S fuel (listed.setIfInBounds i true) a' w' → K a' w') → headH P l.toArray Q K a w (l.drop i) := by
    have hik : i = k ∨ i = k' ∨ i = k'' := by simpa using hi
    rcases hik with rfl | rfl | rfl
    · exact h1
    · exact h2
    · exact h3
  have h1 := h (fun a' w' => S w' ∧ wpAnyH P .any l.toArray Q S fuel (listed.setIfInBounds i true) a' w') (fun a' w' h2 h3 => ⟨h2, h3⟩)
  cases hd : l.drop i with
  | nil => rw [hd] at h1; exact h1.elim
  | cons o r =>
    rw [hd] at h1
    have h0 : l.toArray[i]? = some o := by
      have : (l.drop i)[0]? = some o := by rw [hd]; rfl
      rw [List.getElem?_drop] at this
      simpa using this
    unfold wpOp
    simp only [h0]
    rw [if_pos h1.1]
    exact .inl h1.2
theorem chg_setC {w w' : World} (h : Below w.heap.size w w') {b k : Nat} (v : Value) : Chg [b] w (w'.setCell ⟨b, k, none⟩ v) := (Chg.of_below h).setCell v (.inl (by simp))
/-- append at a step of a region. -/
theorem wp_append_rowG {P : Program} {w : World} {o : Oper} {ac : Act} {K : Act → World → Prop} {Q : Exit → Act → World → Prop} {s by_ : Nat} (sl x : Operand) (t : TypeId)
    (ho : o.op = .call { callee := .builtin .append, args := #[sl, x], argTypes := #[t, t] }) (e : TypeId) (i : TypeInfo) (z : Value) (ht : P.underlying t = some (.slice e)) (hi : P.info? e = some i) (hz : i.zero = some z) (hsize : i.size = s) (hby : i.bytes = by_) (hzs : z.cells.size = s) (hs0 : 0 < s) (hb0 : by_ ≤ 1000)
    {a b : Option Addr} {cap c n m : Nat} {cs ds : List Value} (hs : ac.eval sl = .slice a n cap) (hx : ac.eval x = .slice b m c) (ha : RowG s w a cap n cs) (hb : CellsAt w b ds) (hd : ds.length = m * s) (hone : ∀ u ∈ ds, u.oneCell' = true) (h47 : n + m ≤ 1000000000)
    (h : ∀ a' cap' w', RowG s w' a' cap' (n + m) (cs ++ ds) → Chg (blk a) w w' → (∀ x ∈ blk a', x ∈ blk a ∨ w.heap.size ≤ x) → K (ac.put o.dst (.slice a' (n + m) cap')) w') : Oper.wp P o ac w K Q := by
  obtain ⟨a', cap', w', hr, h2, h3, h4⟩ := append_rowG (P := P) (w := w) t o.type e i z ht hi hz hsize hby hzs hs0 hb0 ha (c := c) hb hd hone h47
  unfold Oper.wp execOp
  simp only [ho, resolve, invoke, builtin, Sem.run_bind, Sem.run_pure, Result.andThen_ok, List.map_toArray, List.map_cons, List.map_nil, hs, hx, hr]
  exact h a' cap' w' h2 h3 h4
/-- Behind append(append(none, row..), one): the row, and its pieces. -/
def WaP (w0 w1 : World) (s0 : Nat) (xc cc : List Value) (A : Asr) (fld : Nat) (l : List Wt) (rs' : List Rw) (R : List Asr) (wx : World) : Prop :=
  ∃ b c, Own w0 wx (CelA (s0 + 1) (xc.set fld (.slice b l.length c)) :: CelA s0 cc :: A :: PoolR ((3, b, c, l.length, wtc l) :: rs') :: R) ∧ Below w1.heap.size w1 wx
/-- Amid the loop. -/
def WaSt (w0 w1 : World) (R : List Asr) (rs : List Rw) (xs : List Rf) (g : Int) (regs : List Int) (ks : List Cs3) (a1 : Option Addr) (c1 n B i : Nat) (wr : World) (xs' : List Rf) (rs' : List Rw) : Prop :=
  Own w0 wr (RowGA 5 a1 c1 n (rfs xs') :: PoolR rs' :: R) ∧ Below w1.heap.size w1 wr ∧ (∀ x ∈ xs', x.In rs') ∧ (∀ q ∈ rs, q ∈ rs') ∧ wasF g regs 0 ks (xs.map (·.C)) = wasF g regs i (ks.drop i) (xs'.map (·.C)) ∧ xs'.map (·.N) = xs.map (·.N) ∧ Lim (B + i) (xs'.map (·.C))
/-- One case further. -/
theorem WaSt.next {w0 w1 wf : World} {R : List Asr} {rs rs' rs'' : List Rw} {xs xs' : List Rf} {g : Int} {regs : List Int} {ks : List Cs3} {a1 : Option Addr} {c1 n B i j : Nat} {X Y : Rf} {k1 k3 : Int} (hX : xs'[j]? = some X) (hN : Y.N = X.N) (hw : waF g regs i (k1, (j : Int), k3) (xs'.map (·.C)) = (xs'.map (·.C)).set j Y.C)
    (hr : (∀ x ∈ xs', x.In rs') ∧ (∀ q ∈ rs, q ∈ rs') ∧ wasF g regs 0 ks (xs.map (·.C)) = wasF g regs (i + 1) (ks.drop (i + 1)) (waF g regs i (k1, (j : Int), k3) (xs'.map (·.C))) ∧ xs'.map (·.N) = xs.map (·.N) ∧ Lim (B + i) (xs'.map (·.C)))
    (hin : Y.In rs'') (hm : ∀ q ∈ rs', q ∈ rs'') (hl : Y.C.buf.length ≤ B + (i + 1) ∧ Y.C.S.length ≤ B + (i + 1) ∧ Y.C.R.length ≤ B + (i + 1)) (ho : Own w0 wf (RowGA 5 a1 c1 n (rfs (xs'.set j Y)) :: PoolR rs'' :: R)) (hb : Below w1.heap.size w1 wf) : WaSt w0 w1 R rs xs g regs ks a1 c1 n B (i + 1) wf (xs'.set j Y) rs'' := by
  obtain ⟨r3, r4, r5, r6, r7⟩ := hr
  refine ⟨ho, hb, fun x hx => ?_, fun q hq => hm q (r4 q hq), ?_, ?_, ?_⟩
  · rcases List.mem_or_eq_of_mem_set hx with h | h
    · exact (r3 x h).mono hm
    · rw [h]; exact hin
  · rw [r5, hw, List.map_set]
  · rw [List.map_set, set_same, r6]
    rw [List.getElem?_map, hX, hN]; rfl
  · rw [List.map_set]; exact (r7.mono (by omega)).set _ _ hl
set_option maxRecDepth 100000 in
set_option maxHeartbeats 8000000 in
theorem xwait_any {w0 w : World} {R : List Asr} {rs : List Rw} (h : Own w0 w (PoolR rs :: R)) (xa : Option Addr) (n xc : Nat) (xs : List Rf) (hx : CellsAt w xa (rfs xs)) (hn : n = xs.length) (hxi : ∀ x ∈ xs, x.In rs) (g : Int) (ka : Option Addr) (m kc : Nat) (ks : List Cs3) (hk : CellsAt w ka (c3s ks)) (hm : m = ks.length) (hm2 : m ≤ 1000)
    (g0 g1 g2 g3 g4 g5 g6 g7 : Int) (hok : CasOK n ks) (B : Nat) (hB : Lim B (xs.map (·.C))) (hB2 : B ≤ 1000) (hn2 : n ≤ 1000) :
    Calls Try.prog 12 #[.int .i64 g, .slice ka m kc, .agg #[.int .i64 g0, .int .i64 g1, .int .i64 g2, .int .i64 g3, .int .i64 g4, .int .i64 g5, .int .i64 g6, .int .i64 g7], .slice xa n xc] w fun r w' =>
      XWaited w0 w R rs n (xs.map (·.N)) (wasF g [g0, g1, g2, g3, g4, g5, g6, g7] 0 ks (xs.map (·.C))) r w' := by
  obtain ⟨regs, hregs⟩ : ∃ regs : List Int, regs = [g0, g1, g2, g3, g4, g5, g6, g7] := ⟨_, rfl⟩
  have hbx := Blk.mk w [.int .i64 g0, .int .i64 g1, .int .i64 g2, .int .i64 g3, .int .i64 g4, .int .i64 g5, .int .i64 g6, .int .i64 g7] 25 w.heap.size rfl
  have hbi : ∀ q (hq : q < regs.length), (w.alloc (.cells #[.int .i64 g0, .int .i64 g1, .int .i64 g2, .int .i64 g3, .int .i64 g4, .int .i64 g5, .int .i64 g6, .int .i64 g7] 25)).cell? ⟨w.heap.size, q, none⟩ = some (.int .i64 regs[q]) := fun q hq => by
    refine (hbx q _ ?_).1
    subst hregs
    have := intc_at [g0, g1, g2, g3, g4, g5, g6, g7] q hq
    exact this
  have hr8 : regs.length = 8 := by rw [hregs]; rfl
  rw [← hregs]
  have H := Lib.hid (h.step (below_alloc1 w (.cells #[.int .i64 g0, .int .i64 g1, .int .i64 g2, .int .i64 g3, .int .i64 g4, .int .i64 g5, .int .i64 g6, .int .i64 g7] 25)))
  have HX := Lib.hid (hx.below (below_alloc1 w (.cells #[.int .i64 g0, .int .i64 g1, .int .i64 g2, .int .i64 g3, .int .i64 g4, .int .i64 g5, .int .i64 g6, .int .i64 g7] 25)))
  have HK := Lib.hid (hk.below (below_alloc1 w (.cells #[.int .i64 g0, .int .i64 g1, .int .i64 g2, .int .i64 g3, .int .i64 g4, .int .i64 g5, .int .i64 g6, .int .i64 g7] 25)))
  have HBI := Lib.hid hbi
  have HBW := Lib.hid (below_alloc1 w (.cells #[.int .i64 g0, .int .i64 g1, .int .i64 g2, .int .i64 g3, .int .i64 g4, .int .i64 g5, .int .i64 g6, .int .i64 g7] 25))
  have HN := Lib.hid hn
  have HM := Lib.hid hm
  have HO := Lib.hid hok
  have HXI := Lib.hid hxi
  have HLB := Lib.hid hB
  have HSZ : Hid (w.heap.size < (w.alloc (.cells #[.int .i64 g0, .int .i64 g1, .int .i64 g2, .int .i64 g3, .int .i64 g4, .int .i64 g5, .int .i64 g6, .int .i64 g7] 25)).heap.size) := Lib.hid (by simp)
  clear h hx hk hbi hbx hn hm hok hxi hB hregs
  obtain ⟨i0, hi0, hz0, hz1, hz2⟩ := info_parts info_xw
  have Hi := Lib.hid hi0; clear hi0
  have Hz0 := Lib.hid hz0; clear hz0
  have Hz1 := Lib.hid hz1; clear hz1
  have Hz2 := Lib.hid hz2; clear hz2
  obtain ⟨j0, hi0, hz0, hz1, hz2⟩ := info_parts info_xc
  have Ji := Lib.hid hi0; clear hi0
  have Jz0 := Lib.hid hz0; clear hz0
  have Jz1 := Lib.hid hz1; clear hz1
  have Jz2 := Lib.hid hz2; clear hz2
  go_enter Try.func12, Try.ntmps12
  go_upto_region 1 with fail
  obtain ⟨sB, hsB⟩ : ∃ sB, sB = w.heap.size := ⟨_, rfl⟩
  rw [← hsB] at HBI HSZ ⊢
  generalize hw1 : w.alloc (.cells #[.int .i64 g0, .int .i64 g1, .int .i64 g2, .int .i64 g3, .int .i64 g4, .int .i64 g5, .int .i64 g6, .int .i64 g7] 25) = w1 at *
  clear hw1 hsB
  go_wp2_with (at_builtin; refine wpList_append_rowG (n := 0) (m := n) (cs := []) (ds := rfs xs) rfl _ _ 28 rfl 53 j0 _ Try.underlying28 Ji.out Jz0.out Jz1.out Jz2.out rfl (by omega) (by omega) rfl rfl (RowG.zero (by simp)) (HX.out.below (below_alloc1 _ _)) (by rw [rfs_len, HN.out]) (rfs_one _) (by omega) ?_)
  intro a1 c1 w2 k1 ch1 f1
  have hb12 : Below w1.heap.size w1 w2 := Chg.below (below_alloc1 _ _) ch1 (fun x hx => by simp [blk] at hx; omega)
  have hf12 : ∀ x ∈ blk a1, w1.heap.size ≤ x := fun x hx => by
    rcases f1 x hx with h | h
    · simp [blk] at h; omega
    · first | omega | (simp at h; omega)
  have hO2 : Own w0 w2 (RowGA 5 a1 c1 n (rfs xs) :: PoolR rs :: R) := H.out.add hb12 (A := RowGA 5 a1 c1 n (rfs xs)) (F := blk a1) ⟨rfl, by simpa using k1⟩ hf12
  have HST := Lib.hid (show WaSt w0 w1 R rs xs g regs ks a1 c1 n B 0 w2 xs rs from ⟨hO2, hb12, HXI.out, fun _ h => h, rfl, rfl, HLB.out⟩)
  have HF12 := Lib.hid hf12
  clear k1 ch1 f1 hb12 hf12 hO2
  go_wp2_with fail
  go_loopw [18] (fun s18 wr => ∃ i : Nat, ∃ xs' rs', i ≤ m ∧ s18 = .int .i64 i ∧ Hid (WaSt w0 w1 R rs xs g regs ks a1 c1 n B i wr xs' rs')) (fun s18 _ => m - (intOf s18).toNat)
  case atStart => exact ⟨0, xs, rs, by omega, rfl, HST⟩
  case round =>
    obtain ⟨i, xs', rs', hi, rfl, hr⟩ := hrel
    obtain ⟨r1, r2, r3, r4, r5, r6, r7⟩ := hr.out
    clear HST
    by_cases hlt : i < m
    · have hil : i < ks.length := by have := HM.out; omega
      obtain ⟨b, off, rfl, q0, q1, q2⟩ := CellsAt.wt (l := ks) (HK.out.below r2) i hil
      have hok := HO.out ks[i] (List.getElem_mem hil)
      rw [wasF_drop g regs ks i hil] at r5
      obtain ⟨x, hx⟩ : ∃ x, x = ks[i] := ⟨_, rfl⟩
      rw [← hx] at q0 q1 q2 hok r5
      clear hx
      obtain ⟨k1, k2, k3⟩ := x
      simp only at q0 q1 q2 hok
      obtain ⟨h0, h1, h2, h3, h4⟩ := hok
      obtain ⟨j, rfl⟩ : ∃ j : Nat, k2 = (j : Int) := ⟨k2.toNat, by omega⟩
      have hli : (i : Int) < (m : Int) := by omega
      by_cases h22 : k1 = 2
      · subst h22
        have e : waF g regs i (2, (j : Int), k3) (xs'.map (·.C)) = xs'.map (·.C) := by unfold waF; split <;> simp
        rw [e] at r5
        have HR := Lib.hid (show WaSt w0 w1 R rs xs g regs ks a1 c1 n B (i + 1) (wr.alloc (.cells #[.int .i64 2, .int .i64 (j : Int), .int .i64 k3] 33)) xs' rs' from
          ⟨r1.step (below_alloc1 _ _), below_on r2 (below_alloc1 _ _), r3, r4, r5, r6, r7.mono (by omega)⟩)
        clear hr r1 r2 r3 r4 r5 r6 r7 h0 h1 h2 h3 h4 e
        go_wp2
        exact ⟨⟨i + 1, xs', rs', by omega, by go_num, HR⟩, by simp [intOf]; omega⟩
      · have hxl : xs'.length = n := by have := congrArg List.length r6; simp at this; rw [this]; exact HN.out.symm
        have hjn : j < xs'.length := by have := h2 h22; omega
        have hjn' : (j : Int) < (n : Int) := by omega
        obtain ⟨X, hX⟩ : ∃ X, xs'[j]? = some X := ⟨_, List.getElem?_eq_getElem hjn⟩
        have hXm := List.mem_of_getElem? hX
        have hXC : (xs'.map (·.C))[j]? = some X.C := by rw [List.getElem?_map, hX]; rfl
        have hlim := r7 X.C (List.mem_of_getElem? hXC)
        have hin := r3 X hXm
        have hat := r1.pool 1 rfl hin
        obtain ⟨ob, oo, rfl, x0, x1, x2, x3, x4⟩ := (r1.rowG 0 rfl).cells.rf hX
        have obl : ob < wr.heap.size := World.block_lt_of_cell? _ _ x0
        obtain ⟨N, C, ba, bc, sa, sc, ra, rc⟩ := X
        obtain ⟨buf, S, Rv, cl⟩ := C
        simp only at x0 x1 x2 x3 x4 hlim hXC
        obtain ⟨n1, hn1⟩ : ∃ n, n = buf.length := ⟨_, rfl⟩
        obtain ⟨n2, hn2⟩ : ∃ n, n = S.length := ⟨_, rfl⟩
        obtain ⟨n3, hn3⟩ : ∃ n, n = Rv.length := ⟨_, rfl⟩
        rw [← hn1] at x1 hlim
        rw [← hn2] at x2 hlim
        rw [← hn3] at x3 hlim
        obtain ⟨s0, hs0⟩ : ∃ s0, s0 = wr.heap.size := ⟨_, rfl⟩
        have hW : Own w0 ((wr.alloc (.cells #[.int .i64 k1, .int .i64 (j : Int), .int .i64 k3] 33)).alloc (.cells #[.int .i64 (N : Int), .slice ba n1 bc, .slice sa n2 sc, .slice ra n3 rc, .bool cl] 53)) (CelA (s0 + 1) [.int .i64 (N : Int), .slice ba n1 bc, .slice sa n2 sc, .slice ra n3 rc, .bool cl] :: CelA s0 [.int .i64 k1, .int .i64 (j : Int), .int .i64 k3] :: RowGA 5 (some ⟨ob, oo, none⟩) c1 n (rfs xs') :: PoolR rs' :: R) :=
          (r1.alloc [.int .i64 k1, .int .i64 (j : Int), .int .i64 k3] _ hs0).alloc [.int .i64 (N : Int), .slice ba n1 bc, .slice sa n2 sc, .slice ra n3 rc, .bool cl] _ (by simp [hs0])
        have hWb : Below w1.heap.size w1 ((wr.alloc (.cells #[.int .i64 k1, .int .i64 (j : Int), .int .i64 k3] 33)).alloc (.cells #[.int .i64 (N : Int), .slice ba n1 bc, .slice sa n2 sc, .slice ra n3 rc, .bool cl] 53)) := below_on r2 (below_alloc2 _ _ _)
        have HWO := Lib.hid hW
        have HWB := Lib.hid hWb
        have H1 := Lib.hid (And.intro hn1 (And.intro hn2 hn3))
        have HIN := Lib.hid hin
        have HXX := Lib.hid (And.intro hX hXC)
        have HRR := Lib.hid (show _ ∧ _ ∧ _ ∧ _ ∧ _ from ⟨r3, r4, r5, r6, r7⟩)
        have HRB := Lib.hid r2
        have HOB : Hid (w1.heap.size ≤ ob) := Lib.hid (HF12.out ob (by simp [blk]))
        have HS1 : Hid (w1.heap.size ≤ s0 + 1) := Lib.hid (by have := HRB.out.size; omega)
        have HJN : Hid (j < n) := Lib.hid (by omega)
        have HJL : Hid (j < xs'.length) := Lib.hid hjn
        have HLM : Hid (n1 ≤ B + i ∧ n2 ≤ B + i ∧ n3 ≤ B + i ∧ n1 = buf.length ∧ n2 = S.length ∧ n3 = Rv.length) := Lib.hid ⟨hlim.1, hlim.2.1, hlim.2.2, hn1, hn2, hn3⟩
        have hob1 : ob ≠ s0 := by omega
        have hob2 : ob ≠ s0 + 1 := by omega
        have hn3k : n3 ≤ 2000 := by omega
        have hn2k : n2 ≤ 2000 := by omega
        clear hr r1 r2 r3 r4 r5 r6 r7 hW hWb hn1 hn2 hn3 hin hat hX hXC hXm hlim hjn
        rcases (by omega : k1 = 0 ∨ k1 = 1) with rfl | rfl
        · have hw : waF g regs i (0, (j : Int), k3) (xs'.map (·.C)) = (xs'.map (·.C)).set j ⟨buf, S, Rv ++ [(g, (i : Int), 0)], cl⟩ := by unfold waF; simp only [Int.toNat_natCast, HXX.out.2]; rfl
          have HWF := Lib.hid hw
          clear hw
          go_upto_region 8 with fail
          rw [← hs0]
          generalize (wr.alloc (.cells #[.int .i64 0, .int .i64 (j : Int), .int .i64 k3] 33)).alloc (.cells #[.int .i64 (N : Int), .slice ba n1 bc, .slice sa n2 sc, .slice ra n3 rc, .bool cl] 53) = W at *
          have HROW : Hid (RowG 3 W ra rc n3 (wtc Rv)) := Lib.hid (by have := (HWO.out.pool 3 rfl HIN.out).2.2; simp only at this; rw [← H1.out.2.2] at this; exact this)
          obtain ⟨a3, -⟩ := HWO.out.cel 0 rfl 3 _ rfl
          have hsl := World.block_lt_of_cell? _ _ a3
          clear q0 q1 q2 x0 x1 x2 x3 x4 obl hs0
          go_wp2_with (at_builtin; refine wpList_append_rowG (n := 0) (m := n3) (cs := []) (ds := wtc Rv) rfl _ _ 51 rfl 66 i0 _ Try.underlying51 Hi.out Hz0.out Hz1.out Hz2.out rfl (by omega) (by omega) rfl rfl (RowG.zero (by simp)) (HROW.out.below (below_alloc1 _ _)).cells (by rw [wtc_len, H1.out.2.2]) (wtc_one _) (by omega) ?_)
          intro b1 e1 w4 k1 ch1 f1
          have hb4 : Below W.heap.size W w4 := Chg.below (below_alloc1 _ _) ch1 (fun x hx => by simp [blk] at hx; omega)
          have hf4 : ∀ x ∈ blk b1, W.heap.size ≤ x := fun x hx => by
            rcases f1 x hx with h | h
            · simp [blk] at h; omega
            · first | omega | (simp at h; omega)
          have K1 : Hid (RowG 3 w4 b1 e1 n3 (wtc Rv)) := Lib.hid (by simpa using k1)
          have HB4 := Lib.hid (And.intro hb4 hf4)
          clear k1 ch1 f1 hb4 hf4
          go_wp2_with (at_builtin; refine wpList_append_rowG (n := n3) (m := 1) (cs := wtc Rv) (ds := wtc [(g, (i : Int), 0)]) rfl _ _ 51 rfl 66 i0 _ Try.underlying51 Hi.out Hz0.out Hz1.out Hz2.out rfl (by omega) (by omega) (by first | rfl | simp) rfl (K1.out.below (below_alloc1 _ _)) (CellsAt.new _ (wtc [(g, (i : Int), 0)]) _ (by first | rfl | simp)) rfl (wtc_one _) (by omega) ?_)
          intro b2 e2 w5 k2 ch2 f2
          have hb5 : Below W.heap.size W w5 := Chg.below (below_on HB4.out.1 (below_alloc1 _ _)) ch2 HB4.out.2
          have hf5 : ∀ x ∈ blk b2, W.heap.size ≤ x := fun x hx => by
            rcases f2 x hx with h | h
            · exact HB4.out.2 x h
            · have := HB4.out.1.size; first | omega | (simp at h; omega)
          have hln : (Rv ++ [(g, (i : Int), 0)]).length = n3 + 1 := by rw [H1.out.2.2]; simp
          have hrow : RowG 3 w5 b2 e2 (Rv ++ [(g, (i : Int), 0)]).length (wtc (Rv ++ [(g, (i : Int), 0)])) := by rw [hln, wtc_app]; exact k2
          have o5 := Own.rAdd (HWO.out.pick 3 rfl) hb5 hrow (fun x hx => .inr (hf5 x hx))
          have o6 := (((o5.pick 3 rfl).pick 3 rfl).pick 3 rfl).set 3 (.slice b2 (n3 + 1) e2)
          obtain ⟨p3, pm3⟩ := o5.cel 1 rfl 3 _ rfl
          have HB6 := Lib.hid ((below_on HWB.out hb5).setCell (p := ⟨s0 + 1, 3, none⟩) HS1.out (.slice b2 (n3 + 1) e2))
          have O6 := Lib.hid o6
          clear k2 ch2 f2 hb5 hf5 hrow o5 o6 HB4 K1 HROW
          go_upto_region 10 with fail
          clear p3 pm3 a3 hsl
          generalize w5.setCell ⟨s0 + 1, 3, none⟩ (.slice b2 (n3 + 1) e2) = W9 at *
          obtain ⟨f0, -⟩ := O6.out.cel 0 rfl 0 _ rfl
          obtain ⟨f1, -⟩ := O6.out.cel 0 rfl 1 _ rfl
          obtain ⟨f2, -⟩ := O6.out.cel 0 rfl 2 _ rfl
          obtain ⟨f3, -⟩ := O6.out.cel 0 rfl 3 _ rfl
          obtain ⟨f4, -⟩ := O6.out.cel 0 rfl 4 _ rfl
          obtain ⟨y1, -⟩ := O6.out.cel 1 rfl 1 _ rfl
          have hrg := O6.out.rowG 2 rfl
          have hcap : j * 5 + 5 ≤ c1 * 5 := by have h1 := hrg.2.1; have h2 := HJN.out; omega
          obtain ⟨z0, u0, v0⟩ := hrg.spot (j * 5) (by omega)
          obtain ⟨z1, u1, v1⟩ := hrg.spot (j * 5 + 1) (by omega)
          obtain ⟨z2, u2, v2⟩ := hrg.spot (j * 5 + 2) (by omega)
          obtain ⟨z3, u3, v3⟩ := hrg.spot (j * 5 + 3) (by omega)
          obtain ⟨z4, u4, v4⟩ := hrg.spot (j * 5 + 4) (by omega)
          simp only [← Nat.add_assoc] at u1 u2 u3 u4 v1 v2 v3 v4
          have o7 := Own.rfSet (xs := xs') (O6.out.pick 2 rfl) j ⟨N, ⟨buf, S, Rv ++ [(g, (i : Int), 0)], cl⟩, ba, bc, sa, sc, b2, e2⟩ HJL.out
          simp only at o7
          have hr0 := WaSt.next (w1 := w1) (rs := rs) (xs := xs) (Y := ⟨N, ⟨buf, S, Rv ++ [(g, (i : Int), 0)], cl⟩, ba, bc, sa, sc, b2, e2⟩) HXX.out.1 rfl HWF.out HRR.out ⟨List.mem_cons_of_mem _ HIN.out.1, List.mem_cons_of_mem _ HIN.out.2.1, List.mem_cons_self⟩ (fun q hq => List.mem_cons_of_mem _ hq) ⟨by have := HLM.out; simp only [List.length_append, List.length_cons, List.length_nil]; omega, by have := HLM.out; simp only [List.length_append, List.length_cons, List.length_nil]; omega, by have := HLM.out; simp only [List.length_append, List.length_cons, List.length_nil]; omega⟩ ((o7.pick 1 rfl).drop.pick 1 rfl).drop ((((((HB6.out).setCell (p := ⟨ob, oo + j * 5, none⟩) HOB.out _).setCell (p := ⟨ob, oo + j * 5 + 1, none⟩) HOB.out _).setCell (p := ⟨ob, oo + j * 5 + 2, none⟩) HOB.out _).setCell (p := ⟨ob, oo + j * 5 + 3, none⟩) HOB.out _).setCell (p := ⟨ob, oo + j * 5 + 4, none⟩) HOB.out _)
          rw [← H1.out.1, ← H1.out.2.1, hln] at hr0
          have HR := Lib.hid hr0
          clear hr0 o7 hrg O6 HRR HXX HB6 HIN HWF HWO HWB hln
          go_wp2
          exact ⟨⟨i + 1, _, _, by omega, by go_num, HR⟩, by simp [intOf]; omega⟩
        · obtain ⟨q, rfl⟩ : ∃ q : Nat, k3 = (q : Int) := ⟨k3.toNat, by omega⟩
          have hq8 : q < regs.length := by omega
          have hq8' : (q : Int) < 8 := by omega
          obtain ⟨v, hv⟩ : ∃ v, v = regs[q] := ⟨_, rfl⟩
          have gB := HBI.out q hq8
          rw [← hv] at gB
          have hw : waF g regs i (1, (j : Int), (q : Int)) (xs'.map (·.C)) = (xs'.map (·.C)).set j ⟨buf, S ++ [(g, (i : Int), v)], Rv, cl⟩ := by unfold waF; simp only [Int.toNat_natCast, HXX.out.2]; simp [hv, List.getD_eq_getElem?_getD, List.getElem?_eq_getElem hq8]
          have HWF := Lib.hid hw
          have HGB := Lib.hid gB
          clear hw hv hq8 gB
          go_upto_region 9 with fail
          rw [← hs0]
          generalize (wr.alloc (.cells #[.int .i64 1, .int .i64 (j : Int), .int .i64 (q : Int)] 33)).alloc (.cells #[.int .i64 (N : Int), .slice ba n1 bc, .slice sa n2 sc, .slice ra n3 rc, .bool cl] 53) = W at *
          have HROW : Hid (RowG 3 W sa sc n2 (wtc S)) := Lib.hid (by have := (HWO.out.pool 3 rfl HIN.out).2.1; simp only at this; rw [← H1.out.2.1] at this; exact this)
          obtain ⟨a2, -⟩ := HWO.out.cel 0 rfl 2 _ rfl
          obtain ⟨c2, -⟩ := HWO.out.cel 1 rfl 2 _ rfl
          have gB := cell_below HGB.out HWB.out
          have hsl : s0 + 1 < W.heap.size := World.block_lt_of_cell? _ _ a2
          have hsl0 : s0 < W.heap.size := World.block_lt_of_cell? _ _ c2
          have hslB : sB < W.heap.size := World.block_lt_of_cell? _ _ gB
          have hln : (S ++ [(g, (i : Int), v)]).length = n2 + 1 := by rw [H1.out.2.1]; simp
          have hsB1 : sB ≠ s0 + 1 := by have := HSZ.out; have := HRB.out.size; omega
          clear q0 q1 q2 x0 x1 x2 x3 x4 obl hs0
          go_cut [57] (fun s wx => s = .pointer (some ⟨s0 + 1, 2, none⟩) ∧ WaP w0 w1 s0 [.int .i64 (N : Int), .slice ba n1 bc, .slice sa n2 sc, .slice ra n3 rc, .bool cl] [.int .i64 1, .int .i64 (j : Int), .int .i64 (q : Int)] (RowGA 5 (some ⟨ob, oo, none⟩) c1 n (rfs xs')) 2 (S ++ [(g, (i : Int), v)]) rs' R wx)
          case first =>
            have hpp : ∀ wx, Below W.heap.size W wx → wx.cell? ⟨s0, 2, none⟩ = some (.int .i64 (q : Int)) ∧ wx.cell? ⟨sB, q, none⟩ = some (.int .i64 v) := fun wx hb => ⟨cell_below c2 hb, cell_below gB hb⟩
            have HPP := Lib.hid hpp
            have HPQ : Hid (∀ wx, Chg [s0 + 1] W wx → wx.cell? ⟨s0, 2, none⟩ = some (.int .i64 (q : Int)) ∧ wx.cell? ⟨sB, q, none⟩ = some (.int .i64 v)) := Lib.hid fun wx hc => ⟨cell_chg c2 hc (by simp), cell_chg gB hc (by simpa using hsB1)⟩
            clear hpp
            refine wp_region_lexH (fun wx => wx.cell? ⟨s0, 2, none⟩ = some (.int .i64 (q : Int)) ∧ wx.cell? ⟨sB, q, none⟩ = some (.int .i64 v)) 15 (Array.replicate 15 false) (by kernel_rfl) (by kernel_rfl) ?_
            refine wpAnyH_seg 1 1 _ #[false, true, false, false, false, false, false, false, false, false, false, false, false, false, false] 14 (by kernel_rfl) noPanic_put (HPP.out _ (below_drew1 W)) (by kernel_rfl) ?_
            simp only [List.take_succ_cons, List.take_zero, List.drop_succ_cons, List.drop_zero]
            repeat (first
              | (refine wpSegH_no (by rfl) ?_; simp only [Act.put, List.setIfInBounds_toArray, List.set_cons_zero, List.set_cons_succ])
              | (refine wpSegH_yes (by rfl) ?_; apply Exists.intro; apply And.intro; (· (intro wx hS; (try dsimp only at hS); go_simp; first | done | with_reducible rfl)); simp only [Act.put, List.setIfInBounds_toArray, List.set_cons_zero, List.set_cons_succ]))
            refine wpSegH_nil ?_
            refine wpAnyH_seg 4 7 _ #[false, true, false, false, true, true, true, true, true, true, true, false, false, false, false] 7 (by kernel_rfl) noPanic_put (HPP.out _ (below_drew1 W)) (by kernel_rfl) ?_
            simp only [List.take_succ_cons, List.take_zero, List.drop_succ_cons, List.drop_zero]
            repeat (first
              | (refine wpSegH_no (by rfl) ?_; simp only [Act.put, List.setIfInBounds_toArray, List.set_cons_zero, List.set_cons_succ])
              | (refine wpSegH_yes (by rfl) ?_; apply Exists.intro; apply And.intro; (· (intro wx hS; (try dsimp only at hS); go_simp; first | done | with_reducible rfl)); simp only [Act.put, List.setIfInBounds_toArray, List.set_cons_zero, List.set_cons_succ]))
            refine wpSegH_nil ?_
            refine wpAnyH_three 0 2 11 _ #[true, true, false, false, true, true, true, true, true, true, true, false, false, false, false] #[false, true, true, false, true, true, true, true, true, true, true, false, false, false, false] #[false, true, false, false, true, true, true, true, true, true, true, true, false, false, false] 6 (by kernel_rfl) (fun K hK => ?_) (fun K hK => ?_) (fun K hK => ?_)
            · skip
              have HKK := Lib.hid hK
              clear hK
              simp only [List.drop_zero]
              refine headH_mk (by rfl) ?_
              go_simp
              refine HKK.out _ _ (HPP.out _ (by repeat (first | exact Below.refl _ _ | refine Below.drew ?_ | refine below_drewN ?_ _ | refine Below.alloc ?_ (by first | (simp; done) | (simp; omega)) _))) ?_
              clear HKK K
              refine wpAnyH_two 2 11 _ #[true, true, true, false, true, true, true, true, true, true, true, false, false, false, false] #[true, true, false, false, true, true, true, true, true, true, true, true, false, false, false] 5 (by kernel_rfl) (fun K hK => ?_) (fun K hK => ?_)
              · skip
                have HKK := Lib.hid hK
                clear hK
                simp only [List.drop_succ_cons, List.drop_zero]
                refine headH_mk (by rfl) ?_
                go_simp
                refine HKK.out _ _ (HPP.out _ (by repeat (first | exact Below.refl _ _ | refine Below.drew ?_ | refine below_drewN ?_ _ | refine Below.alloc ?_ (by first | (simp; done) | (simp; omega)) _))) ?_
                clear HKK K
                refine wpAnyH_two 3 11 _ #[true, true, true, true, true, true, true, true, true, true, true, false, false, false, false] #[true, true, true, false, true, true, true, true, true, true, true, true, false, false, false] 4 (by kernel_rfl) (fun K hK => ?_) (fun K hK => ?_)
                · skip
                  have HKK := Lib.hid hK
                  clear hK
                  simp only [List.drop_succ_cons, List.drop_zero]
                  refine headH_mk (by rfl) ?_
                  refine wp_append_rowG (n := 0) (m := n2) (cs := []) (ds := wtc S) _ _ 51 (by rfl) 66 i0 _ Try.underlying51 Hi.out Hz0.out Hz1.out Hz2.out rfl (by omega) (by omega) (by rfl) (by rfl) (RowG.zero (by first | (simp; done) | (simp; omega))) (HROW.out.below (by repeat (first | exact Below.refl _ _ | refine Below.drew ?_ | refine below_drewN ?_ _ | refine Below.alloc ?_ (by first | (simp; done) | (simp; omega)) _))).cells (by rw [wtc_len, H1.out.2.1]) (wtc_one _) (by omega) ?_
                  intro b1 e1 w4 k1 ch1 f1
                  have hb4 : Below W.heap.size W w4 := Chg.below (by repeat (first | exact Below.refl _ _ | refine Below.drew ?_ | refine below_drewN ?_ _ | refine Below.alloc ?_ (by first | (simp; done) | (simp; omega)) _)) ch1 (fun x hx => by simp [blk] at hx; omega)
                  have hf4 : ∀ x ∈ blk b1, W.heap.size ≤ x := fun x hx => by
                    rcases f1 x hx with h | h
                    · simp [blk] at h; omega
                    · first | omega | (simp at h; omega)
                  have K1 : Hid (RowG 3 w4 b1 e1 n2 (wtc S)) := Lib.hid (by simpa using k1)
                  have CH1 := Lib.hid ch1
                  clear k1 ch1 f1
                  refine HKK.out _ _ (HPP.out _ hb4) ?_
                  rw [Nat.zero_add]
                  clear HKK K
                  refine wpAnyH_one 11 _ #[true, true, true, true, true, true, true, true, true, true, true, true, false, false, false] 3 (by kernel_rfl) (fun K hK => ?_)
                  have HKK := Lib.hid hK
                  clear hK
                  simp only [List.drop_succ_cons, List.drop_zero]
                  refine headH_mk (by rfl) ?_
                  go_simp
                  refine HKK.out _ _ (HPP.out _ (below_on hb4 (by repeat (first | exact Below.refl _ _ | refine Below.drew ?_ | refine below_drewN ?_ _ | refine Below.alloc ?_ (by first | (simp; done) | (simp; omega)) _)))) ?_
                  clear HKK K
                  refine wpAnyH_one 12 _ #[true, true, true, true, true, true, true, true, true, true, true, true, true, false, false] 2 (by kernel_rfl) (fun K hK => ?_)
                  have HKK := Lib.hid hK
                  clear hK
                  simp only [List.drop_succ_cons, List.drop_zero]
                  refine headH_mk (by rfl) ?_
                  refine wp_append_rowG (n := n2) (m := 1) (cs := wtc S) (ds := wtc [(g, (i : Int), v)]) _ _ 51 (by rfl) 66 i0 _ Try.underlying51 Hi.out Hz0.out Hz1.out Hz2.out rfl (by omega) (by omega) (by first | rfl | simp) (by rfl) (K1.out.below (by repeat (first | exact Below.refl _ _ | refine Below.drew ?_ | refine below_drewN ?_ _ | refine Below.alloc ?_ (by first | (simp; done) | (simp; omega)) _))) (CellsAt.new _ (wtc [(g, (i : Int), v)]) _ (by first | rfl | simp)) rfl (wtc_one _) (by omega) ?_
                  intro b2 e2 w5 k2 ch2 f2
                  have hb5 : Below W.heap.size W w5 := Chg.below (below_on hb4 (by repeat (first | exact Below.refl _ _ | refine Below.drew ?_ | refine below_drewN ?_ _ | refine Below.alloc ?_ (by first | (simp; done) | (simp; omega)) _))) ch2 (fun x hx => hf4 x hx)
                  have hf5 : ∀ x ∈ blk b2, W.heap.size ≤ x := fun x hx => by
                    rcases f2 x hx with h | h
                    · exact hf4 x h
                    · have := hb4.size; first | omega | (simp at h; omega)
                  obtain ⟨x2', xm2'⟩ := (HWO.out.step hb5).cel 0 rfl 2 _ rfl
                  have hrow : RowG 3 w5 b2 e2 (S ++ [(g, (i : Int), v)]).length (wtc (S ++ [(g, (i : Int), v)])) := by rw [hln, wtc_app]; exact k2
                  have o5 := Own.rAdd (HWO.out.pick 3 rfl) hb5 hrow (fun x hx => .inr (hf5 x hx))
                  have o6 := (((o5.pick 3 rfl).pick 3 rfl).pick 3 rfl).set 2 (.slice b2 (S ++ [(g, (i : Int), v)]).length e2)
                  have hP : WaP w0 w1 s0 [.int .i64 (N : Int), .slice ba n1 bc, .slice sa n2 sc, .slice ra n3 rc, .bool cl] [.int .i64 1, .int .i64 (j : Int), .int .i64 (q : Int)] (RowGA 5 (some ⟨ob, oo, none⟩) c1 n (rfs xs')) 2 (S ++ [(g, (i : Int), v)]) rs' R (w5.setCell ⟨s0 + 1, 2, none⟩ (.slice b2 (n2 + 1) e2)) := by
                    rw [← hln]; exact ⟨b2, e2, o6, (below_on HWB.out hb5).setCell HS1.out _⟩
                  have HP := Lib.hid hP
                  have hbs := chg_setC hb5 (b := s0 + 1) (k := 2) (.slice b2 (n2 + 1) e2)
                  clear hrow o5 o6 hP k2 ch2 f2 hf5
                  refine HKK.out _ _ (HPP.out _ hb5) ?_
                  clear HKK K
                  refine wpAnyH_seg 13 1 _ #[true, true, true, true, true, true, true, true, true, true, true, true, true, true, false] 1 (by kernel_rfl) noPanic_put (HPP.out _ hb5) (by kernel_rfl) ?_
                  simp only [List.take_succ_cons, List.take_zero, List.drop_succ_cons, List.drop_zero]
                  repeat (first
                    | (refine wpSegH_no (by rfl) ?_; simp only [Act.put, List.setIfInBounds_toArray, List.set_cons_zero, List.set_cons_succ])
                    | (refine wpSegH_yes (by rfl) ?_; apply Exists.intro; apply And.intro; (· (intro wx hS; (try dsimp only at hS); go_simp; first | done | with_reducible rfl)); simp only [Act.put, List.setIfInBounds_toArray, List.set_cons_zero, List.set_cons_succ]))
                  refine wpSegH_nil ?_
                  refine wpAnyH_one 14 _ #[true, true, true, true, true, true, true, true, true, true, true, true, true, true, true] 0 (by kernel_rfl) (fun K hK => ?_)
                  have HKK := Lib.hid hK
                  clear hK
                  simp only [List.drop_succ_cons, List.drop_zero]
                  refine headH_mk (by rfl) ?_
                  go_simp
                  refine HKK.out _ _ (HPQ.out _ hbs) ?_
                  clear HKK K
                  refine wpAnyH_done (by kernel_rfl) (NoPanic.normal ?_) _
                  go_wp2_with fail
                  go_meet
                  exact ⟨rfl, HP.out⟩
                · skip
                  have HKK := Lib.hid hK
                  clear hK
                  simp only [List.drop_succ_cons, List.drop_zero]
                  refine headH_mk (by rfl) ?_
                  go_simp
                  refine HKK.out _ _ (HPP.out _ (by repeat (first | exact Below.refl _ _ | refine Below.drew ?_ | refine below_drewN ?_ _ | refine Below.alloc ?_ (by first | (simp; done) | (simp; omega)) _))) ?_
                  clear HKK K
                  refine wpAnyH_one 3 _ #[true, true, true, true, true, true, true, true, true, true, true, true, false, false, false] 3 (by kernel_rfl) (fun K hK => ?_)
                  have HKK := Lib.hid hK
                  clear hK
                  simp only [List.drop_succ_cons, List.drop_zero]
                  refine headH_mk (by rfl) ?_
                  refine wp_append_rowG (n := 0) (m := n2) (cs := []) (ds := wtc S) _ _ 51 (by rfl) 66 i0 _ Try.underlying51 Hi.out Hz0.out Hz1.out Hz2.out rfl (by omega) (by omega) (by rfl) (by rfl) (RowG.zero (by first | (simp; done) | (simp; omega))) (HROW.out.below (by repeat (first | exact Below.refl _ _ | refine Below.drew ?_ | refine below_drewN ?_ _ | refine Below.alloc ?_ (by first | (simp; done) | (simp; omega)) _))).cells (by rw [wtc_len, H1.out.2.1]) (wtc_one _) (by omega) ?_
                  intro b1 e1 w4 k1 ch1 f1
                  have hb4 : Below W.heap.size W w4 := Chg.below (by repeat (first | exact Below.refl _ _ | refine Below.drew ?_ | refine below_drewN ?_ _ | refine Below.alloc ?_ (by first | (simp; done) | (simp; omega)) _)) ch1 (fun x hx => by simp [blk] at hx; omega)
                  have hf4 : ∀ x ∈ blk b1, W.heap.size ≤ x := fun x hx => by
                    rcases f1 x hx with h | h
                    · simp [blk] at h; omega
                    · first | omega | (simp at h; omega)
                  have K1 : Hid (RowG 3 w4 b1 e1 n2 (wtc S)) := Lib.hid (by simpa using k1)
                  have CH1 := Lib.hid ch1
                  clear k1 ch1 f1
                  refine HKK.out _ _ (HPP.out _ hb4) ?_
                  rw [Nat.zero_add]
                  clear HKK K
                  refine wpAnyH_one 12 _ #[true, true, true, true, true, true, true, true, true, true, true, true, true, false, false] 2 (by kernel_rfl) (fun K hK => ?_)
                  have HKK := Lib.hid hK
                  clear hK
                  simp only [List.drop_succ_cons, List.drop_zero]
                  refine headH_mk (by rfl) ?_
                  refine wp_append_rowG (n := n2) (m := 1) (cs := wtc S) (ds := wtc [(g, (i : Int), v)]) _ _ 51 (by rfl) 66 i0 _ Try.underlying51 Hi.out Hz0.out Hz1.out Hz2.out rfl (by omega) (by omega) (by first | rfl | simp) (by rfl) K1.out (CellsAt.chg (by first | exact CellsAt.new _ (wtc [(g, (i : Int), v)]) _ (by first | rfl | simp) | exact CellsAt.below (CellsAt.new _ (wtc [(g, (i : Int), v)]) _ (by first | rfl | simp)) (by repeat (first | exact Below.refl _ _ | refine Below.drew ?_ | refine below_drewN ?_ _ | refine Below.alloc ?_ (by first | (simp; done) | (simp; omega)) _))) CH1.out (by simp [blk])) rfl (wtc_one _) (by omega) ?_
                  intro b2 e2 w5 k2 ch2 f2
                  have hb5 : Below W.heap.size W w5 := Chg.below hb4 ch2 (fun x hx => hf4 x hx)
                  have hf5 : ∀ x ∈ blk b2, W.heap.size ≤ x := fun x hx => by
                    rcases f2 x hx with h | h
                    · exact hf4 x h
                    · have := hb4.size; first | omega | (simp at h; omega)
                  obtain ⟨x2', xm2'⟩ := (HWO.out.step hb5).cel 0 rfl 2 _ rfl
                  have hrow : RowG 3 w5 b2 e2 (S ++ [(g, (i : Int), v)]).length (wtc (S ++ [(g, (i : Int), v)])) := by rw [hln, wtc_app]; exact k2
                  have o5 := Own.rAdd (HWO.out.pick 3 rfl) hb5 hrow (fun x hx => .inr (hf5 x hx))
                  have o6 := (((o5.pick 3 rfl).pick 3 rfl).pick 3 rfl).set 2 (.slice b2 (S ++ [(g, (i : Int), v)]).length e2)
                  have hP : WaP w0 w1 s0 [.int .i64 (N : Int), .slice ba n1 bc, .slice sa n2 sc, .slice ra n3 rc, .bool cl] [.int .i64 1, .int .i64 (j : Int), .int .i64 (q : Int)] (RowGA 5 (some ⟨ob, oo, none⟩) c1 n (rfs xs')) 2 (S ++ [(g, (i : Int), v)]) rs' R (w5.setCell ⟨s0 + 1, 2, none⟩ (.slice b2 (n2 + 1) e2)) := by
                    rw [← hln]; exact ⟨b2, e2, o6, (below_on HWB.out hb5).setCell HS1.out _⟩
                  have HP := Lib.hid hP
                  have hbs := chg_setC hb5 (b := s0 + 1) (k := 2) (.slice b2 (n2 + 1) e2)
                  clear hrow o5 o6 hP k2 ch2 f2 hf5
                  refine HKK.out _ _ (HPP.out _ hb5) ?_
                  clear HKK K
                  refine wpAnyH_seg 13 1 _ #[true, true, true, true, true, true, true, true, true, true, true, true, true, true, false] 1 (by kernel_rfl) noPanic_put (HPP.out _ hb5) (by kernel_rfl) ?_
                  simp only [List.take_succ_cons, List.take_zero, List.drop_succ_cons, List.drop_zero]
                  repeat (first
                    | (refine wpSegH_no (by rfl) ?_; simp only [Act.put, List.setIfInBounds_toArray, List.set_cons_zero, List.set_cons_succ])
                    | (refine wpSegH_yes (by rfl) ?_; apply Exists.intro; apply And.intro; (· (intro wx hS; (try dsimp only at hS); go_simp; first | done | with_reducible rfl)); simp only [Act.put, List.setIfInBounds_toArray, List.set_cons_zero, List.set_cons_succ]))
                  refine wpSegH_nil ?_
                  refine wpAnyH_one 14 _ #[true, true, true, true, true, true, true, true, true, true, true, true, true, true, true] 0 (by kernel_rfl) (fun K hK => ?_)
                  have HKK := Lib.hid hK
                  clear hK
                  simp only [List.drop_succ_cons, List.drop_zero]
                  refine headH_mk (by rfl) ?_
                  go_simp
                  refine HKK.out _ _ (HPQ.out _ hbs) ?_
                  clear HKK K
                  refine wpAnyH_done (by kernel_rfl) (NoPanic.normal ?_) _
                  go_wp2_with fail
                  go_meet
                  exact ⟨rfl, HP.out⟩
              · skip
                have HKK := Lib.hid hK
                clear hK
                simp only [List.drop_succ_cons, List.drop_zero]
                refine headH_mk (by rfl) ?_
                go_simp
                refine HKK.out _ _ (HPP.out _ (by repeat (first | exact Below.refl _ _ | refine Below.drew ?_ | refine below_drewN ?_ _ | refine Below.alloc ?_ (by first | (simp; done) | (simp; omega)) _))) ?_
                clear HKK K
                refine wpAnyH_one 2 _ #[true, true, true, false, true, true, true, true, true, true, true, true, false, false, false] 4 (by kernel_rfl) (fun K hK => ?_)
                have HKK := Lib.hid hK
                clear hK
                simp only [List.drop_succ_cons, List.drop_zero]
                refine headH_mk (by rfl) ?_
                go_simp
                refine HKK.out _ _ (HPP.out _ (by repeat (first | exact Below.refl _ _ | refine Below.drew ?_ | refine below_drewN ?_ _ | refine Below.alloc ?_ (by first | (simp; done) | (simp; omega)) _))) ?_
                clear HKK K
                refine wpAnyH_one 3 _ #[true, true, true, true, true, true, true, true, true, true, true, true, false, false, false] 3 (by kernel_rfl) (fun K hK => ?_)
                have HKK := Lib.hid hK
                clear hK
                simp only [List.drop_succ_cons, List.drop_zero]
                refine headH_mk (by rfl) ?_
                refine wp_append_rowG (n := 0) (m := n2) (cs := []) (ds := wtc S) _ _ 51 (by rfl) 66 i0 _ Try.underlying51 Hi.out Hz0.out Hz1.out Hz2.out rfl (by omega) (by omega) (by rfl) (by rfl) (RowG.zero (by first | (simp; done) | (simp; omega))) (HROW.out.below (by repeat (first | exact Below.refl _ _ | refine Below.drew ?_ | refine below_drewN ?_ _ | refine Below.alloc ?_ (by first | (simp; done) | (simp; omega)) _))).cells (by rw [wtc_len, H1.out.2.1]) (wtc_one _) (by omega) ?_
                intro b1 e1 w4 k1 ch1 f1
                have hb4 : Below W.heap.size W w4 := Chg.below (by repeat (first | exact Below.refl _ _ | refine Below.drew ?_ | refine below_drewN ?_ _ | refine Below.alloc ?_ (by first | (simp; done) | (simp; omega)) _)) ch1 (fun x hx => by simp [blk] at hx; omega)
                have hf4 : ∀ x ∈ blk b1, W.heap.size ≤ x := fun x hx => by
                  rcases f1 x hx with h | h
                  · simp [blk] at h; omega
                  · first | omega | (simp at h; omega)
                have K1 : Hid (RowG 3 w4 b1 e1 n2 (wtc S)) := Lib.hid (by simpa using k1)
                have CH1 := Lib.hid ch1
                clear k1 ch1 f1
                refine HKK.out _ _ (HPP.out _ hb4) ?_
                rw [Nat.zero_add]
                clear HKK K
                refine wpAnyH_one 12 _ #[true, true, true, true, true, true, true, true, true, true, true, true, true, false, false] 2 (by kernel_rfl) (fun K hK => ?_)
                have HKK := Lib.hid hK
                clear hK
                simp only [List.drop_succ_cons, List.drop_zero]
                refine headH_mk (by rfl) ?_
                refine wp_append_rowG (n := n2) (m := 1) (cs := wtc S) (ds := wtc [(g, (i : Int), v)]) _ _ 51 (by rfl) 66 i0 _ Try.underlying51 Hi.out Hz0.out Hz1.out Hz2.out rfl (by omega) (by omega) (by first | rfl | simp) (by rfl) K1.out (CellsAt.chg (by first | exact CellsAt.new _ (wtc [(g, (i : Int), v)]) _ (by first | rfl | simp) | exact CellsAt.below (CellsAt.new _ (wtc [(g, (i : Int), v)]) _ (by first | rfl | simp)) (by repeat (first | exact Below.refl _ _ | refine Below.drew ?_ | refine below_drewN ?_ _ | refine Below.alloc ?_ (by first | (simp; done) | (simp; omega)) _))) CH1.out (by simp [blk])) rfl (wtc_one _) (by omega) ?_
                intro b2 e2 w5 k2 ch2 f2
                have hb5 : Below W.heap.size W w5 := Chg.below hb4 ch2 (fun x hx => hf4 x hx)
                have hf5 : ∀ x ∈ blk b2, W.heap.size ≤ x := fun x hx => by
                  rcases f2 x hx with h | h
                  · exact hf4 x h
                  · have := hb4.size; first | omega | (simp at h; omega)
                obtain ⟨x2', xm2'⟩ := (HWO.out.step hb5).cel 0 rfl 2 _ rfl
                have hrow : RowG 3 w5 b2 e2 (S ++ [(g, (i : Int), v)]).length (wtc (S ++ [(g, (i : Int), v)])) := by rw [hln, wtc_app]; exact k2
                have o5 := Own.rAdd (HWO.out.pick 3 rfl) hb5 hrow (fun x hx => .inr (hf5 x hx))
                have o6 := (((o5.pick 3 rfl).pick 3 rfl).pick 3 rfl).set 2 (.slice b2 (S ++ [(g, (i : Int), v)]).length e2)
                have hP : WaP w0 w1 s0 [.int .i64 (N : Int), .slice ba n1 bc, .slice sa n2 sc, .slice ra n3 rc, .bool cl] [.int .i64 1, .int .i64 (j : Int), .int .i64 (q : Int)] (RowGA 5 (some ⟨ob, oo, none⟩) c1 n (rfs xs')) 2 (S ++ [(g, (i : Int), v)]) rs' R (w5.setCell ⟨s0 + 1, 2, none⟩ (.slice b2 (n2 + 1) e2)) := by
                  rw [← hln]; exact ⟨b2, e2, o6, (below_on HWB.out hb5).setCell HS1.out _⟩
                have HP := Lib.hid hP
                have hbs := chg_setC hb5 (b := s0 + 1) (k := 2) (.slice b2 (n2 + 1) e2)
                clear hrow o5 o6 hP k2 ch2 f2 hf5
                refine HKK.out _ _ (HPP.out _ hb5) ?_
                clear HKK K
                refine wpAnyH_seg 13 1 _ #[true, true, true, true, true, true, true, true, true, true, true, true, true, true, false] 1 (by kernel_rfl) noPanic_put (HPP.out _ hb5) (by kernel_rfl) ?_
                simp only [List.take_succ_cons, List.take_zero, List.drop_succ_cons, List.drop_zero]
                repeat (first
                  | (refine wpSegH_no (by rfl) ?_; simp only [Act.put, List.setIfInBounds_toArray, List.set_cons_zero, List.set_cons_succ])
                  | (refine wpSegH_yes (by rfl) ?_; apply Exists.intro; apply And.intro; (· (intro wx hS; (try dsimp only at hS); go_simp; first | done | with_reducible rfl)); simp only [Act.put, List.setIfInBounds_toArray, List.set_cons_zero, List.set_cons_succ]))
                refine wpSegH_nil ?_
                refine wpAnyH_one 14 _ #[true, true, true, true, true, true, true, true, true, true, true, true, true, true, true] 0 (by kernel_rfl) (fun K hK => ?_)
                have HKK := Lib.hid hK
                clear hK
                simp only [List.drop_succ_cons, List.drop_zero]
                refine headH_mk (by rfl) ?_
                go_simp
                refine HKK.out _ _ (HPQ.out _ hbs) ?_
                clear HKK K
                refine wpAnyH_done (by kernel_rfl) (NoPanic.normal ?_) _
                go_wp2_with fail
                go_meet
                exact ⟨rfl, HP.out⟩
            · skip
              have HKK := Lib.hid hK
              clear hK
              simp only [List.drop_succ_cons, List.drop_zero]
              refine headH_mk (by rfl) ?_
              go_simp
              refine HKK.out _ _ (HPP.out _ (by repeat (first | exact Below.refl _ _ | refine Below.drew ?_ | refine below_drewN ?_ _ | refine Below.alloc ?_ (by first | (simp; done) | (simp; omega)) _))) ?_
              clear HKK K
              refine wpAnyH_two 0 11 _ #[true, true, true, false, true, true, true, true, true, true, true, false, false, false, false] #[false, true, true, false, true, true, true, true, true, true, true, true, false, false, false] 5 (by kernel_rfl) (fun K hK => ?_) (fun K hK => ?_)
              · skip
                have HKK := Lib.hid hK
                clear hK
                simp only [List.drop_zero]
                refine headH_mk (by rfl) ?_
                go_simp
                refine HKK.out _ _ (HPP.out _ (by repeat (first | exact Below.refl _ _ | refine Below.drew ?_ | refine below_drewN ?_ _ | refine Below.alloc ?_ (by first | (simp; done) | (simp; omega)) _))) ?_
                clear HKK K
                refine wpAnyH_two 3 11 _ #[true, true, true, true, true, true, true, true, true, true, true, false, false, false, false] #[true, true, true, false, true, true, true, true, true, true, true, true, false, false, false] 4 (by kernel_rfl) (fun K hK => ?_) (fun K hK => ?_)
                · skip
                  have HKK := Lib.hid hK
                  clear hK
                  simp only [List.drop_succ_cons, List.drop_zero]
                  refine headH_mk (by rfl) ?_
                  refine wp_append_rowG (n := 0) (m := n2) (cs := []) (ds := wtc S) _ _ 51 (by rfl) 66 i0 _ Try.underlying51 Hi.out Hz0.out Hz1.out Hz2.out rfl (by omega) (by omega) (by rfl) (by rfl) (RowG.zero (by first | (simp; done) | (simp; omega))) (HROW.out.below (by repeat (first | exact Below.refl _ _ | refine Below.drew ?_ | refine below_drewN ?_ _ | refine Below.alloc ?_ (by first | (simp; done) | (simp; omega)) _))).cells (by rw [wtc_len, H1.out.2.1]) (wtc_one _) (by omega) ?_
                  intro b1 e1 w4 k1 ch1 f1
                  have hb4 : Below W.heap.size W w4 := Chg.below (by repeat (first | exact Below.refl _ _ | refine Below.drew ?_ | refine below_drewN ?_ _ | refine Below.alloc ?_ (by first | (simp; done) | (simp; omega)) _)) ch1 (fun x hx => by simp [blk] at hx; omega)
                  have hf4 : ∀ x ∈ blk b1, W.heap.size ≤ x := fun x hx => by
                    rcases f1 x hx with h | h
                    · simp [blk] at h; omega
                    · first | omega | (simp at h; omega)
                  have K1 : Hid (RowG 3 w4 b1 e1 n2 (wtc S)) := Lib.hid (by simpa using k1)
                  have CH1 := Lib.hid ch1
                  clear k1 ch1 f1
                  refine HKK.out _ _ (HPP.out _ hb4) ?_
                  rw [Nat.zero_add]
                  clear HKK K
                  refine wpAnyH_one 11 _ #[true, true, true, true, true, true, true, true, true, true, true, true, false, false, false] 3 (by kernel_rfl) (fun K hK => ?_)
                  have HKK := Lib.hid hK
                  clear hK
                  simp only [List.drop_succ_cons, List.drop_zero]
                  refine headH_mk (by rfl) ?_
                  go_simp
                  refine HKK.out _ _ (HPP.out _ (below_on hb4 (by repeat (first | exact Below.refl _ _ | refine Below.drew ?_ | refine below_drewN ?_ _ | refine Below.alloc ?_ (by first | (simp; done) | (simp; omega)) _)))) ?_
                  clear HKK K
                  refine wpAnyH_one 12 _ #[true, true, true, true, true, true, true, true, true, true, true, true, true, false, false] 2 (by kernel_rfl) (fun K hK => ?_)
                  have HKK := Lib.hid hK
                  clear hK
                  simp only [List.drop_succ_cons, List.drop_zero]
                  refine headH_mk (by rfl) ?_
                  refine wp_append_rowG (n := n2) (m := 1) (cs := wtc S) (ds := wtc [(g, (i : Int), v)]) _ _ 51 (by rfl) 66 i0 _ Try.underlying51 Hi.out Hz0.out Hz1.out Hz2.out rfl (by omega) (by omega) (by first | rfl | simp) (by rfl) (K1.out.below (by repeat (first | exact Below.refl _ _ | refine Below.drew ?_ | refine below_drewN ?_ _ | refine Below.alloc ?_ (by first | (simp; done) | (simp; omega)) _))) (CellsAt.new _ (wtc [(g, (i : Int), v)]) _ (by first | rfl | simp)) rfl (wtc_one _) (by omega) ?_
                  intro b2 e2 w5 k2 ch2 f2
                  have hb5 : Below W.heap.size W w5 := Chg.below (below_on hb4 (by repeat (first | exact Below.refl _ _ | refine Below.drew ?_ | refine below_drewN ?_ _ | refine Below.alloc ?_ (by first | (simp; done) | (simp; omega)) _))) ch2 (fun x hx => hf4 x hx)
                  have hf5 : ∀ x ∈ blk b2, W.heap.size ≤ x := fun x hx => by
                    rcases f2 x hx with h | h
                    · exact hf4 x h
                    · have := hb4.size; first | omega | (simp at h; omega)
                  obtain ⟨x2', xm2'⟩ := (HWO.out.step hb5).cel 0 rfl 2 _ rfl
                  have hrow : RowG 3 w5 b2 e2 (S ++ [(g, (i : Int), v)]).length (wtc (S ++ [(g, (i : Int), v)])) := by rw [hln, wtc_app]; exact k2
                  have o5 := Own.rAdd (HWO.out.pick 3 rfl) hb5 hrow (fun x hx => .inr (hf5 x hx))
                  have o6 := (((o5.pick 3 rfl).pick 3 rfl).pick 3 rfl).set 2 (.slice b2 (S ++ [(g, (i : Int), v)]).length e2)
                  have hP : WaP w0 w1 s0 [.int .i64 (N : Int), .slice ba n1 bc, .slice sa n2 sc, .slice ra n3 rc, .bool cl] [.int .i64 1, .int .i64 (j : Int), .int .i64 (q : Int)] (RowGA 5 (some ⟨ob, oo, none⟩) c1 n (rfs xs')) 2 (S ++ [(g, (i : Int), v)]) rs' R (w5.setCell ⟨s0 + 1, 2, none⟩ (.slice b2 (n2 + 1) e2)) := by
                    rw [← hln]; exact ⟨b2, e2, o6, (below_on HWB.out hb5).setCell HS1.out _⟩
                  have HP := Lib.hid hP
                  have hbs := chg_setC hb5 (b := s0 + 1) (k := 2) (.slice b2 (n2 + 1) e2)
                  clear hrow o5 o6 hP k2 ch2 f2 hf5
                  refine HKK.out _ _ (HPP.out _ hb5) ?_
                  clear HKK K
                  refine wpAnyH_seg 13 1 _ #[true, true, true, true, true, true, true, true, true, true, true, true, true, true, false] 1 (by kernel_rfl) noPanic_put (HPP.out _ hb5) (by kernel_rfl) ?_
                  simp only [List.take_succ_cons, List.take_zero, List.drop_succ_cons, List.drop_zero]
                  repeat (first
                    | (refine wpSegH_no (by rfl) ?_; simp only [Act.put, List.setIfInBounds_toArray, List.set_cons_zero, List.set_cons_succ])
                    | (refine wpSegH_yes (by rfl) ?_; apply Exists.intro; apply And.intro; (· (intro wx hS; (try dsimp only at hS); go_simp; first | done | with_reducible rfl)); simp only [Act.put, List.setIfInBounds_toArray, List.set_cons_zero, List.set_cons_succ]))
                  refine wpSegH_nil ?_
                  refine wpAnyH_one 14 _ #[true, true, true, true, true, true, true, true, true, true, true, true, true, true, true] 0 (by kernel_rfl) (fun K hK => ?_)
                  have HKK := Lib.hid hK
                  clear hK
                  simp only [List.drop_succ_cons, List.drop_zero]
                  refine headH_mk (by rfl) ?_
                  go_simp
                  refine HKK.out _ _ (HPQ.out _ hbs) ?_
                  clear HKK K
                  refine wpAnyH_done (by kernel_rfl) (NoPanic.normal ?_) _
                  go_wp2_with fail
                  go_meet
                  exact ⟨rfl, HP.out⟩
                · skip
                  have HKK := Lib.hid hK
                  clear hK
                  simp only [List.drop_succ_cons, List.drop_zero]
                  refine headH_mk (by rfl) ?_
                  go_simp
                  refine HKK.out _ _ (HPP.out _ (by repeat (first | exact Below.refl _ _ | refine Below.drew ?_ | refine below_drewN ?_ _ | refine Below.alloc ?_ (by first | (simp; done) | (simp; omega)) _))) ?_
                  clear HKK K
                  refine wpAnyH_one 3 _ #[true, true, true, true, true, true, true, true, true, true, true, true, false, false, false] 3 (by kernel_rfl) (fun K hK => ?_)
                  have HKK := Lib.hid hK
                  clear hK
                  simp only [List.drop_succ_cons, List.drop_zero]
                  refine headH_mk (by rfl) ?_
                  refine wp_append_rowG (n := 0) (m := n2) (cs := []) (ds := wtc S) _ _ 51 (by rfl) 66 i0 _ Try.underlying51 Hi.out Hz0.out Hz1.out Hz2.out rfl (by omega) (by omega) (by rfl) (by rfl) (RowG.zero (by first | (simp; done) | (simp; omega))) (HROW.out.below (by repeat (first | exact Below.refl _ _ | refine Below.drew ?_ | refine below_drewN ?_ _ | refine Below.alloc ?_ (by first | (simp; done) | (simp; omega)) _))).cells (by rw [wtc_len, H1.out.2.1]) (wtc_one _) (by omega) ?_
                  intro b1 e1 w4 k1 ch1 f1
                  have hb4 : Below W.heap.size W w4 := Chg.below (by repeat (first | exact Below.refl _ _ | refine Below.drew ?_ | refine below_drewN ?_ _ | refine Below.alloc ?_ (by first | (simp; done) | (simp; omega)) _)) ch1 (fun x hx => by simp [blk] at hx; omega)
                  have hf4 : ∀ x ∈ blk b1, W.heap.size ≤ x := fun x hx => by
                    rcases f1 x hx with h | h
                    · simp [blk] at h; omega
                    · first | omega | (simp at h; omega)
                  have K1 : Hid (RowG 3 w4 b1 e1 n2 (wtc S)) := Lib.hid (by simpa using k1)
                  have CH1 := Lib.hid ch1
                  clear k1 ch1 f1
                  refine HKK.out _ _ (HPP.out _ hb4) ?_
                  rw [Nat.zero_add]
                  clear HKK K
                  refine wpAnyH_one 12 _ #[true, true, true, true, true, true, true, true, true, true, true, true, true, false, false] 2 (by kernel_rfl) (fun K hK => ?_)
                  have HKK := Lib.hid hK
                  clear hK
                  simp only [List.drop_succ_cons, List.drop_zero]
                  refine headH_mk (by rfl) ?_
                  refine wp_append_rowG (n := n2) (m := 1) (cs := wtc S) (ds := wtc [(g, (i : Int), v)]) _ _ 51 (by rfl) 66 i0 _ Try.underlying51 Hi.out Hz0.out Hz1.out Hz2.out rfl (by omega) (by omega) (by first | rfl | simp) (by rfl) K1.out (CellsAt.chg (by first | exact CellsAt.new _ (wtc [(g, (i : Int), v)]) _ (by first | rfl | simp) | exact CellsAt.below (CellsAt.new _ (wtc [(g, (i : Int), v)]) _ (by first | rfl | simp)) (by repeat (first | exact Below.refl _ _ | refine Below.drew ?_ | refine below_drewN ?_ _ | refine Below.alloc ?_ (by first | (simp; done) | (simp; omega)) _))) CH1.out (by simp [blk])) rfl (wtc_one _) (by omega) ?_
                  intro b2 e2 w5 k2 ch2 f2
                  have hb5 : Below W.heap.size W w5 := Chg.below hb4 ch2 (fun x hx => hf4 x hx)
                  have hf5 : ∀ x ∈ blk b2, W.heap.size ≤ x := fun x hx => by
                    rcases f2 x hx with h | h
                    · exact hf4 x h
                    · have := hb4.size; first | omega | (simp at h; omega)
                  obtain ⟨x2', xm2'⟩ := (HWO.out.step hb5).cel 0 rfl 2 _ rfl
                  have hrow : RowG 3 w5 b2 e2 (S ++ [(g, (i : Int), v)]).length (wtc (S ++ [(g, (i : Int), v)])) := by rw [hln, wtc_app]; exact k2
                  have o5 := Own.rAdd (HWO.out.pick 3 rfl) hb5 hrow (fun x hx => .inr (hf5 x hx))
                  have o6 := (((o5.pick 3 rfl).pick 3 rfl).pick 3 rfl).set 2 (.slice b2 (S ++ [(g, (i : Int), v)]).length e2)
                  have hP : WaP w0 w1 s0 [.int .i64 (N : Int), .slice ba n1 bc, .slice sa n2 sc, .slice ra n3 rc, .bool cl] [.int .i64 1, .int .i64 (j : Int), .int .i64 (q : Int)] (RowGA 5 (some ⟨ob, oo, none⟩) c1 n (rfs xs')) 2 (S ++ [(g, (i : Int), v)]) rs' R (w5.setCell ⟨s0 + 1, 2, none⟩ (.slice b2 (n2 + 1) e2)) := by
                    rw [← hln]; exact ⟨b2, e2, o6, (below_on HWB.out hb5).setCell HS1.out _⟩
                  have HP := Lib.hid hP
                  have hbs := chg_setC hb5 (b := s0 + 1) (k := 2) (.slice b2 (n2 + 1) e2)
                  clear hrow o5 o6 hP k2 ch2 f2 hf5
                  refine HKK.out _ _ (HPP.out _ hb5) ?_
                  clear HKK K
                  refine wpAnyH_seg 13 1 _ #[true, true, true, true, true, true, true, true, true, true, true, true, true, true, false] 1 (by kernel_rfl) noPanic_put (HPP.out _ hb5) (by kernel_rfl) ?_
                  simp only [List.take_succ_cons, List.take_zero, List.drop_succ_cons, List.drop_zero]
                  repeat (first
                    | (refine wpSegH_no (by rfl) ?_; simp only [Act.put, List.setIfInBounds_toArray, List.set_cons_zero, List.set_cons_succ])
                    | (refine wpSegH_yes (by rfl) ?_; apply Exists.intro; apply And.intro; (· (intro wx hS; (try dsimp only at hS); go_simp; first | done | with_reducible rfl)); simp only [Act.put, List.setIfInBounds_toArray, List.set_cons_zero, List.set_cons_succ]))
                  refine wpSegH_nil ?_
                  refine wpAnyH_one 14 _ #[true, true, true, true, true, true, true, true, true, true, true, true, true, true, true] 0 (by kernel_rfl) (fun K hK => ?_)
                  have HKK := Lib.hid hK
                  clear hK
                  simp only [List.drop_succ_cons, List.drop_zero]
                  refine headH_mk (by rfl) ?_
                  go_simp
                  refine HKK.out _ _ (HPQ.out _ hbs) ?_
                  clear HKK K
                  refine wpAnyH_done (by kernel_rfl) (NoPanic.normal ?_) _
                  go_wp2_with fail
                  go_meet
                  exact ⟨rfl, HP.out⟩
              · skip
                have HKK := Lib.hid hK
                clear hK
                simp only [List.drop_succ_cons, List.drop_zero]
                refine headH_mk (by rfl) ?_
                go_simp
                refine HKK.out _ _ (HPP.out _ (by repeat (first | exact Below.refl _ _ | refine Below.drew ?_ | refine below_drewN ?_ _ | refine Below.alloc ?_ (by first | (simp; done) | (simp; omega)) _))) ?_
                clear HKK K
                refine wpAnyH_one 0 _ #[true, true, true, false, true, true, true, true, true, true, true, true, false, false, false] 4 (by kernel_rfl) (fun K hK => ?_)
                have HKK := Lib.hid hK
                clear hK
                simp only [List.drop_zero]
                refine headH_mk (by rfl) ?_
                go_simp
                refine HKK.out _ _ (HPP.out _ (by repeat (first | exact Below.refl _ _ | refine Below.drew ?_ | refine below_drewN ?_ _ | refine Below.alloc ?_ (by first | (simp; done) | (simp; omega)) _))) ?_
                clear HKK K
                refine wpAnyH_one 3 _ #[true, true, true, true, true, true, true, true, true, true, true, true, false, false, false] 3 (by kernel_rfl) (fun K hK => ?_)
                have HKK := Lib.hid hK
                clear hK
                simp only [List.drop_succ_cons, List.drop_zero]
                refine headH_mk (by rfl) ?_
                refine wp_append_rowG (n := 0) (m := n2) (cs := []) (ds := wtc S) _ _ 51 (by rfl) 66 i0 _ Try.underlying51 Hi.out Hz0.out Hz1.out Hz2.out rfl (by omega) (by omega) (by rfl) (by rfl) (RowG.zero (by first | (simp; done) | (simp; omega))) (HROW.out.below (by repeat (first | exact Below.refl _ _ | refine Below.drew ?_ | refine below_drewN ?_ _ | refine Below.alloc ?_ (by first | (simp; done) | (simp; omega)) _))).cells (by rw [wtc_len, H1.out.2.1]) (wtc_one _) (by omega) ?_
                intro b1 e1 w4 k1 ch1 f1
                have hb4 : Below W.heap.size W w4 := Chg.below (by repeat (first | exact Below.refl _ _ | refine Below.drew ?_ | refine below_drewN ?_ _ | refine Below.alloc ?_ (by first | (simp; done) | (simp; omega)) _)) ch1 (fun x hx => by simp [blk] at hx; omega)
                have hf4 : ∀ x ∈ blk b1, W.heap.size ≤ x := fun x hx => by
                  rcases f1 x hx with h | h
                  · simp [blk] at h; omega
                  · first | omega | (simp at h; omega)
                have K1 : Hid (RowG 3 w4 b1 e1 n2 (wtc S)) := Lib.hid (by simpa using k1)
                have CH1 := Lib.hid ch1
                clear k1 ch1 f1
                refine HKK.out _ _ (HPP.out _ hb4) ?_
                rw [Nat.zero_add]
                clear HKK K
                refine wpAnyH_one 12 _ #[true, true, true, true, true, true, true, true, true, true, true, true, true, false, false] 2 (by kernel_rfl) (fun K hK => ?_)
                have HKK := Lib.hid hK
                clear hK
                simp only [List.drop_succ_cons, List.drop_zero]
                refine headH_mk (by rfl) ?_
                refine wp_append_rowG (n := n2) (m := 1) (cs := wtc S) (ds := wtc [(g, (i : Int), v)]) _ _ 51 (by rfl) 66 i0 _ Try.underlying51 Hi.out Hz0.out Hz1.out Hz2.out rfl (by omega) (by omega) (by first | rfl | simp) (by rfl) K1.out (CellsAt.chg (by first | exact CellsAt.new _ (wtc [(g, (i : Int), v)]) _ (by first | rfl | simp) | exact CellsAt.below (CellsAt.new _ (wtc [(g, (i : Int), v)]) _ (by first | rfl | simp)) (by repeat (first | exact Below.refl _ _ | refine Below.drew ?_ | refine below_drewN ?_ _ | refine Below.alloc ?_ (by first | (simp; done) | (simp; omega)) _))) CH1.out (by simp [blk])) rfl (wtc_one _) (by omega) ?_
                intro b2 e2 w5 k2 ch2 f2
                have hb5 : Below W.heap.size W w5 := Chg.below hb4 ch2 (fun x hx => hf4 x hx)
                have hf5 : ∀ x ∈ blk b2, W.heap.size ≤ x := fun x hx => by
                  rcases f2 x hx with h | h
                  · exact hf4 x h
                  · have := hb4.size; first | omega | (simp at h; omega)
                obtain ⟨x2', xm2'⟩ := (HWO.out.step hb5).cel 0 rfl 2 _ rfl
                have hrow : RowG 3 w5 b2 e2 (S ++ [(g, (i : Int), v)]).length (wtc (S ++ [(g, (i : Int), v)])) := by rw [hln, wtc_app]; exact k2
                have o5 := Own.rAdd (HWO.out.pick 3 rfl) hb5 hrow (fun x hx => .inr (hf5 x hx))
                have o6 := (((o5.pick 3 rfl).pick 3 rfl).pick 3 rfl).set 2 (.slice b2 (S ++ [(g, (i : Int), v)]).length e2)
                have hP : WaP w0 w1 s0 [.int .i64 (N : Int), .slice ba n1 bc, .slice sa n2 sc, .slice ra n3 rc, .bool cl] [.int .i64 1, .int .i64 (j : Int), .int .i64 (q : Int)] (RowGA 5 (some ⟨ob, oo, none⟩) c1 n (rfs xs')) 2 (S ++ [(g, (i : Int), v)]) rs' R (w5.setCell ⟨s0 + 1, 2, none⟩ (.slice b2 (n2 + 1) e2)) := by
                  rw [← hln]; exact ⟨b2, e2, o6, (below_on HWB.out hb5).setCell HS1.out _⟩
                have HP := Lib.hid hP
                have hbs := chg_setC hb5 (b := s0 + 1) (k := 2) (.slice b2 (n2 + 1) e2)
                clear hrow o5 o6 hP k2 ch2 f2 hf5
                refine HKK.out _ _ (HPP.out _ hb5) ?_
                clear HKK K
                refine wpAnyH_seg 13 1 _ #[true, true, true, true, true, true, true, true, true, true, true, true, true, true, false] 1 (by kernel_rfl) noPanic_put (HPP.out _ hb5) (by kernel_rfl) ?_
                simp only [List.take_succ_cons, List.take_zero, List.drop_succ_cons, List.drop_zero]
                repeat (first
                  | (refine wpSegH_no (by rfl) ?_; simp only [Act.put, List.setIfInBounds_toArray, List.set_cons_zero, List.set_cons_succ])
                  | (refine wpSegH_yes (by rfl) ?_; apply Exists.intro; apply And.intro; (· (intro wx hS; (try dsimp only at hS); go_simp; first | done | with_reducible rfl)); simp only [Act.put, List.setIfInBounds_toArray, List.set_cons_zero, List.set_cons_succ]))
                refine wpSegH_nil ?_
                refine wpAnyH_one 14 _ #[true, true, true, true, true, true, true, true, true, true, true, true, true, true, true] 0 (by kernel_rfl) (fun K hK => ?_)
                have HKK := Lib.hid hK
                clear hK
                simp only [List.drop_succ_cons, List.drop_zero]
                refine headH_mk (by rfl) ?_
                go_simp
                refine HKK.out _ _ (HPQ.out _ hbs) ?_
                clear HKK K
                refine wpAnyH_done (by kernel_rfl) (NoPanic.normal ?_) _
                go_wp2_with fail
                go_meet
                exact ⟨rfl, HP.out⟩
            · skip
              have HKK := Lib.hid hK
              clear hK
              simp only [List.drop_succ_cons, List.drop_zero]
              refine headH_mk (by rfl) ?_
              go_simp
              refine HKK.out _ _ (HPP.out _ (by repeat (first | exact Below.refl _ _ | refine Below.drew ?_ | refine below_drewN ?_ _ | refine Below.alloc ?_ (by first | (simp; done) | (simp; omega)) _))) ?_
              clear HKK K
              refine wpAnyH_two 0 2 _ #[true, true, false, false, true, true, true, true, true, true, true, true, false, false, false] #[false, true, true, false, true, true, true, true, true, true, true, true, false, false, false] 5 (by kernel_rfl) (fun K hK => ?_) (fun K hK => ?_)
              · skip
                have HKK := Lib.hid hK
                clear hK
                simp only [List.drop_zero]
                refine headH_mk (by rfl) ?_
                go_simp
                refine HKK.out _ _ (HPP.out _ (by repeat (first | exact Below.refl _ _ | refine Below.drew ?_ | refine below_drewN ?_ _ | refine Below.alloc ?_ (by first | (simp; done) | (simp; omega)) _))) ?_
                clear HKK K
                refine wpAnyH_one 2 _ #[true, true, true, false, true, true, true, true, true, true, true, true, false, false, false] 4 (by kernel_rfl) (fun K hK => ?_)
                have HKK := Lib.hid hK
                clear hK
                simp only [List.drop_succ_cons, List.drop_zero]
                refine headH_mk (by rfl) ?_
                go_simp
                refine HKK.out _ _ (HPP.out _ (by repeat (first | exact Below.refl _ _ | refine Below.drew ?_ | refine below_drewN ?_ _ | refine Below.alloc ?_ (by first | (simp; done) | (simp; omega)) _))) ?_
                clear HKK K
                refine wpAnyH_one 3 _ #[true, true, true, true, true, true, true, true, true, true, true, true, false, false, false] 3 (by kernel_rfl) (fun K hK => ?_)
                have HKK := Lib.hid hK
                clear hK
                simp only [List.drop_succ_cons, List.drop_zero]
                refine headH_mk (by rfl) ?_
                refine wp_append_rowG (n := 0) (m := n2) (cs := []) (ds := wtc S) _ _ 51 (by rfl) 66 i0 _ Try.underlying51 Hi.out Hz0.out Hz1.out Hz2.out rfl (by omega) (by omega) (by rfl) (by rfl) (RowG.zero (by first | (simp; done) | (simp; omega))) (HROW.out.below (by repeat (first | exact Below.refl _ _ | refine Below.drew ?_ | refine below_drewN ?_ _ | refine Below.alloc ?_ (by first | (simp; done) | (simp; omega)) _))).cells (by rw [wtc_len, H1.out.2.1]) (wtc_one _) (by omega) ?_
                intro b1 e1 w4 k1 ch1 f1
                have hb4 : Below W.heap.size W w4 := Chg.below (by repeat (first | exact Below.refl _ _ | refine Below.drew ?_ | refine below_drewN ?_ _ | refine Below.alloc ?_ (by first | (simp; done) | (simp; omega)) _)) ch1 (fun x hx => by simp [blk] at hx; omega)
                have hf4 : ∀ x ∈ blk b1, W.heap.size ≤ x := fun x hx => by
                  rcases f1 x hx with h | h
                  · simp [blk] at h; omega
                  · first | omega | (simp at h; omega)
                have K1 : Hid (RowG 3 w4 b1 e1 n2 (wtc S)) := Lib.hid (by simpa using k1)
                have CH1 := Lib.hid ch1
                clear k1 ch1 f1
                refine HKK.out _ _ (HPP.out _ hb4) ?_
                rw [Nat.zero_add]
                clear HKK K
                refine wpAnyH_one 12 _ #[true, true, true, true, true, true, true, true, true, true, true, true, true, false, false] 2 (by kernel_rfl) (fun K hK => ?_)
                have HKK := Lib.hid hK
                clear hK
                simp only [List.drop_succ_cons, List.drop_zero]
                refine headH_mk (by rfl) ?_
                refine wp_append_rowG (n := n2) (m := 1) (cs := wtc S) (ds := wtc [(g, (i : Int), v)]) _ _ 51 (by rfl) 66 i0 _ Try.underlying51 Hi.out Hz0.out Hz1.out Hz2.out rfl (by omega) (by omega) (by first | rfl | simp) (by rfl) K1.out (CellsAt.chg (by first | exact CellsAt.new _ (wtc [(g, (i : Int), v)]) _ (by first | rfl | simp) | exact CellsAt.below (CellsAt.new _ (wtc [(g, (i : Int), v)]) _ (by first | rfl | simp)) (by repeat (first | exact Below.refl _ _ | refine Below.drew ?_ | refine below_drewN ?_ _ | refine Below.alloc ?_ (by first | (simp; done) | (simp; omega)) _))) CH1.out (by simp [blk])) rfl (wtc_one _) (by omega) ?_
                intro b2 e2 w5 k2 ch2 f2
                have hb5 : Below W.heap.size W w5 := Chg.below hb4 ch2 (fun x hx => hf4 x hx)
                have hf5 : ∀ x ∈ blk b2, W.heap.size ≤ x := fun x hx => by
                  rcases f2 x hx with h | h
                  · exact hf4 x h
                  · have := hb4.size; first | omega | (simp at h; omega)
                obtain ⟨x2', xm2'⟩ := (HWO.out.step hb5).cel 0 rfl 2 _ rfl
                have hrow : RowG 3 w5 b2 e2 (S ++ [(g, (i : Int), v)]).length (wtc (S ++ [(g, (i : Int), v)])) := by rw [hln, wtc_app]; exact k2
                have o5 := Own.rAdd (HWO.out.pick 3 rfl) hb5 hrow (fun x hx => .inr (hf5 x hx))
                have o6 := (((o5.pick 3 rfl).pick 3 rfl).pick 3 rfl).set 2 (.slice b2 (S ++ [(g, (i : Int), v)]).length e2)
                have hP : WaP w0 w1 s0 [.int .i64 (N : Int), .slice ba n1 bc, .slice sa n2 sc, .slice ra n3 rc, .bool cl] [.int .i64 1, .int .i64 (j : Int), .int .i64 (q : Int)] (RowGA 5 (some ⟨ob, oo, none⟩) c1 n (rfs xs')) 2 (S ++ [(g, (i : Int), v)]) rs' R (w5.setCell ⟨s0 + 1, 2, none⟩ (.slice b2 (n2 + 1) e2)) := by
                  rw [← hln]; exact ⟨b2, e2, o6, (below_on HWB.out hb5).setCell HS1.out _⟩
                have HP := Lib.hid hP
                have hbs := chg_setC hb5 (b := s0 + 1) (k := 2) (.slice b2 (n2 + 1) e2)
                clear hrow o5 o6 hP k2 ch2 f2 hf5
                refine HKK.out _ _ (HPP.out _ hb5) ?_
                clear HKK K
                refine wpAnyH_seg 13 1 _ #[true, true, true, true, true, true, true, true, true, true, true, true, true, true, false] 1 (by kernel_rfl) noPanic_put (HPP.out _ hb5) (by kernel_rfl) ?_
                simp only [List.take_succ_cons, List.take_zero, List.drop_succ_cons, List.drop_zero]
                repeat (first
                  | (refine wpSegH_no (by rfl) ?_; simp only [Act.put, List.setIfInBounds_toArray, List.set_cons_zero, List.set_cons_succ])
                  | (refine wpSegH_yes (by rfl) ?_; apply Exists.intro; apply And.intro; (· (intro wx hS; (try dsimp only at hS); go_simp; first | done | with_reducible rfl)); simp only [Act.put, List.setIfInBounds_toArray, List.set_cons_zero, List.set_cons_succ]))
                refine wpSegH_nil ?_
                refine wpAnyH_one 14 _ #[true, true, true, true, true, true, true, true, true, true, true, true, true, true, true] 0 (by kernel_rfl) (fun K hK => ?_)
                have HKK := Lib.hid hK
                clear hK
                simp only [List.drop_succ_cons, List.drop_zero]
                refine headH_mk (by rfl) ?_
                go_simp
                refine HKK.out _ _ (HPQ.out _ hbs) ?_
                clear HKK K
                refine wpAnyH_done (by kernel_rfl) (NoPanic.normal ?_) _
                go_wp2_with fail
                go_meet
                exact ⟨rfl, HP.out⟩
              · skip
                have HKK := Lib.hid hK
                clear hK
                simp only [List.drop_succ_cons, List.drop_zero]
                refine headH_mk (by rfl) ?_
                go_simp
                refine HKK.out _ _ (HPP.out _ (by repeat (first | exact Below.refl _ _ | refine Below.drew ?_ | refine below_drewN ?_ _ | refine Below.alloc ?_ (by first | (simp; done) | (simp; omega)) _))) ?_
                clear HKK K
                refine wpAnyH_one 0 _ #[true, true, true, false, true, true, true, true, true, true, true, true, false, false, false] 4 (by kernel_rfl) (fun K hK => ?_)
                have HKK := Lib.hid hK
                clear hK
                simp only [List.drop_zero]
                refine headH_mk (by rfl) ?_
                go_simp
                refine HKK.out _ _ (HPP.out _ (by repeat (first | exact Below.refl _ _ | refine Below.drew ?_ | refine below_drewN ?_ _ | refine Below.alloc ?_ (by first | (simp; done) | (simp; omega)) _))) ?_
                clear HKK K
                refine wpAnyH_one 3 _ #[true, true, true, true, true, true, true, true, true, true, true, true, false, false, false] 3 (by kernel_rfl) (fun K hK => ?_)
                have HKK := Lib.hid hK
                clear hK
                simp only [List.drop_succ_cons, List.drop_zero]
                refine headH_mk (by rfl) ?_
                refine wp_append_rowG (n := 0) (m := n2) (cs := []) (ds := wtc S) _ _ 51 (by rfl) 66 i0 _ Try.underlying51 Hi.out Hz0.out Hz1.out Hz2.out rfl (by omega) (by omega) (by rfl) (by rfl) (RowG.zero (by first | (simp; done) | (simp; omega))) (HROW.out.below (by repeat (first | exact Below.refl _ _ | refine Below.drew ?_ | refine below_drewN ?_ _ | refine Below.alloc ?_ (by first | (simp; done) | (simp; omega)) _))).cells (by rw [wtc_len, H1.out.2.1]) (wtc_one _) (by omega) ?_
                intro b1 e1 w4 k1 ch1 f1
                have hb4 : Below W.heap.size W w4 := Chg.below (by repeat (first | exact Below.refl _ _ | refine Below.drew ?_ | refine below_drewN ?_ _ | refine Below.alloc ?_ (by first | (simp; done) | (simp; omega)) _)) ch1 (fun x hx => by simp [blk] at hx; omega)
                have hf4 : ∀ x ∈ blk b1, W.heap.size ≤ x := fun x hx => by
                  rcases f1 x hx with h | h
                  · simp [blk] at h; omega
                  · first | omega | (simp at h; omega)
                have K1 : Hid (RowG 3 w4 b1 e1 n2 (wtc S)) := Lib.hid (by simpa using k1)
                have CH1 := Lib.hid ch1
                clear k1 ch1 f1
                refine HKK.out _ _ (HPP.out _ hb4) ?_
                rw [Nat.zero_add]
                clear HKK K
                refine wpAnyH_one 12 _ #[true, true, true, true, true, true, true, true, true, true, true, true, true, false, false] 2 (by kernel_rfl) (fun K hK => ?_)
                have HKK := Lib.hid hK
                clear hK
                simp only [List.drop_succ_cons, List.drop_zero]
                refine headH_mk (by rfl) ?_
                refine wp_append_rowG (n := n2) (m := 1) (cs := wtc S) (ds := wtc [(g, (i : Int), v)]) _ _ 51 (by rfl) 66 i0 _ Try.underlying51 Hi.out Hz0.out Hz1.out Hz2.out rfl (by omega) (by omega) (by first | rfl | simp) (by rfl) K1.out (CellsAt.chg (by first | exact CellsAt.new _ (wtc [(g, (i : Int), v)]) _ (by first | rfl | simp) | exact CellsAt.below (CellsAt.new _ (wtc [(g, (i : Int), v)]) _ (by first | rfl | simp)) (by repeat (first | exact Below.refl _ _ | refine Below.drew ?_ | refine below_drewN ?_ _ | refine Below.alloc ?_ (by first | (simp; done) | (simp; omega)) _))) CH1.out (by simp [blk])) rfl (wtc_one _) (by omega) ?_
                intro b2 e2 w5 k2 ch2 f2
                have hb5 : Below W.heap.size W w5 := Chg.below hb4 ch2 (fun x hx => hf4 x hx)
                have hf5 : ∀ x ∈ blk b2, W.heap.size ≤ x := fun x hx => by
                  rcases f2 x hx with h | h
                  · exact hf4 x h
                  · have := hb4.size; first | omega | (simp at h; omega)
                obtain ⟨x2', xm2'⟩ := (HWO.out.step hb5).cel 0 rfl 2 _ rfl
                have hrow : RowG 3 w5 b2 e2 (S ++ [(g, (i : Int), v)]).length (wtc (S ++ [(g, (i : Int), v)])) := by rw [hln, wtc_app]; exact k2
                have o5 := Own.rAdd (HWO.out.pick 3 rfl) hb5 hrow (fun x hx => .inr (hf5 x hx))
                have o6 := (((o5.pick 3 rfl).pick 3 rfl).pick 3 rfl).set 2 (.slice b2 (S ++ [(g, (i : Int), v)]).length e2)
                have hP : WaP w0 w1 s0 [.int .i64 (N : Int), .slice ba n1 bc, .slice sa n2 sc, .slice ra n3 rc, .bool cl] [.int .i64 1, .int .i64 (j : Int), .int .i64 (q : Int)] (RowGA 5 (some ⟨ob, oo, none⟩) c1 n (rfs xs')) 2 (S ++ [(g, (i : Int), v)]) rs' R (w5.setCell ⟨s0 + 1, 2, none⟩ (.slice b2 (n2 + 1) e2)) := by
                  rw [← hln]; exact ⟨b2, e2, o6, (below_on HWB.out hb5).setCell HS1.out _⟩
                have HP := Lib.hid hP
                have hbs := chg_setC hb5 (b := s0 + 1) (k := 2) (.slice b2 (n2 + 1) e2)
                clear hrow o5 o6 hP k2 ch2 f2 hf5
                refine HKK.out _ _ (HPP.out _ hb5) ?_
                clear HKK K
                refine wpAnyH_seg 13 1 _ #[true, true, true, true, true, true, true, true, true, true, true, true, true, true, false] 1 (by kernel_rfl) noPanic_put (HPP.out _ hb5) (by kernel_rfl) ?_
                simp only [List.take_succ_cons, List.take_zero, List.drop_succ_cons, List.drop_zero]
                repeat (first
                  | (refine wpSegH_no (by rfl) ?_; simp only [Act.put, List.setIfInBounds_toArray, List.set_cons_zero, List.set_cons_succ])
                  | (refine wpSegH_yes (by rfl) ?_; apply Exists.intro; apply And.intro; (· (intro wx hS; (try dsimp only at hS); go_simp; first | done | with_reducible rfl)); simp only [Act.put, List.setIfInBounds_toArray, List.set_cons_zero, List.set_cons_succ]))
                refine wpSegH_nil ?_
                refine wpAnyH_one 14 _ #[true, true, true, true, true, true, true, true, true, true, true, true, true, true, true] 0 (by kernel_rfl) (fun K hK => ?_)
                have HKK := Lib.hid hK
                clear hK
                simp only [List.drop_succ_cons, List.drop_zero]
                refine headH_mk (by rfl) ?_
                go_simp
                refine HKK.out _ _ (HPQ.out _ hbs) ?_
                clear HKK K
                refine wpAnyH_done (by kernel_rfl) (NoPanic.normal ?_) _
                go_wp2_with fail
                go_meet
                exact ⟨rfl, HP.out⟩
          case rest =>
            obtain ⟨rfl, b2, e2, hO6, hB6⟩ := hcut
            have O6 := Lib.hid hO6
            have HB6 := Lib.hid hB6
            clear hO6 hB6 a2 c2 gB hsl hsl0 hslB HROW
            obtain ⟨f0, -⟩ := O6.out.cel 0 rfl 0 _ rfl
            obtain ⟨f1, -⟩ := O6.out.cel 0 rfl 1 _ rfl
            obtain ⟨f2, -⟩ := O6.out.cel 0 rfl 2 _ rfl
            rw [hln] at f2
            obtain ⟨f3, -⟩ := O6.out.cel 0 rfl 3 _ rfl
            obtain ⟨f4, -⟩ := O6.out.cel 0 rfl 4 _ rfl
            obtain ⟨y1, -⟩ := O6.out.cel 1 rfl 1 _ rfl
            have hrg := O6.out.rowG 2 rfl
            have hcap : j * 5 + 5 ≤ c1 * 5 := by have h1 := hrg.2.1; have h2 := HJN.out; omega
            obtain ⟨z0, u0, v0⟩ := hrg.spot (j * 5) (by omega)
            obtain ⟨z1, u1, v1⟩ := hrg.spot (j * 5 + 1) (by omega)
            obtain ⟨z2, u2, v2⟩ := hrg.spot (j * 5 + 2) (by omega)
            obtain ⟨z3, u3, v3⟩ := hrg.spot (j * 5 + 3) (by omega)
            obtain ⟨z4, u4, v4⟩ := hrg.spot (j * 5 + 4) (by omega)
            simp only [← Nat.add_assoc] at u1 u2 u3 u4 v1 v2 v3 v4
            have o7 := Own.rfSet (xs := xs') (O6.out.pick 2 rfl) j ⟨N, ⟨buf, S ++ [(g, (i : Int), v)], Rv, cl⟩, ba, bc, b2, e2, ra, rc⟩ HJL.out
            simp only at o7
            have hr0 := WaSt.next (w1 := w1) (rs := rs) (xs := xs) (Y := ⟨N, ⟨buf, S ++ [(g, (i : Int), v)], Rv, cl⟩, ba, bc, b2, e2, ra, rc⟩) HXX.out.1 rfl HWF.out HRR.out ⟨List.mem_cons_of_mem _ HIN.out.1, List.mem_cons_self, List.mem_cons_of_mem _ HIN.out.2.2⟩ (fun q hq => List.mem_cons_of_mem _ hq) ⟨by have := HLM.out; simp only [List.length_append, List.length_cons, List.length_nil]; omega, by have := HLM.out; simp only [List.length_append, List.length_cons, List.length_nil]; omega, by have := HLM.out; simp only [List.length_append, List.length_cons, List.length_nil]; omega⟩ ((o7.pick 1 rfl).drop.pick 1 rfl).drop ((((((HB6.out).setCell (p := ⟨ob, oo + j * 5, none⟩) HOB.out _).setCell (p := ⟨ob, oo + j * 5 + 1, none⟩) HOB.out _).setCell (p := ⟨ob, oo + j * 5 + 2, none⟩) HOB.out _).setCell (p := ⟨ob, oo + j * 5 + 3, none⟩) HOB.out _).setCell (p := ⟨ob, oo + j * 5 + 4, none⟩) HOB.out _)
            rw [← H1.out.1, hln, ← H1.out.2.2] at hr0
            have HR := Lib.hid hr0
            clear hr0 o7 hrg O6 HRR HXX HB6 HIN HWF HWO HWB hln
            go_wp2
            exact ⟨⟨i + 1, _, _, by omega, by go_num, HR⟩, by simp [intOf]; omega⟩
    · have hge : ¬ (i : Int) < (m : Int) := by omega
      have hd : ks.drop i = [] := List.drop_of_length_le (by have := HM.out; omega)
      rw [hd] at r5
      have HF : Hid (XWaited w0 w R rs n (xs.map (·.N)) (wasF g regs 0 ks (xs.map (·.C))) (.returned (.slice a1 n c1)) wr) := Lib.hid ⟨a1, c1, xs', rs', rfl, r6, r5.symm, r3, r4, r1, HBW.out.trans (r2.mono HBW.out.size)⟩
      clear hr r1 r2 r3 r4 r5 r6 r7 hd
      go_wp2
      go_ret
      exact HF.out
end Go.Proofs.Ytphjgfjfeehjhaa
