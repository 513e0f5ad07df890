/-
  Channels: DeleteFunc, Drop.
-/
import Derived.Test.YtphjgfjfeehjhaaWCh7
open Go Go.RowKit
set_option linter.unusedVariables false
namespace Go.Proofs.Ytphjgfjfeehjhaa
theorem zeroCells_one {z : Value} (h1 : ∀ u ∈ z.cells.toList, u.oneCell' = true) (n : Nat) : ∀ u ∈ (Builtin.zeroCells z.cells n).toList, u.oneCell' = true := fun u hu => by
  unfold Builtin.zeroCells at hu
  rw [Array.mem_toList_iff, Array.mem_map] at hu
  obtain ⟨i, hi, rfl⟩ := hu
  have hp : 0 < z.cells.size := by
    rw [Array.mem_range] at hi
    rcases Nat.eq_zero_or_pos z.cells.size with e | e
    · rw [e] at hi; omega
    · exact e
  have hlt2 := Nat.mod_lt i hp
  rw [getElem!_pos z.cells _ hlt2]
  exact h1 _ (Array.mem_toList_iff.2 (Array.getElem_mem hlt2))
/-- clear(s[m:]): what stands ahead stays. -/
theorem drop_clear {P : Program} {t : TypeId} {s : Nat} (z : Value) (ht : P.underlying t = some (.slice (P.elem t))) (hs : ∀ w, (sizeOf (P.elem t)).run P w = .ok s w) (hv : ∀ w, (zeroValue (P.elem t)).run P w = .ok z w) (hzs : z.cells.size = s) (h1 : ∀ u ∈ z.cells.toList, u.oneCell' = true)
    {w : World} {a : Option Addr} {cap n : Nat} {cs : List Value} (h : RowG s w a cap n cs) (m : Nat) (hm : m ≤ n) :
    ∃ a', (∀ w, (Instr.slice t (.slice a n cap) (some (.int .i64 (m : Int))) none none).run P w = .ok (.slice a' (n - m) (cap - m)) w) ∧
      ∃ w', (∀ ty c, (Builtin.clear_ #[t] ty #[.slice a' (n - m) c]).run P w = .ok (.tuple #[]) w') ∧ RowG s w' a cap m (cs.take (m * s)) ∧ Chg (blk a) w w' := by
  obtain ⟨a', hsl, hrow, hbl⟩ := slice_fromG ht hs h m hm
  refine ⟨a', hsl, ?_⟩
  have hnm : ∀ k, k = 0 → (∀ ty c, (Builtin.clear_ #[t] ty #[.slice a' k c]).run P w = .ok (.tuple #[]) w) := fun k hk ty c => by
    subst hk; cases a' <;> simp [Builtin.clear_, run_underlying ht]
  rcases Nat.eq_zero_or_pos (n - m) with h0 | hpos
  · exact ⟨w, hnm _ h0, h.take m hm, Chg.refl _ _⟩
  · have hh := h
    obtain ⟨k1, k2, k3, k4⟩ := h
    rcases k4 with ⟨rfl, hc⟩ | ⟨b, off, rfl, hlt, h5, h6⟩
    · omega
    · have hne : ¬ cap = m := by omega
      have ha' : a' = some ⟨b, off + m * s, none⟩ := by
        have e1 := hsl w
        rw [run_slice_l (P := P) (t := t) (ht := ht) (kl := .i64) (l := (m : Int)) (h0 := by omega) (h1 := by omega), hs] at e1
        by_cases hm0 : m = 0
        · subst hm0
          simp [Result.andThen, sliced, hne, Addr.add] at e1
          rw [← e1]; simp
        · simp [Result.andThen, sliced, hne, Addr.add] at e1
          rw [e1.symm]
          by_cases hz : m * s = 0
          · rw [if_pos hz, hz]; rfl
          · rw [if_neg hz]
      subst ha'
      have hlen : (Builtin.zeroCells z.cells (n - m)).toList.length = (n - m) * s := by rw [Array.length_toList, size_zeroCells, hzs]
      have hcm : cap * s = m * s + (n - m) * s + (cap - n) * s := by rw [← Nat.add_mul, ← Nat.add_mul]; congr 1; omega
      have hms : n * s = m * s + (n - m) * s := by rw [← Nat.add_mul]; congr 1; omega
      have hst := run_storeCells_cells (P := P) b (off + m * s) (Builtin.zeroCells z.cells (n - m)).toList 0 w (fun j hj => by rw [hlen] at hj; have := (h5 (m * s + j) (by omega)).1; simpa [Nat.add_assoc] using this) (fun j hj => by rw [hlen] at hj; have := (h5 (m * s + j) (by omega)).2; simpa [Nat.add_assoc] using this) (zeroCells_one h1 _)
      simp only [Nat.add_zero] at hst
      refine ⟨w.setCells b (off + m * s) (Builtin.zeroCells z.cells (n - m)).toList, fun ty c => ?_, ?_, (Chg.refl _ _).setCells _ _ (.inl (by simp [blk]))⟩
      · obtain ⟨q, hq⟩ : ∃ q, n - m = q + 1 := ⟨n - m - 1, by omega⟩
        rw [hq] at hst ⊢
        generalize hzl : (Builtin.zeroCells z.cells (q + 1)).toList = zl at *
        simp [Builtin.clear_, run_underlying ht, hv, hzl, hst]
      · have hin := World.cell?_setCells_in b (Builtin.zeroCells z.cells (n - m)).toList (off + m * s) w (fun j hj => by rw [hlen] at hj; have := (h5 (m * s + j) (by omega)).1; simpa [Nat.add_assoc] using this)
        generalize (Builtin.zeroCells z.cells (n - m)).toList = zl at *
        refine ⟨by rw [List.length_take]; omega, by omega, k3, .inr ⟨b, off, rfl, Nat.lt_of_lt_of_le hlt ((Chg.refl [b] w).setCells zl (off + m * s) (.inl (by simp))).size, fun j hj => ⟨?_, by rw [World.frozen?_setCells]; exact (h5 j hj).2⟩, fun j v hj => ?_⟩⟩
        · by_cases hj2 : m * s ≤ j ∧ j < m * s + (n - m) * s
          · have := hin (j - m * s) (by omega)
            rw [show off + m * s + (j - m * s) = off + j by omega] at this
            rw [this]; rfl
          · rw [World.cell?_setCells_out b zl _ w _ (fun _ _ => by simp only; omega)]
            exact (h5 j hj).1
        · rw [List.getElem?_take] at hj
          split at hj
          · rw [World.cell?_setCells_out b zl _ w _ (fun _ _ => by simp only; omega)]
            exact h6 j v hj
          · cases hj
theorem zero_wt (w : World) : (zeroValue (Try.prog.elem 46)).run Try.prog w = .ok (.agg #[.int .i64 0, .int .i64 0, .int .i64 0]) w := by kernel_rfl
theorem RowG.spot {s : Nat} {w : World} {b off cap n : Nat} {cs : List Value} (h : RowG s w (some ⟨b, off, none⟩) cap n cs) (j : Nat) (hj : j < cap * s) : ∃ v, w.cell? ⟨b, off + j, none⟩ = some v ∧ w.frozen? ⟨b, off + j, none⟩ = false := by
  rcases h.2.2.2 with ⟨h0, _⟩ | ⟨b', off', hb', hlt, h5, h6⟩
  · cases h0
  · simp only [Option.some.injEq, Addr.mk.injEq, and_true] at hb'
    obtain ⟨rfl, rfl⟩ := hb'
    obtain ⟨v, hv⟩ := Option.isSome_iff_exists.1 (h5 j hj).1
    exact ⟨v, hv, (h5 j hj).2⟩
/-- What is left at a round. -/
def Mid (g : Int) (l l' : List Wt) (i j : Nat) : Prop := l'.length = l.length ∧ i ≤ j ∧ l'.take i = dropW g (l.take j) ∧ l'.drop j = l.drop j
theorem Mid.skip {g : Int} {l l' : List Wt} {i j : Nat} (h : Mid g l l' i j) (hj : j < l.length) (hx : l[j].1 = g) : Mid g l l' i (j + 1) := by
  obtain ⟨h1, h2, h3, h4⟩ := h
  refine ⟨h1, by omega, ?_, ?_⟩
  · rw [take_snoc_w l j hj, dropW_snoc, if_pos hx]; exact h3
  · rw [← List.drop_drop, ← List.drop_drop, h4]
theorem Mid.keep {g : Int} {l l' : List Wt} {i j : Nat} (h : Mid g l l' i j) (hj : j < l.length) (hx : ¬ l[j].1 = g) : Mid g l (l'.set i l[j]) (i + 1) (j + 1) := by
  obtain ⟨h1, h2, h3, h4⟩ := h
  refine ⟨by rw [List.length_set]; exact h1, by omega, ?_, ?_⟩
  · rw [take_snoc_w l j hj, dropW_snoc, if_neg hx, ← h3, take_set_succ _ _ _ (by omega)]
  · rw [List.drop_set_of_lt (by omega), ← List.drop_drop, ← List.drop_drop, h4]
theorem Mid.at {g : Int} {l l' : List Wt} {i j : Nat} (h : Mid g l l' i j) (hj : j < l.length) (hj' : j < l'.length) : l'[j] = l[j] := by
  obtain ⟨h1, h2, h3, h4⟩ := h
  have := congrArg List.head? h4
  rw [List.head?_drop, List.head?_drop, List.getElem?_eq_getElem hj', List.getElem?_eq_getElem hj] at this
  simpa using this
set_option maxRecDepth 100000 in
set_option maxHeartbeats 2000000 in
theorem delete_any {w0 w : World} {R : List Asr} {a : Option Addr} {c n q : Nat} {g : Int} {l : List Wt} (h : Own w0 w (RowGA 3 a c n (wtc l) :: CelA q [.int .i64 g] :: R)) (hn : n = l.length) (hl : n ≤ 100000) :
    Calls Try.prog 42 #[.slice a n c, clo q] w fun r w' => r = .returned (.slice a (dropW g l).length c) ∧ Own w0 w' (RowGA 3 a c (dropW g l).length (wtc (dropW g l)) :: CelA q [.int .i64 g] :: R) := by
  have hi := index_any w a n c l q g (h.rowG 0 rfl).cells hn hl (h.cel 1 rfl 0 _ rfl).1
  have HI := Lib.hid hi
  have HO := Lib.hid h
  have HN := Lib.hid hn
  have hcn : n ≤ c := (h.rowG 0 rfl).2.1
  clear hi h hn
  have hclo : clo q = .func (.func 41) #[] #[.pointer (some ⟨q, 0, none⟩)] := rfl
  rw [hclo]
  rw [hclo] at HI
  clear hclo
  go_enter Try.func42, Try.ntmps42
  go_wp2_with fail
  refine HI.out.mono ?_
  rintro r w1 ⟨b1, hr⟩
  rcases hr with ⟨i, hil, rfl, hx, hpre⟩ | ⟨rfl, hno⟩
  · have hst : ∃ l', Mid g l l' i (i + 1) ∧ Own w0 w1 (RowGA 3 a c n (wtc l') :: CelA q [.int .i64 g] :: R) := by
      refine ⟨l, ⟨rfl, by omega, ?_, rfl⟩, HO.out.step b1⟩
      rw [take_snoc_w l i hil, dropW_snoc, if_pos hx, dropW_none]
      intro j hj
      rw [List.length_take] at hj
      rw [List.getElem_take]
      exact hpre j (by omega)
    have HST := Lib.hid hst
    have hin : i < n := by have := HN.out; omega
    have hne : ((i : Int) == -1) = false := by rw [beq_eq_false_iff_ne]; omega
    clear hst hx hpre b1 HI HO hil
    go_wp2_with fail
    go_loopw [5, 6] (fun s5 s6 wr => ∃ i j : Nat, i < j ∧ j ≤ n ∧ s5 = .int .i64 i ∧ s6 = .int .i64 j ∧ Hid (∃ l', Mid g l l' i j ∧ Own w0 wr (RowGA 3 a c n (wtc l') :: CelA q [.int .i64 g] :: R))) (fun _ s6 _ => n - (intOf s6).toNat)
    case atStart => exact ⟨i, i + 1, by omega, by omega, rfl, by go_num, HST⟩
    case round =>
      obtain ⟨i, j, hij, hj, rfl, rfl, hr⟩ := hrel
      obtain ⟨l', hm, ho⟩ := hr.out
      by_cases hlt : j < n
      · have hjl : j < l.length := by have := HN.out; omega
        have hjl' : j < l'.length := by rw [hm.1]; exact hjl
        obtain ⟨b, off, rfl, e1, e2, e3⟩ := (ho.rowG 0 rfl).cells.wt j hjl'
        rw [hm.at hjl hjl'] at e1 e2 e3
        have hp := pred_any l[j] q g (wr.alloc (.cells #[.int .i64 l[j].1, .int .i64 l[j].2.1, .int .i64 l[j].2.2] 62)) (cell_below (ho.cel 1 rfl 0 _ rfl).1 (below_alloc1 _ _))
        have HP := Lib.hid hp
        have hji : (j : Int) < (n : Int) := by omega
        have hii : (i : Int) < (n : Int) := by omega
        have HM := Lib.hid hm
        have HO := Lib.hid ho
        have HJ : Hid (j < l.length) := Lib.hid hjl
        obtain ⟨y, hy⟩ : ∃ y, y = l[j]'hjl := ⟨_, rfl⟩
        rw [← hy] at e1 e2 e3 HP
        have HY : Hid (∀ h : j < l.length, y = l[j]'h) := Lib.hid fun _ => hy
        clear hp hy hjl hjl' hm ho hr HST
        obtain ⟨y1, y2, y3⟩ := y
        unfold wv at HP
        simp only at e1 e2 e3 HP
        by_cases hyg : y1 = g
        · have hb : (y1 == g) = true := by rw [beq_iff_eq]; exact hyg
          rw [hb] at HP
          have HG := Lib.hid hyg
          clear hb hyg
          go_wp2_with fail
          refine HP.out.mono ?_
          rintro r w3 ⟨rfl, b3⟩
          have HZ : Hid (∃ l', Mid g l l' i (j + 1) ∧ Own w0 w3 (RowGA 3 (some ⟨b, off, none⟩) c n (wtc l') :: CelA q [.int .i64 g] :: R)) := Lib.hid ⟨l', HM.out.skip HJ.out (by rw [← HY.out HJ.out]; exact HG.out), (HO.out.step (below_alloc1 _ _)).step b3⟩
          clear b3 HP
          go_wp2
          exact ⟨⟨i, j + 1, by omega, by omega, rfl, by go_num, HZ⟩, by simp [intOf]; omega⟩
        · have hb : (y1 == g) = false := by rw [beq_eq_false_iff_ne]; exact hyg
          rw [hb] at HP
          have HG := Lib.hid hyg
          clear hb hyg
          go_wp2_with fail
          refine HP.out.mono ?_
          rintro r w3 ⟨rfl, b3⟩
          have o3 := (HO.out.step (below_alloc1 _ (.cells #[.int .i64 y1, .int .i64 y2, .int .i64 y3] 62))).step b3
          have hlen : i * 3 + 2 < (wtc l').length := by rw [wtc_len, HM.out.1]; have := HN.out; omega
          have o4 := ((o3.rowSet (i * 3) (.int .i64 y1) (by omega)).rowSet (i * 3 + 1) (.int .i64 y2) (by rw [List.length_set]; omega)).rowSet (i * 3 + 2) (.int .i64 y3) (by rw [List.length_set, List.length_set]; exact hlen)
          rw [wtc_set l' i (y1, y2, y3) (by rw [HM.out.1]; have := HN.out; omega)] at o4
          have hmk := HM.out.keep HJ.out (by rw [← HY.out HJ.out]; exact HG.out)
          rw [← HY.out HJ.out] at hmk
          rw [← Nat.add_assoc, ← Nat.add_assoc] at o4
          have HZ : Hid (∃ l', Mid g l l' (i + 1) (j + 1) ∧ Own w0 (((w3.setCell ⟨b, off + i * 3, none⟩ (.int .i64 y1)).setCell ⟨b, off + i * 3 + 1, none⟩ (.int .i64 y2)).setCell ⟨b, off + i * 3 + 2, none⟩ (.int .i64 y3)) (RowGA 3 (some ⟨b, off, none⟩) c n (wtc l') :: CelA q [.int .i64 g] :: R)) := Lib.hid ⟨_, hmk, o4⟩
          have v9 := cell_below (Blk.mk wr [.int .i64 y1, .int .i64 y2, .int .i64 y3] 62 _ rfl 0 _ rfl).1 b3
          have v10 := cell_below (Blk.mk wr [.int .i64 y1, .int .i64 y2, .int .i64 y3] 62 _ rfl 1 _ rfl).1 b3
          have v11 := cell_below (Blk.mk wr [.int .i64 y1, .int .i64 y2, .int .i64 y3] 62 _ rfl 2 _ rfl).1 b3
          obtain ⟨u0, s1, s2⟩ := (o3.rowG 0 rfl).spot (i * 3) (by omega)
          obtain ⟨u1, s3, s4⟩ := (o3.rowG 0 rfl).spot (i * 3 + 1) (by omega)
          obtain ⟨u2, s5, s6⟩ := (o3.rowG 0 rfl).spot (i * 3 + 2) (by omega)
          rw [← Nat.add_assoc] at s3 s4 s5 s6
          clear b3 HP o4 o3 hmk hlen e1 e2 e3
          go_wp2
          exact ⟨⟨i + 1, j + 1, by omega, by omega, by go_num, by go_num, HZ⟩, by simp [intOf]; omega⟩
      · have hge : ¬ (j : Int) < (n : Int) := by omega
        have hjn : j = n := by omega
        have hi : i ≤ n := by omega
        obtain ⟨z1, z2, z3, z4⟩ := hm
        have hdl : dropW g l = l'.take i := by rw [z3, List.take_of_length_le (by have := HN.out; omega)]
        have hlen : (dropW g l).length = i := by rw [hdl, List.length_take, z1]; have := HN.out; omega
        obtain ⟨a', hsl, w2, hclr, hrow, hchg⟩ := drop_clear (.agg #[.int .i64 0, .int .i64 0, .int .i64 0]) under_wt size_wt zero_wt rfl (by simp [Value.cells, Value.oneCell']) (ho.rowG 0 rfl) i hi
        have hsh : ∀ w', (Instr.slice 46 (.slice a n c) none (some (.int .i64 (i : Int))) none).run Try.prog w' = .ok (.slice a i c) w' := fun w' => slice_head w' under_wt size_wt a n c i (by omega)
        have hfin : Own w0 w2 (RowGA 3 a c (dropW g l).length (wtc (dropW g l)) :: CelA q [.int .i64 g] :: R) := by
          rw [hlen, hdl, wtc_take]
          exact Own.rowTurn ho hrow hchg (fun x hx => .inl hx)
        have HF := Lib.hid hfin
        have HCLR := Lib.hid hclr
        have HLEN := Lib.hid hlen
        clear hr ho hrow hchg hfin hclr z1 z2 z3 z4 hdl hlen HST hlt hj hij
        go_wp2_with (with_reducible refine wpList_clearG rfl _ _ rfl rfl (HCLR.out _ _) ?_)
        go_ret
        exact ⟨by rw [HLEN.out]; rfl, HF.out⟩
  · have hd : dropW g l = l := dropW_none g l hno
    have HF : Hid (Own w0 w1 (RowGA 3 a c (dropW g l).length (wtc (dropW g l)) :: CelA q [.int .i64 g] :: R)) := Lib.hid (by rw [hd, ← HN.out]; exact HO.out.step b1)
    have HL : Hid ((dropW g l).length = n) := Lib.hid (by rw [hd]; exact HN.out.symm)
    clear hno hd b1 HI HO
    go_wp2
    go_ret
    exact ⟨by rw [HL.out]; rfl, HF.out⟩
set_option maxRecDepth 100000 in
set_option maxHeartbeats 2000000 in
theorem cdrop_any {w0 w : World} {R : List Asr} {p N : Nat} {C : Ch} (h : Own w0 w (ChanA p N C :: R)) (g : Int) (hs : C.S.length ≤ 100000) (hr : C.R.length ≤ 100000) :
    Calls Try.prog 33 #[.pointer (some ⟨p, 0, none⟩), .int .i64 g] w fun r w' => r = .returned (.tuple #[]) ∧ Own w0 w' (ChanA p N ⟨C.buf, dropW g C.S, dropW g C.R, C.cl⟩ :: R) := by
  obtain ⟨buf, S, Rv, cl⟩ := C
  simp only at hs hr ⊢
  obtain ⟨ba, bc, sa, sc, ra, rc, h1⟩ := h.chan
  have hpl : p < w.heap.size := World.block_lt_of_cell? w _ (h1.cel 0 rfl 0 _ rfl).1
  have hA := h1.alloc [.int .i64 g] 3 (b := w.heap.size) rfl
  have hmk : ∀ q, (clo q) = .func (.func 41) #[] #[.pointer (some ⟨q, 0, none⟩)] := fun _ => rfl
  have hB : Own w0 (w.alloc (.cells #[.int .i64 g] 3)) (RowGA 3 sa sc S.length (wtc S) :: CelA w.heap.size [.int .i64 g] :: CelA p (ccells N ⟨buf, S, Rv, cl⟩ ba bc sa sc ra rc) :: RowGA 1 ba bc buf.length (intc buf) :: RowGA 3 ra rc Rv.length (wtc Rv) :: R) := hA.pick 3 rfl
  have hd := delete_any hB rfl hs
  rw [hmk] at hd
  obtain ⟨g2, -⟩ := hB.cel 2 rfl 2 _ rfl
  have HD := Lib.hid hd
  simp only [ccells] at g2
  obtain ⟨n, hn⟩ : ∃ n, n = S.length := ⟨_, rfl⟩
  rw [← hn] at g2 HD
  have HN := Lib.hid hn
  clear h h1 hA hB hd hn
  go_enter Try.func33, Try.ntmps33
  go_wp2_with fail
  refine HD.out.mono ?_
  rintro r w2 ⟨rfl, h2⟩
  have h3 : Own w0 w2 (RowGA 3 sa sc (dropW g S).length (wtc (dropW g S)) :: CelA w.heap.size [.int .i64 g] :: CelA p (ccells N ⟨buf, S, Rv, cl⟩ ba bc sa sc ra rc) :: RowGA 1 ba bc buf.length (intc buf) :: RowGA 3 ra rc Rv.length (wtc Rv) :: R) := h2
  have h4 := h3.setAt 2 rfl 2 (.slice sa (dropW g S).length sc)
  obtain ⟨p2, q2⟩ := h3.cel 2 rfl 2 _ rfl
  have hC : Own w0 (w2.setCell ⟨p, 2, none⟩ (.slice sa (dropW g S).length sc)) (RowGA 3 ra rc Rv.length (wtc Rv) :: CelA w.heap.size [.int .i64 g] :: RowGA 3 sa sc (dropW g S).length (wtc (dropW g S)) :: CelA p (ccells N ⟨buf, dropW g S, Rv, cl⟩ ba bc sa sc ra rc) :: RowGA 1 ba bc buf.length (intc buf) :: R) := (h4.pick 1 rfl).pick 4 rfl
  have hd := delete_any hC rfl hr
  rw [hmk] at hd
  have HD2 := Lib.hid hd
  obtain ⟨g3, -⟩ := hC.cel 3 rfl 3 _ rfl
  simp only [ccells] at g3
  clear h2 h3 h4 hC hd g2 HD
  obtain ⟨n3, hn3⟩ : ∃ n, n = Rv.length := ⟨_, rfl⟩
  rw [← hn3] at g3 HD2
  have HN3 := Lib.hid hn3
  clear hn3
  go_wp2_with fail
  refine HD2.out.mono ?_
  rintro r w3 ⟨rfl, h5⟩
  have h6 : Own w0 w3 (RowGA 3 ra rc (dropW g Rv).length (wtc (dropW g Rv)) :: CelA w.heap.size [.int .i64 g] :: RowGA 3 sa sc (dropW g S).length (wtc (dropW g S)) :: CelA p (ccells N ⟨buf, dropW g S, Rv, cl⟩ ba bc sa sc ra rc) :: RowGA 1 ba bc buf.length (intc buf) :: R) := h5
  have h7 := h6.setAt 3 rfl 3 (.slice ra (dropW g Rv).length rc)
  obtain ⟨p3, q3⟩ := h6.cel 3 rfl 3 _ rfl
  have hE : Own w0 (w3.setCell ⟨p, 3, none⟩ (.slice ra (dropW g Rv).length rc)) (ChanA p N ⟨buf, dropW g S, dropW g Rv, cl⟩ :: R) :=
    Own.chanBack (((((h7.pick 1 rfl).drop.pick 0 rfl).pick 1 rfl).pick 3 rfl).pick 3 rfl)
  have HE := Lib.hid hE
  clear h5 h6 h7 hE HD2 g3
  go_wp2
  go_end0
  exact ⟨rfl, HE.out⟩
end Go.Proofs.Ytphjgfjfeehjhaa
