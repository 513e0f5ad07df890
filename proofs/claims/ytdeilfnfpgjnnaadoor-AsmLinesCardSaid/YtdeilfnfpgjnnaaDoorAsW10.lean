/-
  A text, read.
-/
import Derived.Test.YtdeilfnfpgjnnaaDoorAsW9
open Go Go.RowKit
set_option linter.unusedVariables false
set_option linter.unusedSimpArgs false
namespace Go.Proofs.YtdeilfnfpgjnnaaDoor
theorem fit_mono {r : Rd} {n m : Nat} (h : Fit r n) (hm : n ≤ m) : Fit r m := ⟨by have := h.1; omega, by have := h.2.1; omega, by have := h.2.2.1; omega, fun f hf => by have := h.2.2.2 f hf; omega⟩
theorem fit_addI {r : Rd} {n : Nat} (x : In4) (h : Fit r n) : Fit (addI r x) (n + 1) := by
  refine ⟨by unfold addI; simp; have := h.1; omega, by have := h.2.1; show r.cs.length ≤ _; omega, by have := h.2.2.1; show r.ks.length ≤ _; omega, fun f hf => ?_⟩
  unfold addI at hf
  simp only at hf
  rcases List.mem_or_eq_of_mem_set hf with h1 | h1
  · have := h.2.2.2 f h1; omega
  · rw [h1, List.length_append]
    have : (r.fs.getD (r.fs.length - 1) []).length ≤ n := by
      by_cases hl : r.fs.length - 1 < r.fs.length
      · rw [List.getD_eq_getElem?_getD, List.getElem?_eq_getElem hl]
        exact h.2.2.2 _ (List.getElem_mem hl)
      · rw [List.getD_eq_getElem?_getD, List.getElem?_eq_none (by omega)]
        simp
    simp only [List.length_singleton]
    omega
theorem fit_with {r : Rd} {n : Nat} {q : List Int × Int} {f : List Int → Rd} (h : Fit r n) (hf : ∀ l, Fit (f l) (n + 1)) : Fit (withN r q f).1 (n + 1) := by
  unfold withN
  split
  · exact hf _
  · exact fit_mono h (by omega)
theorem fit_line {r : Rd} {n : Nat} (l : By) (h : Fit r n) : Fit (lineM r l).1 (n + 1) := by
  have h1 := fit_mono h (Nat.le_succ n)
  unfold lineM wordM
  split
  · refine fit_with h fun _ => ⟨by simp; exact h.1, h1.2.1, h1.2.2.1, fun f hf => ?_⟩
    simp only [List.mem_append, List.mem_singleton] at hf
    rcases hf with hf | rfl
    · exact h1.2.2.2 f hf
    · simp
  · split
    · split
      · exact h1
      · exact fit_with h fun _ => fit_addI _ h
    · split
      · exact fit_with h fun _ => ⟨h1.1, by simp; exact h.2.1, h1.2.2.1, h1.2.2.2⟩
      · split
        · split
          · split
            · exact h1
            · exact ⟨h1.1, h1.2.1, h1.2.2.1, h1.2.2.2⟩
          · exact h1
        · split
          · exact h1
          · exact fit_with h fun _ => ⟨h1.1, h1.2.1, by simp; exact h.2.2.1, h1.2.2.2⟩
theorem linesM_cons (i : Nat) (L : List By) (r : Rd) (h : i < L.length) : linesM i (L.drop i) r = if L[i] = [] then linesM (i + 1) (L.drop (i + 1)) r else if (lineM r L[i]).2 = 0 then linesM (i + 1) (L.drop (i + 1)) (lineM r L[i]).1 else (r, some (i, (lineM r L[i]).2)) := by
  rw [List.drop_eq_getElem_cons h, linesM]
/-- The program's value in memory. -/
def PVal (w : World) (v : Value) (d : PD) : Prop := ∃ fa fc ca cc ka kc, v = pv fa d.fs.length fc ca d.cs.length cc d.lk ka d.ks.length kc ∧ PAt w fa ca ka d
theorem PVal.below {w w' : World} {v : Value} {d : PD} (h : PVal w v d) (hb : Below w.heap.size w w') : PVal w' v d := by
  obtain ⟨fa, fc, ca, cc, ka, kc, e, h⟩ := h
  exact ⟨fa, fc, ca, cc, ka, kc, e, h.below hb⟩
theorem PVal.none (w : World) : PVal w (.agg #[.slice none 0 0, .slice none 0 0, .int .i64 0, .slice none 0 0]) ⟨[], [], 0, []⟩ :=
  ⟨_, _, _, _, _, _, rfl, fun i hi => by simp at hi, fun i hi => by simp at hi, fun i hi => by simp at hi⟩
theorem RdAt.pat {w0 w : World} {b : Nat} {r : Rd} {D : RM} {R : List Asr} (hD : D.rs.map (·.l) = r.fs) (o : Own w0 w (rdp b r D ++ R)) : PAt w D.fa D.ca D.ka r.pd := by
  refine ⟨?_, IntsAt.of_cells (o.rowG 2 rfl).cells, CasAt.of_cells (o.rowG 3 rfl).cells⟩
  have h1 := o.rowG 1 rfl
  have h2 : Own w0 w (fns D.rs ++ R) := o.drop.drop.drop.drop
  have := Own.funAtG (As := []) h2 h1
  rw [hD] at this
  exact this
theorem prog_get {w : World} {b : Nat} {x y z u : Value} (hx : ∃ a n c, x = .slice a n c) (hy : ∃ a n c, y = .slice a n c) (hz : ∃ n, z = .int .i64 n) (hu : ∃ a n c, u = .slice a n c) (h : Blk w b [x, y, z, u]) : (loadVar 33 ⟨b, 0, none⟩).run Tryd.prog w = .ok (.agg #[x, y, z, u]) w := by
  have e0 := (h 0 _ rfl).1
  have e1 := (h 1 _ rfl).1
  have e2 := (h 2 _ rfl).1
  have e3 := (h 3 _ rfl).1
  simp [go_sem, e0, e1, e2, e3]
theorem results_cell_two {P : Program} {fn : Func} {p t u : Tmp} {ty : TypeId} {v : Value} {w w' : World} (h : fn.results = #[.cell p ty, .tmp t, .tmp u]) (tmps : Array Value) (a : Addr) (hp : tmps.getD p undef = .pointer (some a)) (hl : (loadVar ty a).run P w = .ok v w') :
    (results fn tmps).run P w = .ok (.tuple #[v, tmps.getD t undef, tmps.getD u undef]) w' := by
  have hp' : tmps[p]?.getD undef = .pointer (some a) := by simpa using hp
  simp [results, h, hp', asAddr, hl]
def zer4 : List Value := [.slice none 0 0, .slice none 0 0, .int .i64 0, .slice none 0 0]
theorem rd0_at (w : World) (L : List By) (N : Nat) (hN : L.length = N) (h47 : N ≤ 100000) :
    ∀ W1 s0 s1 p W2, s0 = w.heap.size → s1 = w.heap.size + 1 → W1 = (w.alloc (.cells zer4.toArray 33)).alloc (.cells #[.slice none 0 0, .slice none 0 0, .int .i64 0, .slice none 0 0, .bool false] 66) → p = W1.heap.size → W2 = W1.alloc (.cells (strs L).toArray 9) →
    RdAt w W2 s1 rd0 [CelA s0 zer4, RowGA 1 (some ⟨p, 0, none⟩) N N (strs L)] := by
  rintro W1 s0 s1 p W2 rfl rfl rfl rfl rfl
  have o1 := (Own.nil (Below.refl w.heap.size w)).alloc zer4 33 (b := w.heap.size) rfl
  have o2 := o1.alloc [.slice none 0 0, .slice none 0 0, .int .i64 0, .slice none 0 0, .bool false] 66 (b := w.heap.size + 1) (by simp)
  have o3 := o2.add (below_alloc1 _ (.cells (strs L).toArray 9)) (A := RowGA 1 (some ⟨((w.alloc (.cells zer4.toArray 33)).alloc (.cells #[.slice none 0 0, .slice none 0 0, .int .i64 0, .slice none 0 0, .bool false] 66)).heap.size, 0, none⟩) N N (strs L)) (F := [w.heap.size + 1 + 1])
    ⟨by simp [blk], RowG.new 1 N _ (strs L) 9 (by rw [strs_len]; omega) (by unfold maxLen; omega) rfl⟩ (fun x hx => by simp at hx; simp; omega)
  have o4 := (o3.add (Below.refl _ _) (A := RowGA 1 none 0 0 []) (F := []) ⟨rfl, RowG.nil 1 _⟩ (fun x hx => by simp at hx))
  have o5 := (o4.add (Below.refl _ _) (A := RowGA 1 none 0 0 []) (F := []) ⟨rfl, RowG.nil 1 _⟩ (fun x hx => by simp at hx))
  have o6 := (o5.add (Below.refl _ _) (A := RowGA 3 none 0 0 []) (F := []) ⟨rfl, RowG.nil 3 _⟩ (fun x hx => by simp at hx))
  have o7 := (((((o6.pick 3 rfl).pick 5 rfl).pick 2 rfl).pick 3 rfl).pick 4 rfl).pick 5 rfl
  exact ⟨⟨none, 0, none, 0, none, 0, []⟩, rfl, o7⟩
set_option maxRecDepth 100000 in
set_option maxHeartbeats 4000000 in
theorem parse_any (s : By) (w : World) (hs : s.length ≤ 20000) (hg : GlA w) :
    Calls Tryd.prog 11 #[.string (bs s)] w fun e w' => ∃ v, e = .returned (.tuple #[v, .int .i64 (parseM s).2.1, .int .i64 (parseM s).2.2]) ∧ PVal w' v (parseM s).1 ∧ Below w.heap.size w w' := by
  obtain ⟨hal, hax⟩ := spl_all 10 s 20000 hs
  have hP : parseM s = finM (linesM 0 (spl 10 s) rd0) := by
    unfold parseM
    rw [if_neg (by omega)]
  obtain ⟨s0, hs0⟩ : ∃ s0, s0 = w.heap.size := ⟨_, rfl⟩
  obtain ⟨W1, hW1⟩ : ∃ W1, W1 = (w.alloc (.cells #[.slice none 0 0, .slice none 0 0, .int .i64 0, .slice none 0 0] 33)).alloc (.cells #[.slice none 0 0, .slice none 0 0, .int .i64 0, .slice none 0 0, .bool false] 66) := ⟨_, rfl⟩
  have hb1 : Below w.heap.size w W1 := by rw [hW1]; exact (below_alloc1 _ _).alloc (by simp) _
  have HSP := Lib.hid (split_any 10 s W1 (by omega) (hg.below hb1))
  obtain ⟨p, hp⟩ : ∃ p, p = W1.heap.size := ⟨_, rfl⟩
  obtain ⟨L, hL⟩ : ∃ L, spl 10 s = L := ⟨_, rfl⟩
  rw [hL] at HSP hP hal hax
  obtain ⟨N, hN⟩ : ∃ N, L.length = N := ⟨_, rfl⟩
  obtain ⟨W2, hW2⟩ : ∃ W2, W2 = W1.alloc (.cells (strs L).toArray 9) := ⟨_, rfl⟩
  have hrd := rd0_at w L N hN (by omega) W1 s0 (s0 + 1) p W2 hs0 (by rw [hs0]) hW1 hp hW2
  rw [← hW2, ← hp, hN] at HSP
  rw [hN] at hal
  have HR0 : Hid (RdAt w W2 (s0 + 1) rd0 [CelA s0 zer4, RowGA 1 (some ⟨p, 0, none⟩) N N (strs L)] ∧ linesM 0 L rd0 = linesM 0 (L.drop 0) rd0 ∧ Fit rd0 0) := Lib.hid ⟨hrd, rfl, by unfold Fit rd0; simp⟩
  have HP := Lib.hid hP
  have HG := Lib.hid hg
  have HAX := Lib.hid hax
  have HN := Lib.hid hN
  have HS0 := Lib.hid hs0
  have HW1 := Lib.hid hW1
  have hsz : (bs s).size = s.length := bs_size s
  have hlen : decide (20000 < s.length) = false := by simpa using hs
  obtain ⟨X, hX⟩ : ∃ X, parseM s = X := ⟨_, rfl⟩
  rw [hX] at HP ⊢
  clear hax hP hs0 hW1 hb1 hp hL hN hW2 hrd hg hX
  go_enter Tryd.func11, Tryd.ntmps11
  go_upto_region 4 with fail
  rw [← HW1.out, ← HS0.out]
  go_wp2_with fail
  refine HSP.out.mono ?_
  rintro e w2 ⟨rfl, hw2⟩
  subst w2
  go_wp2_with fail
  clear HSP
  go_loopw [18] (fun c wr => ∃ i : Nat, ∃ r : Rd, i ≤ N ∧ c = .int .i64 (i : Int) ∧ Hid (RdAt w wr (s0 + 1) r [CelA s0 zer4, RowGA 1 (some ⟨p, 0, none⟩) N N (strs L)] ∧ linesM 0 L rd0 = linesM i (L.drop i) r ∧ Fit r i)) (fun c _ => N - (intOf c).toNat)
  case atStart => exact ⟨0, rd0, by omega, rfl, HR0⟩
  case round =>
    obtain ⟨i, r, hi, rfl, HR⟩ := hrel
    clear HR0
    by_cases hlt : i < N
    · have hiL : i < L.length := by rw [HN.out]; exact hlt
      have hst := linesM_cons i L r hiL
      obtain ⟨D, hD, o⟩ := HR.out.1
      obtain ⟨fi, hfi⟩ : ∃ fi, fi = (rdp (s0 + 1) r D).length := ⟨_, rfl⟩
      have hrow : RowG 1 wr (some ⟨p, 0, none⟩) N N (strs L) := o.rowG (fi + 1) (by rw [hfi, List.getElem?_append_right (by omega)]; simp)
      obtain ⟨b1, o1, e1, z0⟩ := hrow.cells i (str L[i]) (by unfold strs; rw [List.getElem?_map, List.getElem?_eq_getElem hiL]; rfl)
      cases e1
      have hl90 : L[i].length ≤ 90000 := by have := HAX.out _ (List.getElem_mem hiL); omega
      have HL : Hid (∀ W, RdAt w W (s0 + 1) r [CelA s0 zer4, RowGA 1 (some ⟨p, 0, none⟩) N N (strs L)] → Calls Tryd.prog 19 #[.pointer (some ⟨s0 + 1, 0, none⟩), .string (bs L[i])] W fun e w' => e = .returned (.int .i64 (lineM r L[i]).2) ∧ RdAt w w' (s0 + 1) (lineM r L[i]).1 [CelA s0 zer4, RowGA 1 (some ⟨p, 0, none⟩) N N (strs L)]) :=
        Lib.hid fun W h => line_any (s0 + 1) r _ L[i] w W hl90 HG.out h (fit_mono HR.out.2.2 (by omega))
      have HFI := Lib.hid (fit_line L[i] HR.out.2.2)
      have te : ((bs L[i]).toList == []) = decide (L[i] = []) := eq_bs _ []
      unfold str at z0
      generalize lineM r L[i] = Y at *
      generalize L[i] = l at *
      rw [Nat.zero_add] at z0
      have HST := Lib.hid (HR.out.2.1.trans hst)
      clear hst o hfi hrow hD hiL hl90
      by_cases hn : l = []
      · have te' : ((bs l).toList == []) = true := by rw [te]; simpa using hn
        have HX : Hid (RdAt w wr (s0 + 1) r [CelA s0 zer4, RowGA 1 (some ⟨p, 0, none⟩) N N (strs L)] ∧ linesM 0 L rd0 = linesM (i + 1) (L.drop (i + 1)) r ∧ Fit r (i + 1)) := Lib.hid ⟨HR.out.1, by rw [HST.out, if_pos hn], fit_mono HR.out.2.2 (by omega)⟩
        clear te hn
        go_wp2_with fail
        exact ⟨⟨i + 1, r, by omega, by go_num, HX⟩, by simp [intOf]; omega⟩
      · have te' : ((bs l).toList == []) = false := by rw [te]; simpa using hn
        have hst2 := HST.out
        rw [if_neg hn] at hst2
        have HST2 := Lib.hid hst2
        clear te hst2 hn HST
        obtain ⟨Y1, Y2⟩ := Y
        simp only at HL HST2 HFI
        go_wp2_with fail
        refine (HL.out _ HR.out.1).mono ?_
        rintro e w3 ⟨rfl, h3⟩
        by_cases hy : Y2 = 0
        · subst hy
          have HX : Hid (RdAt w w3 (s0 + 1) Y1 [CelA s0 zer4, RowGA 1 (some ⟨p, 0, none⟩) N N (strs L)] ∧ linesM 0 L rd0 = linesM (i + 1) (L.drop (i + 1)) Y1 ∧ Fit Y1 (i + 1)) := Lib.hid ⟨h3, by rw [HST2.out, if_pos rfl], HFI.out⟩
          clear h3
          go_wp2_with fail
          exact ⟨⟨i + 1, Y1, by omega, by go_num, HX⟩, by simp [intOf]; omega⟩
        · have hyb : (Y2 == 0) = false := by simpa using hy
          have HQ : Hid (X = (⟨[], [], 0, []⟩, (i : Int), Y2)) := Lib.hid (by rw [HP.out, HST2.out, if_neg hy]; rfl)
          have H3 := Lib.hid h3
          obtain ⟨D, hD, o⟩ := h3
          obtain ⟨fi, hfi⟩ : ∃ fi, fi = (rdp (s0 + 1) Y1 D).length := ⟨_, rfl⟩
          have hc0 := o.cel fi (b := s0) (cs := zer4) (by rw [hfi, List.getElem?_append_right (by omega)]; simp)
          have HC0 := Lib.hid hc0
          have HB := Lib.hid o.bel
          obtain ⟨c0, d0⟩ := hc0 0 _ rfl
          obtain ⟨c1, d1⟩ := hc0 1 _ rfl
          obtain ⟨c2, d2⟩ := hc0 2 _ rfl
          obtain ⟨c3, d3⟩ := hc0 3 _ rfl
          clear hc0 o hfi hD
          go_wp2_with fail
          have e := prog_get ⟨_, _, _, rfl⟩ ⟨_, _, _, rfl⟩ ⟨_, rfl⟩ ⟨_, _, _, rfl⟩ ((((HC0.out.set 0 (.slice none 0 0)).set 1 (.slice none 0 0)).set 2 (.int .i64 0)).set 3 (.slice none 0 0))
          exact bodyPost_ret (v := .tuple #[.agg #[.slice none 0 0, .slice none 0 0, .int .i64 0, .slice none 0 0], .int .i64 (i : Int), .int .i64 Y2]) (results_cell_two Tryd.results11 _ ⟨s0, 0, none⟩ rfl e) rfl
            ⟨_, by rw [HQ.out], by rw [HQ.out]; exact PVal.none _, (((HB.out.setCell (by have := HS0.out; simp; omega) _).setCell (by have := HS0.out; simp; omega) _).setCell (by have := HS0.out; simp; omega) _).setCell (by have := HS0.out; simp; omega) _⟩
    · obtain rfl : i = N := by omega
      have HQ : Hid (X = finM (r, none)) := Lib.hid (by rw [HP.out, HR.out.2.1, ← HN.out, List.drop_length]; rfl)
      obtain ⟨D, hD, o⟩ := HR.out.1
      obtain ⟨fi, hfi⟩ : ∃ fi, fi = (rdp (s0 + 1) r D).length := ⟨_, rfl⟩
      have hc0 := o.cel fi (b := s0) (cs := zer4) (by rw [hfi, List.getElem?_append_right (by omega)]; simp)
      have hb := o.cel 0 rfl
      have hpat := RdAt.pat hD o
      have HCK := Lib.hid (check_any D.fa D.fc D.ca D.cc D.ka D.kc r.pd wr (HG.out.below o.bel).sh hpat)
      have HC0 := Lib.hid hc0
      have HB := Lib.hid o.bel
      have HPT := Lib.hid (And.intro hD (o.perm List.perm_middle : Own w wr (CelA s0 zer4 :: (rdp (s0 + 1) r D ++ [RowGA 1 (some ⟨p, 0, none⟩) i i (strs L)]))))
      have HBL := Lib.hid hb
      have z0 := (hb 0 _ rfl).1
      have z1 := (hb 1 _ rfl).1
      have z2 := (hb 2 _ rfl).1
      have z3 := (hb 3 _ rfl).1
      obtain ⟨⟨y1, y2, y3⟩, hy⟩ : ∃ y, chkI r.pd = y := ⟨_, rfl⟩
      rw [hy] at HCK
      have hq := HQ.out
      unfold finM at hq
      simp only [hy] at hq
      have HQ2 := Lib.hid hq
      simp only at HCK
      have HNP : Hid (r.pd = ⟨r.fs, r.cs, r.lk, r.ks⟩) := Lib.hid rfl
      unfold pv Rd.pd at HCK
      simp only at HCK
      clear hc0 hb hpat hq hy o hfi hD HR HQ
      go_upto_region 12 with fail
      go_wp2_with fail
      refine HCK.out.mono ?_
      rintro e w3 ⟨rfl, hb3⟩
      have c5 := HC0.out.below hb3
      have b5 := HBL.out.below hb3
      have HB3 := Lib.hid (HB.out.trans (hb3.mono HB.out.size))
      have HPT3 := Lib.hid (HPT.out.2.step hb3)
      by_cases hy : y3 = 0
      · subst hy
        have c6 := Lib.hid (c5.alloc (.cells #[.int .i64 y1, .int .i64 y2, .int .i64 0] 71))
        have b6 := Lib.hid (b5.alloc (.cells #[.int .i64 y1, .int .i64 y2, .int .i64 0] 71))
        have HB4 := Lib.hid (HB3.out.alloc (o := .cells #[.int .i64 y1, .int .i64 y2, .int .i64 0] 71) HB3.out.size)
        have HPT4 := Lib.hid (HPT3.out.step (below_alloc1 w3 (.cells #[.int .i64 y1, .int .i64 y2, .int .i64 0] 71)))
        have HQX : Hid (X = (r.pd, -1, 0)) := Lib.hid (by rw [HQ2.out]; exact if_pos rfl)
        clear c5 b5 hb3 HB3 HPT3 HQ2
        go_upto_region 15 with fail
        generalize w3.alloc (.cells #[.int .i64 y1, .int .i64 y2, .int .i64 0] 71) = w4 at *
        have HC6 := Lib.hid c6.out
        obtain ⟨c0, d0⟩ := HC6.out 0 _ rfl
        obtain ⟨c1, d1⟩ := HC6.out 1 _ rfl
        obtain ⟨c2, d2⟩ := HC6.out 2 _ rfl
        obtain ⟨c3, d3⟩ := HC6.out 3 _ rfl
        have z0 := (b6.out 0 _ rfl).1
        have z1 := (b6.out 1 _ rfl).1
        have z2 := (b6.out 2 _ rfl).1
        have z3 := (b6.out 3 _ rfl).1
        go_wp2_with fail
        have e := prog_get ⟨_, _, _, rfl⟩ ⟨_, _, _, rfl⟩ ⟨_, rfl⟩ ⟨_, _, _, rfl⟩ ((((HC6.out.set 0 (.slice D.fa r.fs.length D.fc)).set 1 (.slice D.ca r.cs.length D.cc)).set 2 (.int .i64 r.lk)).set 3 (.slice D.ka r.ks.length D.kc))
        have hbx : Below w.heap.size w ((((w4.setCell ⟨s0, 0, none⟩ (.slice D.fa r.fs.length D.fc)).setCell ⟨s0, 1, none⟩ (.slice D.ca r.cs.length D.cc)).setCell ⟨s0, 2, none⟩ (.int .i64 r.lk)).setCell ⟨s0, 3, none⟩ (.slice D.ka r.ks.length D.kc)) := (((HB4.out.setCell (by have := HS0.out; simp; omega) _).setCell (by have := HS0.out; simp; omega) _).setCell (by have := HS0.out; simp; omega) _).setCell (by have := HS0.out; simp; omega) _
        exact bodyPost_ret (v := .tuple #[pv D.fa r.fs.length D.fc D.ca r.cs.length D.cc r.lk D.ka r.ks.length D.kc, .int .i64 (-1), .int .i64 0]) (results_cell_two Tryd.results11 _ ⟨s0, 0, none⟩ rfl e) rfl
          ⟨_, by rw [HQX.out], by rw [HQX.out]; exact ⟨_, _, _, _, _, _, rfl, RdAt.pat HPT.out.1 (((((HPT4.out.set 0 (.slice D.fa r.fs.length D.fc)).set 1 (.slice D.ca r.cs.length D.cc)).set 2 (.int .i64 r.lk)).set 3 (.slice D.ka r.ks.length D.kc)).perm List.perm_middle.symm)⟩, hbx⟩
      · have hyb : (y3 == 0) = false := by simpa using hy
        have c6 := Lib.hid (c5.alloc (.cells #[.int .i64 y1, .int .i64 y2, .int .i64 y3] 71))
        obtain ⟨g, hgg⟩ : ∃ g, g = w3.heap.size := ⟨_, rfl⟩
        have f6 := Lib.hid (Blk.mk w3 [.int .i64 y1, .int .i64 y2, .int .i64 y3] 71 g hgg)
        have hgs : g ≠ s0 := by have := c5.lt (by decide); omega
        have HB4 := Lib.hid (HB3.out.alloc (o := .cells #[.int .i64 y1, .int .i64 y2, .int .i64 y3] 71) HB3.out.size)
        have HQX : Hid (X = (⟨[], [], 0, []⟩, -1, y3)) := Lib.hid (by rw [HQ2.out]; exact if_neg hy)
        clear c5 b5 hb3 HB3 HPT3 HQ2
        go_upto_region 14 with fail
        rw [← hgg]
        generalize w3.alloc (.cells #[.int .i64 y1, .int .i64 y2, .int .i64 y3] 71) = w4 at *
        have HC6 := Lib.hid (c6.out.below (below_drew1 w4))
        have HF6 := Lib.hid (f6.out.below (below_drew1 w4))
        have HB5 := Lib.hid (HB4.out.drew)
        obtain ⟨c0, d0⟩ := c6.out 0 _ rfl
        obtain ⟨c1, d1⟩ := c6.out 1 _ rfl
        obtain ⟨c2, d2⟩ := c6.out 2 _ rfl
        obtain ⟨c3, d3⟩ := c6.out 3 _ rfl
        clear hgg
        refine wp_region_lexH (fun wx => wx.cell? ⟨g, 2, none⟩ = some (.int .i64 y3)) 6 (Array.replicate 6 false) (by kernel_rfl) (by kernel_rfl) ?_
        refine wpAnyH_seg 0 3 _ #[true, true, true, false, false, false] 3 (by kernel_rfl) noPanic_put ((HF6.out 2 _ rfl).1) (by kernel_rfl) ?_
        simp only [List.take_succ_cons, List.take_zero, List.drop_zero]
        repeat (first
          | (refine wpSegH_no (by rfl) ?_; simp only [Act.put, List.setIfInBounds_toArray, List.set_cons_zero, List.set_cons_succ])
          | (refine wpSegH_yes (by rfl) ?_; apply Exists.intro; apply And.intro; (· (intro wx hS; (try dsimp only at hS); go_simp; first | done | with_reducible rfl)); simp only [Act.put, List.setIfInBounds_toArray, List.set_cons_zero, List.set_cons_succ]))
        refine wpSegH_nil ?_
        refine wpAnyH_one 3 _ #[true, true, true, true, false, false] 2 (by kernel_rfl) (fun K hK => ?_)
        have HKK := Lib.hid hK
        clear hK
        simp only [List.drop_succ_cons, List.drop_zero]
        refine headH_mk (by rfl) ?_
        go_simp
        have hf7 := (((HF6.out.setFar hgs (c := s0) (k := 0) (v := .slice none 0 0)).setFar hgs (c := s0) (k := 1) (v := .slice none 0 0)).setFar hgs (c := s0) (k := 2) (v := .int .i64 0)).setFar hgs (c := s0) (k := 3) (v := .slice none 0 0)
        refine HKK.out _ _ ((hf7 2 _ rfl).1) ?_
        clear HKK K
        refine wpAnyH_seg 4 2 _ #[true, true, true, true, true, true] 0 (by kernel_rfl) noPanic_put ((hf7 2 _ rfl).1) (by kernel_rfl) ?_
        simp only [List.take_succ_cons, List.take_zero, List.drop_succ_cons, List.drop_zero]
        repeat (first
          | (refine wpSegH_no (by rfl) ?_; simp only [Act.put, List.setIfInBounds_toArray, List.set_cons_zero, List.set_cons_succ])
          | (refine wpSegH_yes (by rfl) ?_; apply Exists.intro; apply And.intro; (· (intro wx hS; (try dsimp only at hS); go_simp; first | done | with_reducible rfl)); simp only [Act.put, List.setIfInBounds_toArray, List.set_cons_zero, List.set_cons_succ]))
        refine wpSegH_nil ?_
        refine wpAnyH_done (by kernel_rfl) (NoPanic.normal ?_) _
        go_wp2_with fail
        have e := prog_get ⟨_, _, _, rfl⟩ ⟨_, _, _, rfl⟩ ⟨_, rfl⟩ ⟨_, _, _, rfl⟩ ((((HC6.out.set 0 (.slice none 0 0)).set 1 (.slice none 0 0)).set 2 (.int .i64 0)).set 3 (.slice none 0 0))
        exact bodyPost_ret (v := .tuple #[.agg #[.slice none 0 0, .slice none 0 0, .int .i64 0, .slice none 0 0], .int .i64 (-1), .int .i64 y3]) (results_cell_two Tryd.results11 _ ⟨s0, 0, none⟩ rfl e) rfl
          ⟨_, by rw [HQX.out], by rw [HQX.out]; exact PVal.none _, (((HB5.out.setCell (by have := HS0.out; simp; omega) _).setCell (by have := HS0.out; simp; omega) _).setCell (by have := HS0.out; simp; omega) _).setCell (by have := HS0.out; simp; omega) _⟩
end Go.Proofs.YtdeilfnfpgjnnaaDoor
