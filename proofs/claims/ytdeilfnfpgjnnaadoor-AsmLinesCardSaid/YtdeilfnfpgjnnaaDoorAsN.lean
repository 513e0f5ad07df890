/-
  What is read is told whole by its text; empty lines.
-/
import Derived.Test.YtdeilfnfpgjnnaaDoorAsW10
open Go Go.RowKit
set_option linter.unusedVariables false
set_option linter.unusedSimpArgs false
namespace Go.Proofs.YtdeilfnfpgjnnaaDoor
def tl (ls : List By) : Nat := (ls.map (fun p => p.length + 1)).sum
theorem tl_app (a b : List By) : tl (a ++ b) = tl a + tl b := by unfold tl; rw [List.map_append, List.sum_append]
theorem tl_cons (a : By) (b : List By) : tl (a :: b) = a.length + 1 + tl b := by unfold tl; rw [List.map_cons, List.sum_cons]
theorem tl_nil : tl [] = 0 := rfl
theorem text_tl (ls : List By) : (ls.flatMap (· ++ [10])).length = tl ls := by
  induction ls with
  | nil => rfl
  | cons a l ih => rw [List.flatMap_cons, List.length_append, ih, tl_cons]; simp
theorem opAt_some : ∀ (L : List (By × Nat)) (i : Nat) (w : By) (k n : Nat), opAt i L w = some (k, n) → ∃ j, k = i + j ∧ L[j]? = some (w, n)
  | [], i, w, k, n, h => by simp [opAt] at h
  | x :: L, i, w, k, n, h => by
    rw [opAt] at h
    split at h
    · rename_i hx
      simp only [Option.some.injEq, Prod.mk.injEq] at h
      exact ⟨0, by omega, by rw [List.getElem?_cons_zero, ← hx, ← h.2]⟩
    · obtain ⟨j, h1, h2⟩ := opAt_some L (i + 1) w k n h
      exact ⟨j + 1, by omega, by rw [List.getElem?_cons_succ]; exact h2⟩
theorem numsM_len : ∀ (ws : List By) (n : Nat), (numsM ws n).2 = 0 → (numsM ws n).1.length = n ∧ ws.length = n ∧ (∀ v ∈ (numsM ws n).1, i64b v) ∧ (numsM ws n).1.map Lib.itoa = ws
  | ws, 0, h => by
    simp only [numsM] at h
    have : ws.length = 0 := by
      by_cases hw : ws.length = 0
      · exact hw
      · rw [if_neg hw] at h; simp at h
    have h0 : ws = [] := List.eq_nil_of_length_eq_zero this
    subst h0
    simp [numsM]
  | [], n + 1, h => by simp [numsM] at h
  | w :: ws, n + 1, h => by
    rw [numsM] at h ⊢
    by_cases hw : (numM w).2 = 0
    · rw [if_pos hw] at h ⊢
      obtain ⟨h1, h2, h3, h4⟩ := numsM_len ws n h
      refine ⟨by simp [h1], by simp [h2], fun v hv => ?_, by rw [List.map_cons, h4, itoa_numM w hw]⟩
      rcases List.mem_cons.1 hv with rfl | hv
      · exact numM_fits w
      · exact h3 v hv
    · rw [if_neg hw] at h
      exact absurd h hw
/-- A line is its word and its numbers. -/
theorem line_is (l w : By) (ws : List By) (n : Nat) (hs : spl 32 l = w :: ws) (h : (numsM ws n).2 = 0) : (lineT w (numsM ws n).1).length = l.length := by
  have h1 := spl_len 32 l
  rw [hs] at h1
  obtain ⟨_, _, _, h4⟩ := numsM_len ws n h
  unfold lineT
  rw [h4, List.length_append]
  have h2 : ∀ L : List By, (L.flatMap (32 :: ·)).length = (L.map (fun p => p.length + 1)).sum := fun L => by
    induction L with
    | nil => rfl
    | cons a L ih => rw [List.flatMap_cons, List.length_append, ih]; simp
  rw [h2]
  simp only [List.map_cons, List.sum_cons] at h1
  omega
theorem x3_take_all (l : List Int) (h : l.length ≤ 3) : [x3 l 0, x3 l 1, x3 l 2].take l.length = l := by
  match l, h with
  | [], _ => rfl
  | [a], _ => rfl
  | [a, b], _ => rfl
  | [a, b, c], _ => rfl
theorem x3_take_all2 (l : List Int) (h : l.length ≤ 2) : [x3 l 0, x3 l 1].take l.length = l := by
  match l, h with
  | [], _ => rfl
  | [a], _ => rfl
  | [a, b], _ => rfl
theorem x3_i64 (l : List Int) (h : ∀ v ∈ l, i64b v) (i : Nat) : i64b (x3 l i) := by
  unfold x3
  rw [List.getD_eq_getElem?_getD]
  cases hg : l[i]? with
  | none => exact ⟨by simp, by simp⟩
  | some v => exact h v (List.mem_of_getElem? hg)
theorem x3_zero (l : List Int) (i : Nat) (h : l.length ≤ i) : x3 l i = 0 := by
  unfold x3
  rw [List.getD_eq_getElem?_getD, List.getElem?_eq_none h]
  rfl
/-- What has been read, told whole. -/
structure RInv (r : Rd) : Prop where
  cs : ∀ c ∈ r.cs, i64b c
  lk : i64b r.lk
  tk : r.told = false → r.lk = 0
  ks : ∀ k ∈ r.ks, CasTidy k
  fs : ∀ f ∈ r.fs, ∀ x ∈ f, InsTidy x
def rtl (r : Rd) : Nat := tl (r.cs.map (fun c => lineT wChan [c])) + ((if r.told then (lineT wLocks [r.lk]).length + 1 else 0) + (tl (r.ks.map casT) + tl (r.fs.flatMap funT)))
theorem rtl_addI (r : Rd) (x : In4) (h : 0 < r.fs.length) : rtl (addI r x) = rtl r + ((insT x).length + 1) := by
  have hk : r.fs.length - 1 < r.fs.length := by omega
  have e : r.fs.getD (r.fs.length - 1) [] = r.fs[r.fs.length - 1] := by rw [List.getD_eq_getElem?_getD, List.getElem?_eq_getElem hk]; rfl
  have hset : ∀ (L : List (List In4)) (i : Nat) (hi : i < L.length), tl ((L.set i (L[i] ++ [x])).flatMap funT) = tl (L.flatMap funT) + ((insT x).length + 1) := fun L => by
    induction L with
    | nil => intro i hi; simp at hi
    | cons f L ih =>
      intro i hi
      cases i with
      | zero =>
        simp only [List.set_cons_zero, List.flatMap_cons, List.getElem_cons_zero]
        rw [tl_app, tl_app]
        unfold funT
        rw [List.map_append, tl_cons, tl_cons, tl_app]
        simp only [List.map_cons, List.map_nil]
        rw [tl_cons, tl_nil]
        omega
      | succ i =>
        simp only [List.set_cons_succ, List.flatMap_cons, List.getElem_cons_succ]
        rw [tl_app, tl_app, ih i (by simpa using hi)]
        omega
  unfold rtl addI
  simp only
  rw [e, hset r.fs _ hk]
  omega
theorem inv_addI (r : Rd) (x : In4) (h : RInv r) (hx : InsTidy x) : RInv (addI r x) where
  cs := h.cs
  lk := h.lk
  tk := h.tk
  ks := h.ks
  fs := fun f hf y hy => by
    unfold addI at hf
    simp only at hf
    rcases List.mem_or_eq_of_mem_set hf with h1 | h1
    · exact h.fs f h1 y hy
    · subst h1
      rcases List.mem_append.1 hy with h2 | h2
      · by_cases hl : r.fs.length - 1 < r.fs.length
        · rw [List.getD_eq_getElem?_getD, List.getElem?_eq_getElem hl] at h2
          exact h.fs _ (List.getElem_mem hl) y h2
        · rw [List.getD_eq_getElem?_getD, List.getElem?_eq_none (by omega)] at h2
          simp at h2
      · simp at h2; subst h2; exact hx
theorem line_inv (r : Rd) (l : By) (h : RInv r) (h0 : (lineM r l).2 = 0) : RInv (lineM r l).1 ∧ rtl (lineM r l).1 = rtl r + (l.length + 1) := by
  obtain ⟨w, ws, hw⟩ : ∃ w ws, spl 32 l = w :: ws := by
    cases hp : spl 32 l with
    | nil => exact absurd hp (spl_ne 32 l)
    | cons a b => exact ⟨a, b, rfl⟩
  have hM : lineM r l = wordM r w ws := by unfold lineM; rw [hw]; rfl
  rw [hM] at h0 ⊢
  have LI := fun n hn => line_is l w ws n hw hn
  unfold wordM at h0 ⊢
  by_cases b1 : w = wFunc
  · rw [if_pos b1] at h0 ⊢
    unfold withN at h0 ⊢
    by_cases hn : (numsM ws 0).2 = 0
    · rw [if_pos hn] at h0 ⊢
      have hl := LI 0 hn
      have e0 : (numsM ws 0).1 = [] := by cases ws <;> rfl
      rw [e0, b1] at hl
      have e1 : lineT wFunc [] = wFunc := by unfold lineT; simp
      rw [e1] at hl
      refine ⟨⟨h.cs, h.lk, h.tk, h.ks, fun f hf x hx => ?_⟩, ?_⟩
      · simp only [List.mem_append, List.mem_singleton] at hf
        rcases hf with hf | rfl
        · exact h.fs f hf x hx
        · simp at hx
      · unfold rtl
        simp only
        rw [List.flatMap_append, tl_app]
        have : tl (([[]] : List (List In4)).flatMap funT) = wFunc.length + 1 := rfl
        rw [this]
        omega
    · rw [if_neg hn] at h0; exact absurd h0 hn
  · rw [if_neg b1] at h0 ⊢
    by_cases b2 : 0 < r.fs.length
    · rw [if_pos b2] at h0 ⊢
      cases ho : opAt 0 opsL w with
      | none => rw [ho] at h0; simp at h0
      | some p =>
        obtain ⟨op, n⟩ := p
        rw [ho] at h0
        simp only at h0 ⊢
        unfold withN at h0 ⊢
        by_cases hn : (numsM ws n).2 = 0
        · rw [if_pos hn] at h0 ⊢
          obtain ⟨j, hj, hL⟩ := opAt_some opsL 0 w op n ho
          have hop : op < 23 := by have := (List.getElem?_eq_some_iff.1 hL).1; simp [opsL] at this; omega
          have hopw : opW (op : Int) = (w, n) := by
            have e : opW (op : Int) = opsL.getD op ([], 0) := rfl
            rw [e, List.getD_eq_getElem?_getD]
            have : op = j := by omega
            rw [this, hL]
            rfl
          have hn3 : n ≤ 3 := by
            have := (opW_ok (op : Int) (by omega)).2.2.2.2.1
            rw [hopw] at this
            exact this
          obtain ⟨n1, n2, n3, n4⟩ := numsM_len ws n hn
          have hl := LI n hn
          have hins : insT ((op : Int), x3 (numsM ws n).1 0, x3 (numsM ws n).1 1, x3 (numsM ws n).1 2) = lineT w (numsM ws n).1 := by
            unfold insT
            simp only [hopw]
            have := x3_take_all (numsM ws n).1 (by omega)
            rw [n1] at this
            rw [this]
          refine ⟨inv_addI r _ h ⟨⟨by simp, by simp; omega⟩, x3_i64 _ n3 _, x3_i64 _ n3 _, x3_i64 _ n3 _, ?_, ?_, ?_⟩, by rw [rtl_addI r _ b2, hins, hl]⟩
          · rw [hopw]; intro hh; exact x3_zero _ _ (by simp only at hh; omega)
          · rw [hopw]; intro hh; exact x3_zero _ _ (by simp only at hh; omega)
          · rw [hopw]; intro hh; exact x3_zero _ _ (by simp only at hh; omega)
        · rw [if_neg hn] at h0; exact absurd h0 hn
    · rw [if_neg b2] at h0 ⊢
      by_cases b3 : w = wChan
      · rw [if_pos b3] at h0 ⊢
        unfold withN at h0 ⊢
        by_cases hn : (numsM ws 1).2 = 0
        · rw [if_pos hn] at h0 ⊢
          obtain ⟨n1, n2, n3, n4⟩ := numsM_len ws 1 hn
          have hl := LI 1 hn
          obtain ⟨c, hc⟩ : ∃ c, (numsM ws 1).1 = [c] := List.length_eq_one_iff.1 n1
          rw [hc] at n3 hl ⊢
          have ex : x3 [c] 0 = c := rfl
          simp only [ex]
          refine ⟨⟨fun x hx => ?_, h.lk, h.tk, h.ks, h.fs⟩, ?_⟩
          · simp only [List.mem_append, List.mem_singleton] at hx
            rcases hx with hx | rfl
            · exact h.cs x hx
            · exact n3 x (by simp)
          · unfold rtl
            simp only
            rw [List.map_append, tl_app]
            simp only [List.map_cons, List.map_nil]
            rw [tl_cons, tl_nil, ← b3, hl]
            omega
        · rw [if_neg hn] at h0; exact absurd h0 hn
      · rw [if_neg b3] at h0 ⊢
        by_cases b4 : w = wLocks
        · rw [if_pos b4] at h0 ⊢
          by_cases hn : (numsM ws 1).2 = 0
          · rw [if_pos hn] at h0 ⊢
            by_cases ht : r.told = true
            · rw [if_pos ht] at h0; simp at h0
            · rw [if_neg ht] at h0 ⊢
              obtain ⟨n1, n2, n3, n4⟩ := numsM_len ws 1 hn
              have hl := LI 1 hn
              obtain ⟨c, hc⟩ : ∃ c, (numsM ws 1).1 = [c] := List.length_eq_one_iff.1 n1
              rw [hc] at n3 hl ⊢
              have ex : x3 [c] 0 = c := rfl
              rw [ex]
              refine ⟨⟨h.cs, n3 c (by simp), fun hh => by simp at hh, h.ks, h.fs⟩, ?_⟩
              unfold rtl
              simp only
              rw [if_pos trivial, if_neg ht, ← b4, hl]
              omega
          · rw [if_neg hn] at h0; exact absurd h0 hn
        · rw [if_neg b4] at h0 ⊢
          cases ho : opAt 0 casesL w with
          | none => rw [ho] at h0; simp at h0
          | some p =>
            obtain ⟨op, n⟩ := p
            rw [ho] at h0
            simp only at h0 ⊢
            unfold withN at h0 ⊢
            by_cases hn : (numsM ws n).2 = 0
            · rw [if_pos hn] at h0 ⊢
              obtain ⟨j, hj, hL⟩ := opAt_some casesL 0 w op n ho
              have hop : op < 3 := by have := (List.getElem?_eq_some_iff.1 hL).1; simp [casesL] at this; omega
              have hopw : caW (op : Int) = (w, n) := by
                have e : caW (op : Int) = casesL.getD op ([], 0) := rfl
                rw [e, List.getD_eq_getElem?_getD]
                have : op = j := by omega
                rw [this, hL]
                rfl
              have hn3 : n ≤ 2 := by
                have := (caW_ok (op : Int) (by omega)).2.2.2.2.2.2.1
                rw [hopw] at this
                exact this
              obtain ⟨n1, n2, n3, n4⟩ := numsM_len ws n hn
              have hl := LI n hn
              have hins : casT ((op : Int), x3 (numsM ws n).1 0, x3 (numsM ws n).1 1) = lineT w (numsM ws n).1 := by
                unfold casT
                simp only [hopw]
                have := x3_take_all2 (numsM ws n).1 (by omega)
                rw [n1] at this
                rw [this]
              refine ⟨⟨h.cs, h.lk, h.tk, fun k hk => ?_, h.fs⟩, ?_⟩
              · simp only [List.mem_append, List.mem_singleton] at hk
                rcases hk with hk | rfl
                · exact h.ks k hk
                · refine ⟨⟨by simp, by simp; omega⟩, x3_i64 _ n3 _, x3_i64 _ n3 _, ?_, ?_⟩
                  · rw [hopw]; intro hh; exact x3_zero _ _ (by simp only at hh; omega)
                  · rw [hopw]; intro hh; exact x3_zero _ _ (by simp only at hh; omega)
              · unfold rtl
                simp only
                rw [List.map_append, tl_app]
                simp only [List.map_cons, List.map_nil]
                rw [tl_cons, tl_nil, hins, hl]
                omega
            · rw [if_neg hn] at h0; exact absurd h0 hn
theorem lines_inv : ∀ (L : List By) (i m : Nat) (r r' : Rd), RInv r → Fit r m → linesM i L r = (r', none) → RInv r' ∧ rtl r' ≤ rtl r + tl L ∧ Fit r' (m + L.length)
  | [], i, m, r, r', h, hf, e => by
    simp only [linesM, Prod.mk.injEq] at e
    obtain ⟨rfl, _⟩ := e
    exact ⟨h, by omega, by simpa using hf⟩
  | l :: L, i, m, r, r', h, hf, e => by
    rw [linesM] at e
    by_cases hl : l = []
    · rw [if_pos hl] at e
      obtain ⟨h1, h2, h3⟩ := lines_inv L (i + 1) m r r' h hf e
      exact ⟨h1, by rw [tl_cons]; omega, fit_mono h3 (by simp)⟩
    · rw [if_neg hl] at e
      by_cases h0 : (lineM r l).2 = 0
      · rw [if_pos h0] at e
        obtain ⟨g1, g2⟩ := line_inv r l h h0
        obtain ⟨h1, h2, h3⟩ := lines_inv L (i + 1) (m + 1) _ r' g1 (fit_line l hf) e
        exact ⟨h1, by rw [tl_cons]; omega, fit_mono h3 (by simp; omega)⟩
      · rw [if_neg h0] at e
        simp at e
/-- What is read from a text, and the text of it. -/
theorem parse_good (s : By) (d : PD) (a : Int) (hs : s.length ≤ 20000) (h : parseM s = (d, a, 0)) : a = -1 ∧ PTidy d ∧ (chkI d).2.2 = 0 ∧ (textM d).length ≤ s.length + 1 ∧ (d.cs.length ≤ 1000000 ∧ d.ks.length ≤ 1000000 ∧ d.fs.length ≤ 1000000 ∧ ∀ f ∈ d.fs, f.length ≤ 1000000) := by
  unfold parseM at h
  rw [if_neg (by omega)] at h
  obtain ⟨⟨r, o⟩, hq⟩ : ∃ q, linesM 0 (spl 10 s) rd0 = q := ⟨_, rfl⟩
  rw [hq] at h
  unfold finM at h
  cases o with
  | some p =>
    obtain ⟨i, e⟩ := p
    simp only [Prod.mk.injEq] at h
    obtain ⟨_, _, rfl⟩ := h
    exfalso
    have bad : ∀ (L : List By) (i : Nat) (r r' : Rd) (k : Nat), linesM i L r = (r', some (k, 0)) → False := fun L => by
      induction L with
      | nil => intro i r r' k h; simp [linesM] at h
      | cons l L ih =>
        intro i r r' k h
        rw [linesM] at h
        split at h
        · exact ih _ _ _ _ h
        · split at h
          · exact ih _ _ _ _ h
          · rename_i h1 h2
            simp only [Prod.mk.injEq, Option.some.injEq] at h
            exact h2 h.2.2
    exact bad _ _ _ _ _ hq
  | none =>
    simp only at h
    by_cases hc : (chkI r.pd).2.2 = 0
    · rw [if_pos hc] at h
      simp only [Prod.mk.injEq] at h
      obtain ⟨rfl, rfl, _⟩ := h
      obtain ⟨h1, h2, h3⟩ := lines_inv (spl 10 s) 0 0 rd0 r ⟨by simp [rd0], ⟨by simp [rd0], by simp [rd0]⟩, fun _ => rfl, by simp [rd0], by simp [rd0]⟩ (by unfold Fit rd0; simp) hq
      have hsl := spl_len 10 s
      have hle := (spl_all 10 s s.length (Nat.le_refl _)).1
      have hlk : 0 ≤ r.lk := by
        have hp : parI r.pd.fs.length r.pd.cs r.pd.lk r.pd.ks = 0 := by
          unfold chkI at hc
          by_cases hp : parI r.pd.fs.length r.pd.cs r.pd.lk r.pd.ks = 0
          · exact hp
          · rw [if_neg hp] at hc; exact absurd hc hp
        exact (parI_zero hp).2.2.2.2.1
      refine ⟨rfl, ⟨h1.cs, h1.lk, hlk, h1.ks, h1.fs⟩, hc, ?_, ?_⟩
      · have e1 : rtl rd0 = 0 := rfl
        have e2 : (textM r.pd).length ≤ rtl r := by
          unfold textM
          rw [text_tl]
          unfold progT rtl
          rw [tl_app, tl_app, tl_app]
          change tl (r.cs.map (fun c => lineT wChan [c])) + (tl (if 0 < r.pd.lk then [lineT wLocks [r.pd.lk]] else []) + (tl (r.ks.map casT) + tl (r.fs.flatMap funT))) ≤ _
          have : tl (if 0 < r.pd.lk then [lineT wLocks [r.pd.lk]] else []) ≤ if r.told = true then (lineT wLocks [r.lk]).length + 1 else 0 := by
            by_cases hl : 0 < r.pd.lk
            · rw [if_pos hl]
              by_cases ht : r.told = true
              · rw [if_pos ht, tl_cons, tl_nil]; exact Nat.le_refl _
              · have := h1.tk (by simpa using ht)
                have e9 : r.pd.lk = r.lk := rfl
                omega
            · rw [if_neg hl, tl_nil]; omega
          omega
        unfold tl at h2
        omega
      · have := h3.1; have := h3.2.1; have := h3.2.2.1; have h4 := h3.2.2.2
        simp only [Rd.pd]
        exact ⟨by omega, by omega, by omega, fun f hf => by have := h4 f hf; omega⟩
    · rw [if_neg hc] at h
      simp only [Prod.mk.injEq] at h
      exact absurd h.2.2 hc
/-! Empty lines. -/
theorem lines_empty : ∀ (n i : Nat) (L : List By) (r : Rd), linesM i (List.replicate n [] ++ L) r = linesM (i + n) L r
  | 0, i, L, r => rfl
  | n + 1, i, L, r => by
    rw [List.replicate_succ, List.cons_append, linesM, if_pos rfl, lines_empty n (i + 1) L r]
    congr 1
    omega
theorem lines_shift : ∀ (L : List By) (i n : Nat) (r : Rd), linesM (i + n) L r = ((linesM i L r).1, (linesM i L r).2.map (fun p => (p.1 + n, p.2)))
  | [], i, n, r => rfl
  | l :: L, i, n, r => by
    rw [linesM, linesM]
    have e : i + n + 1 = (i + 1) + n := by omega
    split
    · rw [e, lines_shift L (i + 1) n r]
    · split
      · rw [e, lines_shift L (i + 1) n _]
      · rfl
/-- So many empty lines ahead. -/
theorem parse_empty (s : By) (n : Nat) (hs : s.length + n ≤ 20000) : parseM (List.replicate n 10 ++ s) = ((parseM s).1, if (parseM s).2.1 < 0 then (parseM s).2.1 else (parseM s).2.1 + n, (parseM s).2.2) := by
  unfold parseM
  rw [if_neg (by simp; omega), if_neg (by omega), spl_rep, lines_empty, lines_shift]
  obtain ⟨⟨r, o⟩, hq⟩ : ∃ q, linesM 0 (spl 10 s) rd0 = q := ⟨_, rfl⟩
  rw [hq]
  unfold finM
  cases o with
  | none =>
    simp only [Option.map_none]
    split
    · rfl
    · rfl
  | some p =>
    obtain ⟨i, e⟩ := p
    simp only [Option.map_some]
    rw [if_neg (by omega)]
    congr 2
theorem parse_at (s : By) (d : PD) (a e : Int) (h : parseM s = (d, a, e)) : a = -1 ∨ 0 ≤ a ∧ a ≤ s.length + 1 := by
  unfold parseM at h
  split at h
  · simp only [Prod.mk.injEq] at h
    right; omega
  · obtain ⟨⟨r, o⟩, hq⟩ : ∃ q, linesM 0 (spl 10 s) rd0 = q := ⟨_, rfl⟩
    rw [hq] at h
    unfold finM at h
    cases o with
    | none =>
      simp only at h
      split at h <;> (simp only [Prod.mk.injEq] at h; left; omega)
    | some p =>
      obtain ⟨i, e⟩ := p
      simp only [Prod.mk.injEq] at h
      right
      have hb : ∀ (L : List By) (i : Nat) (r r' : Rd) (k : Nat) (e : Int), linesM i L r = (r', some (k, e)) → k ≤ i + L.length := fun L => by
        induction L with
        | nil => intro i r r' k e h; simp [linesM] at h
        | cons l L ih =>
          intro i r r' k e h
          rw [linesM] at h
          simp only [List.length_cons]
          split at h
          · have := ih _ _ _ _ _ h; omega
          · split at h
            · have := ih _ _ _ _ _ h; omega
            · simp only [Prod.mk.injEq, Option.some.injEq] at h
              omega
      have := hb _ _ _ _ _ _ hq
      have hle := (spl_all 10 s s.length (Nat.le_refl _)).1
      omega
end Go.Proofs.YtdeilfnfpgjnnaaDoor
