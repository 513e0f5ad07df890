/-
  A program's functions, each a row of one's own, as pieces of memory; programs that may be.
-/
import Derived.Test.YtdeilfnfpgjnnaaDoorWCRow
import Derived.Test.YtdeilfnfpgjnnaaDoorRowG2
import Derived.Test.YtdeilfnfpgjnnaaDoorWCRef5
open Go Go.RowKit
set_option linter.unusedVariables false
namespace Go.Proofs.YtdeilfnfpgjnnaaDoor
/-- A function's row: where it lies, its room, its instructions. -/
structure Fr where
  a : Option Addr
  c : Nat
  l : List In4
def frv (r : Fr) : Value := .slice r.a r.l.length r.c
def frs (rs : List Fr) : List Value := rs.map frv
def fra (r : Fr) : Asr := RowGA 4 r.a r.c r.l.length (inc r.l)
def fns (rs : List Fr) : List Asr := rs.map fra
theorem frs_len (rs : List Fr) : (frs rs).length = rs.length := by unfold frs; simp
theorem fns_set (rs : List Fr) (i : Nat) (r : Fr) : (fns rs).set i (fra r) = fns (rs.set i r) := by unfold fns; rw [List.map_set]
theorem frs_set (rs : List Fr) (i : Nat) (r : Fr) : (frs rs).set i (frv r) = frs (rs.set i r) := by unfold frs; rw [List.map_set]
theorem fns_at {rs : List Fr} {i : Nat} {r : Fr} (h : rs[i]? = some r) : (fns rs)[i]? = some (fra r) := by unfold fns; rw [List.getElem?_map, h]; rfl
theorem frs_at {rs : List Fr} {i : Nat} {r : Fr} (h : rs[i]? = some r) : (frs rs)[i]? = some (.slice r.a r.l.length r.c) := by unfold frs; rw [List.getElem?_map, h]; rfl
/-- One of the functions, out of all. -/
theorem Own.fnPick {w0 w : World} {rs : List Fr} {R : List Asr} (h : Own w0 w (fns rs ++ R)) {i : Nat} {r : Fr} (hi : rs[i]? = some r) :
    ∃ R', Own w0 w (fra r :: R') ∧ ∀ w' r', Own w0 w' (fra r' :: R') → Own w0 w' (fns (rs.set i r') ++ R) := by
  have hl : i < (fns rs).length := (List.getElem?_eq_some_iff.1 (fns_at hi)).1
  refine ⟨_, h.pick i (by rw [List.getElem?_append_left hl]; exact fns_at hi), fun w' r' h' => ?_⟩
  have := h'.back (by rw [List.length_append]; omega)
  rw [List.set_append_left _ _ hl, fns_set] at this
  exact this
/-- A new one takes an elder one's place. -/
theorem Own.fnPut {w0 w : World} {rs : List Fr} {R : List Asr} {r' : Fr} (h : Own w0 w (fra r' :: (fns rs ++ R))) {i : Nat} (hi : i < rs.length) : Own w0 w (fns (rs.set i r') ++ R) := by
  have hl : i < (fns rs).length := by unfold fns; simpa using hi
  have h1 : (fra r' :: (fns rs ++ R))[i + 1]? = some (fra rs[i]) := by
    rw [List.getElem?_cons_succ, List.getElem?_append_left hl]; exact fns_at (List.getElem?_eq_getElem hi)
  have h2 := (h.pick (i + 1) h1).drop
  rw [List.eraseIdx_cons_succ] at h2
  have h3 := h2.back (by rw [List.length_append]; omega)
  rw [List.set_append_left _ _ hl, fns_set] at h3
  exact h3
/-- A row is laid into the row of functions. -/
theorem Own.fnStore {w0 w : World} {rs : List Fr} {R : List Asr} {sb so sc gn : Nat} {r' : Fr} (h : Own w0 w (fra r' :: (fns rs ++ RowGA 1 (some ⟨sb, so, none⟩) sc gn (frs rs) :: R))) {i : Nat} (hi : i < rs.length) :
    Own w0 (w.setCell ⟨sb, so + i, none⟩ (frv r')) (fns (rs.set i r') ++ RowGA 1 (some ⟨sb, so, none⟩) sc gn (frs (rs.set i r')) :: R) := by
  have h1 := (h.perm (List.perm_middle (l₁ := fra r' :: fns rs))).rowSet i (frv r') (by rw [frs_len]; exact hi)
  rw [frs_set] at h1
  exact Own.fnPut (h1.perm (List.perm_middle (l₁ := fra r' :: fns rs)).symm) hi
/-- What stands beside is given up. -/
theorem Own.dropMid {w0 w : World} {A : Asr} {Y Z : List Asr} (h : Own w0 w (A :: (Y ++ Z))) : Own w0 w (A :: Z) := Own.dropL (As := Y) (h.perm List.perm_middle.symm)
theorem InsAt.of_cells {w : World} {a : Option Addr} {l : List In4} (h : CellsAt w a (inc l)) : InsAt w a l := fun i hi => by
  obtain ⟨b, off, rfl, hc⟩ := CellsAt.rec (f := fun x : In4 => [.int .i64 x.1, .int .i64 x.2.1, .int .i64 x.2.2.1, .int .i64 x.2.2.2]) (s := 4) (fun _ => rfl) h i hi (by omega)
  exact ⟨b, off, rfl, hc 0 _ rfl, hc 1 _ rfl, hc 2 _ rfl, hc 3 _ rfl⟩
theorem InsAt.take {w : World} {a : Option Addr} {l : List In4} (h : InsAt w a l) (m : Nat) : InsAt w a (l.take m) := fun i hi => by
  have hil : i < l.length := by rw [List.length_take] at hi; omega
  have e : (l.take m)[i] = l[i] := by simp
  rw [e]
  exact h i hil
theorem CasAt.of_cells {w : World} {a : Option Addr} {l : List Ca3} (h : CellsAt w a (cac l)) : CasAt w a l := fun i hi => by
  obtain ⟨b, off, rfl, hc⟩ := CellsAt.rec (f := fun x : Ca3 => [.int .i64 x.1, .int .i64 x.2.1, .int .i64 x.2.2]) (s := 3) (fun _ => rfl) h i hi (by omega)
  exact ⟨b, off, rfl, hc 0 _ rfl, hc 1 _ rfl, hc 2 _ rfl⟩
theorem IntsAt.of_cells {w : World} {a : Option Addr} {l : List Int} (h : CellsAt w a (intc l)) : IntsAt w a l := fun i hi => h.int i hi
theorem Own.funAtG {w0 w : World} {As R : List Asr} {fa : Option Addr} {fc n : Nat} {rs : List Fr} (h : Own w0 w (fns rs ++ R)) (hs : RowG 1 w fa fc n (frs rs)) : FunAt w fa (rs.map (·.l)) := fun i hi => by
  have hil : i < rs.length := by simpa using hi
  have hr := List.getElem?_eq_getElem hil
  obtain ⟨b, off, rfl, e⟩ := hs.cells i _ (frs_at hr)
  have hl : i < (fns rs).length := (List.getElem?_eq_some_iff.1 (fns_at hr)).1
  have hg := Own.rowG h i (s := 4) (a := rs[i].a) (cap := rs[i].c) (n := rs[i].l.length) (cs := inc rs[i].l) (by rw [List.getElem?_append_left hl]; exact fns_at hr)
  have e2 : (rs.map (·.l))[i] = rs[i].l := by simp
  refine ⟨b, off, rs[i].a, rs[i].c, rfl, ?_, ?_⟩
  · rw [e2]; exact e
  · rw [e2]; exact InsAt.of_cells hg.cells
theorem inc_len (l : List In4) : (inc l).length = l.length * 4 := flat_len _ 4 (fun _ => rfl) l
theorem cac_len (l : List Ca3) : (cac l).length = l.length * 3 := flat_len _ 3 (fun _ => rfl) l
theorem inc_one (l : List In4) : ∀ v ∈ inc l, v.oneCell' = true := fun v hv => by
  unfold inc at hv
  rw [List.mem_flatMap] at hv
  obtain ⟨x, _, hx⟩ := hv
  simp at hx
  rcases hx with rfl | rfl | rfl | rfl <;> rfl
theorem cac_one (l : List Ca3) : ∀ v ∈ cac l, v.oneCell' = true := fun v hv => by
  unfold cac at hv
  rw [List.mem_flatMap] at hv
  obtain ⟨x, _, hx⟩ := hv
  simp at hx
  rcases hx with rfl | rfl | rfl <;> rfl
/-- Instructions that may be. -/
def InsOK (nf nc nk : Nat) (lk : Int) (m : Nat) (l : List In4) : Prop := ∀ x ∈ l, insI nf nc nk lk m x = 0 ∧ i64b x.2.2.1
/-- A function that may be. -/
def FnOK (nf nc nk : Nat) (lk : Int) (l : List In4) : Prop := 1 ≤ l.length ∧ l.length ≤ 20 ∧ InsOK nf nc nk lk l.length l
/-- A program's parts that may be. -/
def PartOK (cs : List Int) (lk : Int) (ks : List Ca3) : Prop := cs.length ≤ 4 ∧ ks.length ≤ 8 ∧ 0 ≤ lk ∧ lk ≤ 3 ∧ (∀ c ∈ cs, 0 ≤ c ∧ c ≤ 3) ∧ ∀ k ∈ ks, casI cs.length k = true
theorem insF_ok {nf nc nk : Nat} {lk : Int} {m : Nat} : ∀ (l : List In4) (i : Nat), InsOK nf nc nk lk m l → insF nf nc nk lk m i l = (0, 0)
  | [], i, _ => rfl
  | x :: l, i, h => by
    unfold insF
    rw [if_pos (h x (by simp)).1]
    exact insF_ok l (i + 1) (fun y hy => h y (by simp [hy]))
theorem funI_ok {nf nc nk : Nat} {lk : Int} {l : List In4} (h : FnOK nf nc nk lk l) : funI nf nc nk lk l = (0, 0) := by
  obtain ⟨h1, h2, h3⟩ := h
  unfold funI
  rw [if_pos (by unfold wit; simp; omega)]
  exact insF_ok l 0 h3
theorem fnsI_ok {nf nc nk : Nat} {lk : Int} : ∀ (l : List (List In4)) (i : Nat), (∀ f ∈ l, FnOK nf nc nk lk f) → fnsI nf nc nk lk i l = (0, 0, 0)
  | [], i, _ => rfl
  | f :: l, i, h => by
    unfold fnsI
    rw [funI_ok (h f (by simp))]
    simp only [if_true]
    exact fnsI_ok l (i + 1) (fun g hg => h g (by simp [hg]))
theorem chkI_ok {fs : List (List In4)} {cs : List Int} {lk : Int} {ks : List Ca3} (hn : 1 ≤ fs.length ∧ fs.length ≤ 5) (hp : PartOK cs lk ks) (hf : ∀ f ∈ fs, FnOK fs.length cs.length ks.length lk f) : chkI ⟨fs, cs, lk, ks⟩ = (0, 0, 0) := by
  obtain ⟨p1, p2, p3, p4, p5, p6⟩ := hp
  have e1 : cs.all (fun r => wit r 0 16) = true := List.all_eq_true.2 fun c hc => by have := p5 c hc; unfold wit; simp; omega
  have e2 : ks.all (casI cs.length) = true := List.all_eq_true.2 fun k hk => p6 k hk
  have e : parI fs.length cs lk ks = 0 := by
    unfold parI
    rw [if_pos (by unfold wit; simp; omega), e1, e2]
    rfl
  unfold chkI
  simp only
  rw [if_pos e]
  exact fnsI_ok fs 0 hf
end Go.Proofs.YtdeilfnfpgjnnaaDoor
