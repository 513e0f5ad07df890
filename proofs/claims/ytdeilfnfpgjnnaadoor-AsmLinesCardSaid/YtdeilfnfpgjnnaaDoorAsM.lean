/-
  The text of a program, read: plain lists. No program is named here.
-/
import Derived.Test.YtdeilfnfpgjnnaaDoorAsM0
import Derived.Test.YtdeilfnfpgjnnaaDoorWCode5
open Go Go.RowKit
set_option linter.unusedVariables false
set_option linter.unusedSimpArgs false
namespace Go.Proofs.YtdeilfnfpgjnnaaDoor
def wFunc : By := [102, 117, 110, 99]
def wChan : By := [99, 104, 97, 110]
def wLocks : By := [108, 111, 99, 107, 115]
def wRecv : By := [114, 101, 99, 118]
def wSend : By := [115, 101, 110, 100]
def wElse : By := [101, 108, 115, 101]
/-- The words of a select's cases. -/
def casesL : List (By × Nat) := [(wRecv, 2), (wSend, 2), (wElse, 0)]
/-- The words of the ops. -/
def opsL : List (By × Nat) := [([110, 111, 112], 0), ([99, 111, 110, 115, 116], 2), ([109, 111, 118, 101], 2), ([97, 100, 100], 3), ([115, 117, 98], 3), ([109, 117, 108], 3), ([108, 101, 115, 115], 3), ([106, 117, 109, 112], 1), ([105, 102], 2), ([99, 97, 108, 108], 3), ([114, 101, 116, 117, 114, 110], 1), ([115, 112, 97, 119, 110], 3), ([121, 105, 101, 108, 100], 0), ([115, 101, 110, 100], 2), ([114, 101, 99, 118], 3), ([99, 108, 111, 115, 101], 1), ([115, 101, 108, 101, 99, 116], 3), ([115, 108, 101, 101, 112], 1), ([108, 111, 99, 107], 1), ([117, 110, 108, 111, 99, 107], 1), ([101, 109, 105, 116], 1), ([114, 97, 110, 100], 2), ([116, 114, 97, 112], 1)]
/-- The place of a word, and how many numbers it has. -/
def opAt : Nat → List (By × Nat) → By → Option (Nat × Nat)
  | _, [], _ => none
  | i, x :: l, w => if x.1 = w then some (i, x.2) else opAt (i + 1) l w
/-- Just so many numbers: those that were read; the error's number. -/
def numsM : List By → Nat → List Int × Int
  | ws, 0 => ([], if ws.length = 0 then 0 else 1)
  | [], _ + 1 => ([], 2)
  | w :: ws, n + 1 => if (numM w).2 = 0 then ((numM w).1 :: (numsM ws n).1, (numsM ws n).2) else ([], (numM w).2)
/-- What was read so far. -/
structure Rd where
  fs : List (List In4)
  cs : List Int
  lk : Int
  ks : List Ca3
  told : Bool
def rd0 : Rd := ⟨[], [], 0, [], false⟩
def Rd.pd (r : Rd) : PD := ⟨r.fs, r.cs, r.lk, r.ks⟩
def x3 (l : List Int) (i : Nat) : Int := l.getD i 0
def addI (r : Rd) (x : In4) : Rd := { r with fs := r.fs.set (r.fs.length - 1) (r.fs.getD (r.fs.length - 1) [] ++ [x]) }
/-- What a line behind its word does, where just so many numbers stand there. -/
def withN (r : Rd) (n : List Int × Int) (f : List Int → Rd) : Rd × Int := if n.2 = 0 then (f n.1, 0) else (r, n.2)
def wordM (r : Rd) (w : By) (ws : List By) : Rd × Int :=
  if w = wFunc then withN r (numsM ws 0) fun _ => { r with fs := r.fs ++ [[]] }
  else if 0 < r.fs.length then match opAt 0 opsL w with
    | none => (r, 9)
    | some (op, n) => withN r (numsM ws n) fun x => addI r ((op : Int), x3 x 0, x3 x 1, x3 x 2)
  else if w = wChan then withN r (numsM ws 1) fun x => { r with cs := r.cs ++ [x3 x 0] }
  else if w = wLocks then (if (numsM ws 1).2 = 0 then (if r.told then (r, 11) else ({ r with lk := x3 (numsM ws 1).1 0, told := true }, 0)) else (r, (numsM ws 1).2))
  else match opAt 0 casesL w with
    | none => (r, 9)
    | some (way, n) => withN r (numsM ws n) fun x => { r with ks := r.ks ++ [((way : Int), x3 x 0, x3 x 1)] }
def lineM (r : Rd) (l : By) : Rd × Int := wordM r ((spl 32 l).headD []) (spl 32 l).tail
/-- All lines: what was read, or which one is wrong, and how. -/
def linesM : Nat → List By → Rd → Rd × Option (Nat × Int)
  | _, [], r => (r, none)
  | i, l :: ls, r => if l = [] then linesM (i + 1) ls r else if (lineM r l).2 = 0 then linesM (i + 1) ls (lineM r l).1 else (r, some (i, (lineM r l).2))
/-- The program, the line, the error's number. -/
def finM (q : Rd × Option (Nat × Int)) : PD × Int × Int := match q with
  | (_, some (i, e)) => (⟨[], [], 0, []⟩, (i : Int), e)
  | (r, none) => if (chkI r.pd).2.2 = 0 then (r.pd, -1, 0) else (⟨[], [], 0, []⟩, -1, (chkI r.pd).2.2)
def parseM (s : By) : PD × Int × Int :=
  if 20000 < s.length then (⟨[], [], 0, []⟩, 0, 3) else finM (linesM 0 (spl 10 s) rd0)
/-- A line's text, of its word and numbers. -/
def lineT (w : By) (ns : List Int) : By := w ++ (ns.map Lib.itoa).flatMap (32 :: ·)
def opW (o : Int) : By × Nat := opsL.getD o.toNat ([], 0)
def caW (o : Int) : By × Nat := casesL.getD o.toNat ([], 0)
def insT (x : In4) : By := lineT (opW x.1).1 ([x.2.1, x.2.2.1, x.2.2.2].take (opW x.1).2)
def casT (x : Ca3) : By := lineT (caW x.1).1 ([x.2.1, x.2.2].take (caW x.1).2)
def funT (f : List In4) : List By := wFunc :: f.map insT
/-- A program's lines. -/
def progT (d : PD) : List By := d.cs.map (fun c => lineT wChan [c]) ++ ((if 0 < d.lk then [lineT wLocks [d.lk]] else []) ++ (d.ks.map casT ++ d.fs.flatMap funT))
def textM (d : PD) : By := (progT d).flatMap (· ++ [10])
/-! Reading what was written. -/
theorem numsM_ok : ∀ (ns : List Int), (∀ v ∈ ns, i64b v) → numsM (ns.map Lib.itoa) ns.length = (ns, 0)
  | [], _ => rfl
  | v :: ns, h => by
    have hv := h v (by simp)
    rw [List.map_cons, List.length_cons]
    unfold numsM
    rw [numM_itoa v hv.1 hv.2, numsM_ok ns (fun x hx => h x (by simp [hx]))]
    rfl
theorem spl_lineT (w : By) (ns : List Int) (h : (32 : UInt8) ∉ w) : spl 32 (lineT w ns) = w :: ns.map Lib.itoa :=
  spl_words 32 w _ h (fun x hx => by
    obtain ⟨v, _, rfl⟩ := List.mem_map.1 hx
    exact itoa_no v 32 (.inl rfl))
theorem lineM_lineT (r : Rd) (w : By) (ns : List Int) (h : (32 : UInt8) ∉ w) : lineM r (lineT w ns) = wordM r w (ns.map Lib.itoa) := by
  unfold lineM
  rw [spl_lineT w ns h]
  rfl
theorem lineT_ne (w : By) (ns : List Int) (h : w ≠ []) : lineT w ns ≠ [] := by
  unfold lineT
  cases w with
  | nil => exact absurd rfl h
  | cons c w => simp
theorem lineT_no (w : By) (ns : List Int) (h : (10 : UInt8) ∉ w) : (10 : UInt8) ∉ lineT w ns := by
  unfold lineT
  rw [List.mem_append]
  rintro (h1 | h1)
  · exact h h1
  · obtain ⟨x, hx, h2⟩ := List.mem_flatMap.1 h1
    obtain ⟨v, _, rfl⟩ := List.mem_map.1 hx
    rcases List.mem_cons.1 h2 with e | e
    · simp at e
    · exact itoa_no v 10 (.inr rfl) e
theorem opW_ok (o : Int) (h : 0 ≤ o ∧ o ≤ 22) : (32 : UInt8) ∉ (opW o).1 ∧ (10 : UInt8) ∉ (opW o).1 ∧ (opW o).1 ≠ [] ∧ (opW o).1 ≠ wFunc ∧ (opW o).2 ≤ 3 ∧ opAt 0 opsL (opW o).1 = some (o.toNat, (opW o).2) := by
  obtain ⟨k, rfl⟩ : ∃ k : Nat, o = (k : Int) := ⟨o.toNat, by omega⟩
  have hk : k < 23 := by omega
  clear h
  revert k
  decide
theorem caW_ok (o : Int) (h : 0 ≤ o ∧ o ≤ 2) : (32 : UInt8) ∉ (caW o).1 ∧ (10 : UInt8) ∉ (caW o).1 ∧ (caW o).1 ≠ [] ∧ (caW o).1 ≠ wFunc ∧ (caW o).1 ≠ wChan ∧ (caW o).1 ≠ wLocks ∧ (caW o).2 ≤ 2 ∧ opAt 0 casesL (caW o).1 = some (o.toNat, (caW o).2) := by
  obtain ⟨k, rfl⟩ : ∃ k : Nat, o = (k : Int) := ⟨o.toNat, by omega⟩
  have hk : k < 3 := by omega
  clear h
  revert k
  decide
theorem linesM_ok {i : Nat} {l : By} {ls : List By} {r r' : Rd} (h : l ≠ []) (e : lineM r l = (r', 0)) : linesM i (l :: ls) r = linesM (i + 1) ls r' := by
  rw [linesM, if_neg h, e, if_pos rfl]
theorem x3_take3 (a b c : Int) (n : Nat) (h : n ≤ 3) (h2 : n ≤ 2 → c = 0) (h1 : n ≤ 1 → b = 0) (h0 : n ≤ 0 → a = 0) : x3 ([a, b, c].take n) 0 = a ∧ x3 ([a, b, c].take n) 1 = b ∧ x3 ([a, b, c].take n) 2 = c := by
  have : n = 0 ∨ n = 1 ∨ n = 2 ∨ n = 3 := by omega
  rcases this with rfl | rfl | rfl | rfl
  · rw [h0 (by omega), h1 (by omega), h2 (by omega)]; exact ⟨rfl, rfl, rfl⟩
  · rw [h1 (by omega), h2 (by omega)]; exact ⟨rfl, rfl, rfl⟩
  · rw [h2 (by omega)]; exact ⟨rfl, rfl, rfl⟩
  · exact ⟨rfl, rfl, rfl⟩
theorem x3_take2 (a b : Int) (n : Nat) (h : n ≤ 2) (h1 : n ≤ 1 → b = 0) (h0 : n ≤ 0 → a = 0) : x3 ([a, b].take n) 0 = a ∧ x3 ([a, b].take n) 1 = b := by
  have : n = 0 ∨ n = 1 ∨ n = 2 := by omega
  rcases this with rfl | rfl | rfl
  · rw [h0 (by omega), h1 (by omega)]; exact ⟨rfl, rfl⟩
  · rw [h1 (by omega)]; exact ⟨rfl, rfl⟩
  · exact ⟨rfl, rfl⟩
/-- An instruction that its text tells whole. -/
def InsTidy (x : In4) : Prop := (0 ≤ x.1 ∧ x.1 ≤ 22) ∧ i64b x.2.1 ∧ i64b x.2.2.1 ∧ i64b x.2.2.2 ∧ ((opW x.1).2 ≤ 2 → x.2.2.2 = 0) ∧ ((opW x.1).2 ≤ 1 → x.2.2.1 = 0) ∧ ((opW x.1).2 ≤ 0 → x.2.1 = 0)
def CasTidy (x : Ca3) : Prop := (0 ≤ x.1 ∧ x.1 ≤ 2) ∧ i64b x.2.1 ∧ i64b x.2.2 ∧ ((caW x.1).2 ≤ 1 → x.2.2 = 0) ∧ ((caW x.1).2 ≤ 0 → x.2.1 = 0)
theorem take_len3 (a b c : Int) (n : Nat) (h : n ≤ 3) : ([a, b, c].take n).length = n := by simp; omega
theorem ins_line (r : Rd) (x : In4) (hx : InsTidy x) (hr : 0 < r.fs.length) : lineM r (insT x) = (addI r x, 0) := by
  obtain ⟨h, ha, hb, hc, h2, h1, h0⟩ := hx
  obtain ⟨o1, o2, o3, o4, o5, o6⟩ := opW_ok x.1 h
  have hl := take_len3 x.2.1 x.2.2.1 x.2.2.2 (opW x.1).2 o5
  have hn : numsM (([x.2.1, x.2.2.1, x.2.2.2].take (opW x.1).2).map Lib.itoa) (opW x.1).2 = ([x.2.1, x.2.2.1, x.2.2.2].take (opW x.1).2, 0) := by
    have := numsM_ok ([x.2.1, x.2.2.1, x.2.2.2].take (opW x.1).2) (fun v hv => by
      have := List.mem_of_mem_take hv
      simp at this
      rcases this with rfl | rfl | rfl
      · exact ha
      · exact hb
      · exact hc)
    rwa [hl] at this
  obtain ⟨e0, e1, e2⟩ := x3_take3 x.2.1 x.2.2.1 x.2.2.2 (opW x.1).2 o5 h2 h1 h0
  unfold insT
  rw [lineM_lineT _ _ _ o1]
  unfold wordM
  rw [if_neg o4, if_pos hr, o6]
  simp only [hn]
  unfold withN
  rw [if_pos rfl]
  simp only [e0, e1, e2]
  have : ((x.1.toNat : Nat) : Int) = x.1 := by omega
  rw [this]
theorem addI_fs (r : Rd) (x : In4) (pre : List (List In4)) (f : List In4) (h : r.fs = pre ++ [f]) : addI r x = { r with fs := pre ++ [f ++ [x]] } := by
  have e1 : r.fs.length - 1 = pre.length := by rw [h]; simp
  unfold addI
  rw [e1, h]
  congr 1
  rw [List.set_append_right _ _ (Nat.le_refl _)]
  simp [List.getD]
theorem ins_lines : ∀ (l : List In4) (i : Nat) (r : Rd) (pre : List (List In4)) (f : List In4) (rest : List By), (∀ x ∈ l, InsTidy x) → r.fs = pre ++ [f] →
    linesM i (l.map insT ++ rest) r = linesM (i + l.length) rest { r with fs := pre ++ [f ++ l] }
  | [], i, r, pre, f, rest, _, hr => by
    have : ({ r with fs := pre ++ [f ++ []] } : Rd) = r := by rw [List.append_nil, ← hr]
    rw [this]; rfl
  | x :: l, i, r, pre, f, rest, h, hr => by
    have hx := h x (by simp)
    have hne : insT x ≠ [] := lineT_ne _ _ (opW_ok x.1 hx.1).2.2.1
    rw [List.map_cons, List.cons_append, linesM_ok hne (ins_line r x hx (by rw [hr]; simp)), addI_fs r x pre f hr,
      ins_lines l (i + 1) { r with fs := pre ++ [f ++ [x]] } pre (f ++ [x]) rest (fun y hy => h y (by simp [hy])) rfl]
    rw [List.length_cons, List.append_assoc]
    congr 1
    omega
theorem func_line (r : Rd) : lineM r wFunc = ({ r with fs := r.fs ++ [[]] }, 0) := by
  have e : spl 32 wFunc = [wFunc] := by decide
  unfold lineM
  rw [e]
  unfold wordM
  rfl
theorem funcs_lines : ∀ (fs : List (List In4)) (i : Nat) (r : Rd) (rest : List By), (∀ f ∈ fs, ∀ x ∈ f, InsTidy x) →
    linesM i (fs.flatMap funT ++ rest) r = linesM (i + (fs.flatMap funT).length) rest { r with fs := r.fs ++ fs }
  | [], i, r, rest, _ => by
    have : ({ r with fs := r.fs ++ [] } : Rd) = r := by rw [List.append_nil]
    rw [this]; rfl
  | f :: fs, i, r, rest, h => by
    rw [List.flatMap_cons, List.append_assoc]
    unfold funT
    rw [List.cons_append, linesM_ok (by decide) (func_line r), ins_lines f (i + 1) _ r.fs [] _ (h f (by simp)) rfl]
    have ih := funcs_lines fs (i + 1 + f.length) { r with fs := r.fs ++ [[] ++ f] } rest (fun g hg => h g (by simp [hg]))
    unfold funT at ih
    rw [ih]
    simp only [List.nil_append, List.append_assoc, List.singleton_append]
    congr 1
    simp only [List.length_append, List.length_cons, List.length_map]
    omega
theorem chan_line (r : Rd) (c : Int) (hc : i64b c) (hr : r.fs = []) : lineM r (lineT wChan [c]) = ({ r with cs := r.cs ++ [c] }, 0) := by
  rw [lineM_lineT _ _ _ (by decide)]
  have hn : numsM ([c].map Lib.itoa) 1 = ([c], 0) := numsM_ok [c] (fun v hv => by simp at hv; subst hv; exact hc)
  unfold wordM
  rw [if_neg (by decide), hr, if_neg (by simp), if_pos rfl, hn]
  rfl
theorem chans_lines : ∀ (cs : List Int) (i : Nat) (r : Rd) (rest : List By), (∀ c ∈ cs, i64b c) → r.fs = [] →
    linesM i (cs.map (fun c => lineT wChan [c]) ++ rest) r = linesM (i + cs.length) rest { r with cs := r.cs ++ cs }
  | [], i, r, rest, _, _ => by
    have : ({ r with cs := r.cs ++ [] } : Rd) = r := by rw [List.append_nil]
    rw [this]; rfl
  | c :: cs, i, r, rest, h, hr => by
    rw [List.map_cons, List.cons_append, linesM_ok (lineT_ne _ _ (by decide)) (chan_line r c (h c (by simp)) hr), chans_lines cs (i + 1) { r with cs := r.cs ++ [c] } rest (fun x hx => h x (by simp [hx])) hr]
    simp only [List.append_assoc, List.singleton_append, List.length_cons]
    congr 1
    omega
theorem cas_line (r : Rd) (x : Ca3) (hx : CasTidy x) (hr : r.fs = []) : lineM r (casT x) = ({ r with ks := r.ks ++ [x] }, 0) := by
  obtain ⟨h, ha, hb, h1, h0⟩ := hx
  obtain ⟨o1, o2, o3, o4, o5, o6, o7, o8⟩ := caW_ok x.1 h
  have hl : ([x.2.1, x.2.2].take (caW x.1).2).length = (caW x.1).2 := by simp; omega
  have hn : numsM (([x.2.1, x.2.2].take (caW x.1).2).map Lib.itoa) (caW x.1).2 = ([x.2.1, x.2.2].take (caW x.1).2, 0) := by
    have := numsM_ok ([x.2.1, x.2.2].take (caW x.1).2) (fun v hv => by
      have := List.mem_of_mem_take hv
      simp at this
      rcases this with rfl | rfl
      · exact ha
      · exact hb)
    rwa [hl] at this
  obtain ⟨e0, e1⟩ := x3_take2 x.2.1 x.2.2 (caW x.1).2 o7 h1 h0
  unfold casT
  rw [lineM_lineT _ _ _ o1]
  unfold wordM
  rw [if_neg o4, hr, if_neg (by simp), if_neg o5, if_neg o6, o8]
  simp only [hn]
  unfold withN
  rw [if_pos rfl]
  simp only [e0, e1]
  have : ((x.1.toNat : Nat) : Int) = x.1 := by omega
  rw [this]
theorem cass_lines : ∀ (ks : List Ca3) (i : Nat) (r : Rd) (rest : List By), (∀ k ∈ ks, CasTidy k) → r.fs = [] →
    linesM i (ks.map casT ++ rest) r = linesM (i + ks.length) rest { r with ks := r.ks ++ ks }
  | [], i, r, rest, _, _ => by
    have : ({ r with ks := r.ks ++ [] } : Rd) = r := by rw [List.append_nil]
    rw [this]; rfl
  | k :: ks, i, r, rest, h, hr => by
    have hne : casT k ≠ [] := lineT_ne _ _ (caW_ok k.1 (h k (by simp)).1).2.2.1
    rw [List.map_cons, List.cons_append, linesM_ok hne (cas_line r k (h k (by simp)) hr), cass_lines ks (i + 1) { r with ks := r.ks ++ [k] } rest (fun x hx => h x (by simp [hx])) hr]
    simp only [List.append_assoc, List.singleton_append, List.length_cons]
    congr 1
    omega
theorem locks_line (r : Rd) (n : Int) (hn : i64b n) (hr : r.fs = []) (ht : r.told = false) : lineM r (lineT wLocks [n]) = ({ r with lk := n, told := true }, 0) := by
  rw [lineM_lineT _ _ _ (by decide)]
  have e : numsM ([n].map Lib.itoa) 1 = ([n], 0) := numsM_ok [n] (fun v hv => by simp at hv; subst hv; exact hn)
  unfold wordM
  rw [if_neg (by decide), hr, if_neg (by simp), if_neg (by decide), if_pos rfl, e, ht]
  rfl
/-- A program that its text tells whole. -/
def PTidy (d : PD) : Prop := (∀ c ∈ d.cs, i64b c) ∧ i64b d.lk ∧ 0 ≤ d.lk ∧ (∀ k ∈ d.ks, CasTidy k) ∧ ∀ f ∈ d.fs, ∀ x ∈ f, InsTidy x
theorem lines_prog (d : PD) (h : PTidy d) : ∃ t, linesM 0 (progT d ++ [[]]) rd0 = (⟨d.fs, d.cs, d.lk, d.ks, t⟩, none) := by
  obtain ⟨h1, h2, h3, h4, h5⟩ := h
  unfold progT
  rw [List.append_assoc, chans_lines d.cs 0 rd0 _ h1 rfl, List.append_assoc]
  have fin : ∀ (i : Nat) (r : Rd), linesM i [[]] r = (r, none) := fun i r => by rw [linesM, if_pos rfl]; rfl
  by_cases hl : 0 < d.lk
  · rw [if_pos hl, List.singleton_append, linesM_ok (lineT_ne _ _ (by decide)) (locks_line _ d.lk h2 rfl rfl), List.append_assoc, cass_lines d.ks _ _ _ h4 rfl, funcs_lines d.fs _ _ _ h5, fin]
    exact ⟨true, rfl⟩
  · rw [if_neg hl, List.nil_append, List.append_assoc, cass_lines d.ks _ _ _ h4 rfl, funcs_lines d.fs _ _ _ h5, fin]
    have : d.lk = 0 := by omega
    rw [this]
    exact ⟨false, rfl⟩
theorem progT_no (d : PD) (h : PTidy d) : ∀ l ∈ progT d, (10 : UInt8) ∉ l := by
  obtain ⟨h1, h2, h3, h4, h5⟩ := h
  intro l hl
  unfold progT at hl
  rcases List.mem_append.1 hl with hl | hl
  · obtain ⟨c, _, rfl⟩ := List.mem_map.1 hl
    exact lineT_no _ _ (by decide)
  · rcases List.mem_append.1 hl with hl | hl
    · split at hl
      · simp at hl; subst hl; exact lineT_no _ _ (by decide)
      · simp at hl
    · rcases List.mem_append.1 hl with hl | hl
      · obtain ⟨k, hk, rfl⟩ := List.mem_map.1 hl
        exact lineT_no _ _ (caW_ok k.1 (h4 k hk).1).2.1
      · obtain ⟨f, hf, hl⟩ := List.mem_flatMap.1 hl
        unfold funT at hl
        rcases List.mem_cons.1 hl with rfl | hl
        · decide
        · obtain ⟨x, hx, rfl⟩ := List.mem_map.1 hl
          exact lineT_no _ _ (opW_ok x.1 (h5 f hf x hx).1).2.1
/-- Any program's text is read as it. -/
theorem parse_text (d : PD) (h : PTidy d) (hl : (textM d).length ≤ 20000) (hc : (chkI d).2.2 = 0) : parseM (textM d) = (d, -1, 0) := by
  obtain ⟨t, e⟩ := lines_prog d h
  unfold parseM
  rw [if_neg (by omega)]
  unfold textM at hl ⊢
  rw [spl_lines 10 _ (progT_no d h), e]
  have : (Rd.mk d.fs d.cs d.lk d.ks t).pd = d := rfl
  unfold finM
  simp only [this, hc, if_pos]
end Go.Proofs.YtdeilfnfpgjnnaaDoor
