/-
  The document's Draw.
-/
import Derived.Test.YtkjhaofodlpnmaaWRecQ
import Derived.Test.YtkjhaofodlpnmaaWSrcAw
import Derived.Deep.CutBlock
open Go Go.RowKit
set_option linter.unusedVariables false
namespace Go.Proofs.Ytkjhaofodlpnmaa
theorem recs_cells {w : World} {a : Option Addr} {l : List Rec} (h : RecsAt w a l) : CellsAt w a (recCells l) := fun j v hj => by
  have hlt : j < l.length * 2 := by have := (List.getElem?_eq_some_iff.1 hj).1; rwa [recCells_len] at this
  have hd : j / 2 < l.length := by omega
  obtain ⟨b, off, h1, h2, h3⟩ := h (j / 2) hd
  obtain ⟨e1, e2⟩ := recCells_at l (j / 2) hd
  refine ⟨b, off, h1, ?_⟩
  by_cases hm : j % 2 = 0
  · have ej : j / 2 * 2 = j := by omega
    rw [ej] at e1 h2
    rw [e1] at hj; cases hj; exact h2
  · have ej : j / 2 * 2 + 1 = j := by omega
    rw [ej] at e2
    rw [Nat.add_assoc, ej] at h3
    rw [e2] at hj; cases hj; exact h3
theorem cells_recs {w : World} {a : Option Addr} {l : List Rec} (h : CellsAt w a (recCells l)) : RecsAt w a l := fun i hi => by
  obtain ⟨b, off, h1, h2, h3⟩ := rec_at h i hi
  exact ⟨b, off, h1, h2, h3⟩
/-- s[1:] of cells that are read. -/
theorem slice_one {P : Program} {t : TypeId} {s : Nat} (ht : P.underlying t = some (.slice (P.elem t))) (hs : ∀ w, (sizeOf (P.elem t)).run P w = .ok s w) {w0 : World} {b off cap n : Nat} {cs : List Value} (h : CellsAt w0 (some ⟨b, off, none⟩) cs) (hn : 1 ≤ n) (hc : n ≤ cap) :
    ∃ a', (∀ w, (Instr.slice t (.slice (some ⟨b, off, none⟩) n cap) (some (.int .i64 1)) none none).run P w = .ok (.slice a' (n - 1) (cap - 1)) w) ∧ (n ≤ 1 ∨ CellsAt w0 a' (cs.drop s)) ∧ (∀ x ∈ blk a', x = b) ∧ a' ≠ none := by
  by_cases hc1 : cap = 1
  · refine ⟨some ⟨b, off, none⟩, fun w => ?_, .inl (by omega), fun x hx => by simpa [blk] using hx, by simp⟩
    rw [run_slice_l (P := P) (t := t) (ht := ht) (kl := .i64) (l := 1) (h0 := by omega) (h1 := by omega), hs]
    simp [Result.andThen, sliced, hc1]
  · refine ⟨some ⟨b, off + s, none⟩, fun w => ?_, .inr (fun j v hj => ?_), fun x hx => by simpa [blk] using hx, by simp⟩
    · rw [run_slice_l (P := P) (t := t) (ht := ht) (kl := .i64) (l := 1) (h0 := by omega) (h1 := by omega), hs]
      simp [Result.andThen, sliced, hc1, Addr.add]
      try (intro hz; omega)
    · rw [List.getElem?_drop] at hj
      obtain ⟨b', o', h1, h2⟩ := h _ _ hj
      cases h1
      exact ⟨b, off + s, rfl, by rw [Nat.add_assoc]; exact h2⟩
/-- What is left of a source of the document's. -/
structure RSrc where
  nums : List Nat
  tape : List Rec
  is : Bool
  taken : List Rec
def rval (X : RSrc) (na : Option Addr) (nc : Nat) (ta : Option Addr) (tc : Nat) (ka : Option Addr) (kc : Nat) : Value :=
  .agg #[.slice na X.nums.length nc, .slice ta X.tape.length tc, .bool X.is, .bool false, .slice ka X.taken.length kc]
/-- Its rows. -/
def RRows (w : World) (X : RSrc) (na : Option Addr) (nc : Nat) (ta : Option Addr) (tc : Nat) (ka : Option Addr) (kc : Nat) : Prop :=
  CellsAt w na (numc X.nums) ∧ X.nums.length ≤ nc ∧ CellsAt w ta (recCells X.tape) ∧ X.tape.length ≤ tc ∧ CellsAt w ka (recCells X.taken) ∧ X.taken.length ≤ kc
theorem RRows.below {w w' : World} {X : RSrc} {na ta ka : Option Addr} {nc tc kc : Nat} (h : RRows w X na nc ta tc ka kc) (hb : Below w.heap.size w w') : RRows w' X na nc ta tc ka kc :=
  ⟨h.1.below hb, h.2.1, h.2.2.1.below hb, h.2.2.2.1, h.2.2.2.2.1.below hb, h.2.2.2.2.2⟩
/-- The document's draw. -/
def rdraw (X : RSrc) (kind n : Int) : RSrc × Nat × Int :=
  if X.is then match X.tape with
    | [] => (X, 0, 1)
    | r :: t => if r.1 = kind ∧ r.2 < cnt n then (⟨X.nums, t, X.is, X.taken ++ [(kind, r.2)]⟩, r.2, 0) else (X, 0, 2)
  else match X.nums with
    | [] => (X, 0, 1)
    | y :: t => (⟨t, X.tape, X.is, X.taken ++ [(kind, y % cnt n)]⟩, y % cnt n, 0)
def RPost (w : World) (X : RSrc) (kind n : Int) (na ta ka : Option Addr) (r : Ending) (w' : World) : Prop :=
  Below w.heap.size w w' ∧ ∃ na' nc' ta' tc' ka' kc', r = .returned (.tuple #[rval (rdraw X kind n).1 na' nc' ta' tc' ka' kc', .int .i64 ((rdraw X kind n).2.1 : Int), .int .i64 (rdraw X kind n).2.2]) ∧ RRows w' (rdraw X kind n).1 na' nc' ta' tc' ka' kc' ∧
    (∀ x ∈ blk na', x ∈ blk na) ∧ (∀ x ∈ blk ta', x ∈ blk ta) ∧ ∀ x ∈ blk ka', x ∈ blk ka ∨ (w.heap.size ≤ x ∧ x < w'.heap.size)
set_option maxRecDepth 100000 in
set_option maxHeartbeats 4000000 in
theorem rdraw_any (w : World) (X : RSrc) (na ta ka : Option Addr) (nc tc kc : Nat) (hR : RRows w X na nc ta tc ka kc) (hu : (∀ r ∈ X.tape, r.2 < 18446744073709551616) ∧ ∀ y ∈ X.nums, y < 18446744073709551616) (hk : X.taken.length ≤ 1000) (kind n : Int) (hn : n < 9223372036854775808) :
    Calls Try.prog 13 #[rval X na nc ta tc ka kc, .int .i64 kind, .int .i64 n] w (RPost w X kind n na ta ka) := by
  have hcm := cnt_eq n
  have hcp := cnt_pos n
  have hcl := cnt_lt n hn
  have hmv : (if n < 1 then (1 : Int) else n) = (cnt n : Int) := by rw [← hcm]; omega
  have hw1 : IntKind.u64.wrap (cnt n : Int) = (cnt n : Int) := by rw [IntKind.wrap_u64]; omega
  obtain ⟨nums, tape, is, taken⟩ := X
  replace hk : taken.length ≤ 1000 := hk
  cases is with
  | true =>
    cases tape with
    | nil =>
      have e : rdraw ⟨nums, [], true, taken⟩ kind n = (⟨nums, [], true, taken⟩, 0, 1) := rfl
      have hp : ∀ w', Below w.heap.size w w' → RPost w ⟨nums, [], true, taken⟩ kind n na ta ka (.returned (.tuple #[rval ⟨nums, [], true, taken⟩ na nc ta tc ka kc, .int .i64 0, .int .i64 1])) w' := fun w' hb =>
        ⟨hb, na, nc, ta, tc, ka, kc, by rw [e]; rfl, by rw [e]; exact hR.below hb, fun x hx => hx, fun x hx => hx, fun x hx => .inl hx⟩
      have HP := Lib.hid hp
      clear hp e hR hu hk hcl hcm
      unfold rval at HP ⊢
      simp only [List.length_nil] at HP ⊢
      generalize cnt n = c at *
      generalize nums.length = nn at *
      generalize taken.length = kn at *
      go_enter Try.func13, Try.ntmps13
      go_wp2
      exact bodyPost_ret (v := .tuple #[.agg #[.slice na nn nc, .slice ta 0 tc, .bool true, .bool false, .slice ka kn kc], .int .i64 0, .int .i64 1]) (by simp [results, Try.results13, go_sem, asAddr]) rfl (HP.out _ (below_on (below_alloc1 _ _) (below_alloc1 _ _)))
    | cons r t =>
      obtain ⟨r1, r2, r3, r4, r5, r6⟩ := hR
      obtain ⟨b, off, rfl, g0, g1⟩ := rec_at r3 0 (by simp)
      have hr2 := hu.1 r (by simp)
      have hbl := World.block_lt_of_cell? w _ g0
      simp only [List.getElem_cons_zero, Nat.zero_mul, Nat.add_zero] at g0 g1
      obtain ⟨rk, rn⟩ := r
      simp only at g0 g1 hr2
      by_cases hok : rk = kind ∧ rn < cnt n
      · obtain ⟨hkd, hlt⟩ := hok
        obtain ⟨a', hsl, hca, hba, hna⟩ := slice_one (P := Try.prog) (t := 23) Try.underlying23 (fun w => by first | rfl | kernel_rfl) r3 (by simp) r4
        have e : rdraw ⟨nums, (rk, rn) :: t, true, taken⟩ kind n = (⟨nums, t, true, taken ++ [(kind, rn)]⟩, rn, 0) := by unfold rdraw; simp only [if_true]; rw [if_pos ⟨hkd, hlt⟩]
        subst hkd
        have hnl : ¬ (cnt n ≤ rn) := by omega
        have hwn : IntKind.i64.wrap (rn : Int) = (rn : Int) := by rw [IntKind.wrap_i64]; omega
        have HR := Lib.hid (And.intro r1 (And.intro r2 (And.intro r4 (And.intro r5 r6))))
        have HCA := Lib.hid (And.intro hca hba)
        have HE := Lib.hid e
        have HK := Lib.hid hk
        have TAKEN := r5
        clear r1 r2 r3 r4 r5 r6 hca hba hu hcl hcm hna e
        unfold rval
        simp only [List.length_cons] at hsl ⊢
        generalize hcc : cnt n = c at *
        have HCC := Lib.hid hcc
        obtain ⟨nn, hnn⟩ : ∃ nn, nn = nums.length := ⟨_, rfl⟩
        obtain ⟨kn, hkn⟩ : ∃ kn, kn = taken.length := ⟨_, rfl⟩
        obtain ⟨tn, htn⟩ : ∃ tn, tn = t.length := ⟨_, rfl⟩
        rw [← hnn, ← hkn, ← htn]
        rw [← htn] at hsl
        have HNN := Lib.hid hnn
        have HKN := Lib.hid hkn
        have HTN := Lib.hid htn
        clear hnn hkn htn hk hcc
        go_enter Try.func13, Try.ntmps13
        go_upto_region 15 with fail
        have o1 : Own w (((w.alloc (.cells #[.slice na nn nc, .slice a' tn (tc - 1), .bool true, .bool false, .slice ka kn kc] 31)).alloc (.cells #[.slice none 0 0, .slice none 0 0, .bool false, .bool false, .slice none 0 0] 31)).alloc (.cells #[.int .i64 rk, .int .u64 (rn : Int)] 52)) [CelA w.heap.size [.slice na nn nc, .slice a' tn (tc - 1), .bool true, .bool false, .slice ka kn kc], CelA (w.heap.size + 1) [.slice none 0 0, .slice none 0 0, .bool false, .bool false, .slice none 0 0]] :=
          ((((Own.nil (Below.refl w.heap.size w)).alloc [.slice na nn nc, .slice a' tn (tc - 1), .bool true, .bool false, .slice ka kn kc] 31 (b := w.heap.size) rfl).alloc [.slice none 0 0, .slice none 0 0, .bool false, .bool false, .slice none 0 0] 31 (b := w.heap.size + 1) (by simp)).pick 1 rfl).step (below_alloc1 _ (.cells #[.int .i64 rk, .int .u64 (rn : Int)] 52))
        generalize ((w.alloc (.cells #[.slice na nn nc, .slice a' tn (tc - 1), .bool true, .bool false, .slice ka kn kc] 31)).alloc (.cells #[.slice none 0 0, .slice none 0 0, .bool false, .bool false, .slice none 0 0] 31)).alloc (.cells #[.int .i64 rk, .int .u64 (rn : Int)] 52) = W1 at *
        generalize hb0 : w.heap.size = b0 at *
        generalize b0 + 1 = b1 at *
        obtain ⟨i0, hi0, hz0, hz1, hz2⟩ := info_parts info_rrec
        have Hi := Lib.hid hi0; clear hi0
        have Hz0 := Lib.hid hz0; clear hz0
        have Hz1 := Lib.hid hz1; clear hz1
        have Hz2 := Lib.hid hz2; clear hz2
        have HB0 := Lib.hid hb0
        clear hb0
        have O1 := Lib.hid o1
        obtain ⟨x4, -⟩ := o1.cel 0 rfl 4 _ rfl
        have htk := (TAKEN.below o1.bel).below (below_alloc1 W1 (.cells #[] 52))
        have HTK := Lib.hid htk
        have hb0l := World.block_lt_of_cell? W1 _ x4
        clear o1 htk
        go_wp2_with (at_builtin; refine wpList_append_rowG (m := kn) (n := 0) (cs := []) (ds := recCells taken) rfl _ _ 23 rfl 52 i0 _ Try.underlying23 Hi.out Hz0.out Hz1.out Hz2.out rfl (by omega) (by omega) rfl rfl (RowG.zero (by simp)) HTK.out (by rw [HKN.out]; exact recCells_len taken) (recc_one _) (by have := HK.out; have := HKN.out; omega) ?_)
        intro a2 c2 w3 k2 ch2 f2
        have o3 : Own w w3 [RowGA 2 a2 c2 kn (recCells taken), CelA b0 [.slice na nn nc, .slice a' tn (tc - 1), .bool true, .bool false, .slice ka kn kc], CelA b1 [.slice none 0 0, .slice none 0 0, .bool false, .bool false, .slice none 0 0]] := by
          have h1 := Own.rowTurn (O1.out.add (below_alloc1 W1 (.cells #[] 52)) (A := RowGA 2 (some ⟨W1.heap.size, 0, none⟩) 0 0 []) (F := [W1.heap.size]) ⟨rfl, RowG.zero (by simp)⟩ (by simp)) k2 ch2 (fun x hx => by have := f2 x hx; simpa using this)
          simpa using h1
        have O3 := Lib.hid o3
        have HW3 := Lib.hid (o3.rowG 0 rfl)
        obtain ⟨x4', -⟩ := o3.cel 1 rfl 4 _ rfl
        have hb0l' := World.block_lt_of_cell? w3 _ x4'
        clear k2 ch2 f2 o3 x4 hb0l HTK
        go_wp2_with (at_builtin; refine wpList_append_rowG (m := 1) (n := kn) (cs := recCells taken) (ds := recCells [(rk, rn)]) rfl _ _ 23 rfl 52 i0 _ Try.underlying23 Hi.out Hz0.out Hz1.out Hz2.out rfl (by omega) (by omega) rfl rfl (HW3.out.below (below_alloc1 _ _)) (CellsAt.new _ (recCells [(rk, rn)]) _ rfl) rfl (recc_one _) (by have := HK.out; have := HKN.out; omega) ?_)
        intro a3 c3 w4 k3 ch3 f3
        have o4 : Own w w4 [RowGA 2 a3 c3 (kn + 1) (recCells taken ++ recCells [(rk, rn)]), CelA b0 [.slice na nn nc, .slice a' tn (tc - 1), .bool true, .bool false, .slice ka kn kc], CelA b1 [.slice none 0 0, .slice none 0 0, .bool false, .bool false, .slice none 0 0]] :=
          Own.rowTurn (O3.out.step (below_alloc1 w3 (.cells (recCells [(rk, rn)]).toArray 52))) k3 ch3 (fun x hx => by have := f3 x hx; simpa using this)
        have hne := sep_ne o4.drop
        have hne2 := hne.symm
        have o5 := ((o4.pick 1 rfl).set 4 (.slice a3 (kn + 1) c3))
        have o6 := ((((((o5.pick 2 rfl).set 0 (.slice na nn nc)).set 1 (.slice a' tn (tc - 1))).set 2 (.bool true)).set 3 (.bool false)).set 4 (.slice a3 (kn + 1) c3))
        have O6 := Lib.hid o6
        obtain ⟨y0, -⟩ := o4.cel 1 rfl 0 _ rfl
        obtain ⟨y1, -⟩ := o4.cel 1 rfl 1 _ rfl
        obtain ⟨y2, -⟩ := o4.cel 1 rfl 2 _ rfl
        obtain ⟨y3, -⟩ := o4.cel 1 rfl 3 _ rfl
        obtain ⟨y4, u4⟩ := o4.cel 1 rfl 4 _ rfl
        obtain ⟨z0, s0⟩ := o4.cel 2 rfl 0 _ rfl
        obtain ⟨z1, s1⟩ := o4.cel 2 rfl 1 _ rfl
        obtain ⟨z2, s2⟩ := o4.cel 2 rfl 2 _ rfl
        obtain ⟨z3, s3⟩ := o4.cel 2 rfl 3 _ rfl
        obtain ⟨z4, s4⟩ := o4.cel 2 rfl 4 _ rfl
        clear o4 o5 o6 k3 ch3 f3 x4' hb0l' HW3
        go_wp2
        have hsm : b0 < (((((w4.setCell ⟨b0, 4, none⟩ (.slice a3 (kn + 1) c3)).setCell ⟨b1, 0, none⟩ (.slice na nn nc)).setCell ⟨b1, 1, none⟩ (.slice a' tn (tc - 1))).setCell ⟨b1, 2, none⟩ (.bool true)).setCell ⟨b1, 3, none⟩ (.bool false)).heap.size := by
          have := World.block_lt_of_cell? w4 _ y0; simpa using this
        obtain ⟨WF, hWF⟩ : ∃ WF, WF = ((((((w4.setCell ⟨b0, 4, none⟩ (.slice a3 (kn + 1) c3)).setCell ⟨b1, 0, none⟩ (.slice na nn nc)).setCell ⟨b1, 1, none⟩ (.slice a' tn (tc - 1))).setCell ⟨b1, 2, none⟩ (.bool true)).setCell ⟨b1, 3, none⟩ (.bool false)).setCell ⟨b1, 4, none⟩ (.slice a3 (kn + 1) c3)) := ⟨_, rfl⟩
        rw [← hWF] at O6 ⊢
        clear hWF hsm y0 y1 y2 y3 y4 u4 z0 z1 z2 z3 z4 s0 s1 s2 s3 s4
        obtain ⟨z0, -⟩ := O6.out.cel 0 rfl 0 _ rfl
        obtain ⟨z1, -⟩ := O6.out.cel 0 rfl 1 _ rfl
        obtain ⟨z2, -⟩ := O6.out.cel 0 rfl 2 _ rfl
        obtain ⟨z3, -⟩ := O6.out.cel 0 rfl 3 _ rfl
        obtain ⟨z4, -⟩ := O6.out.cel 0 rfl 4 _ rfl
        refine bodyPost_ret (v := .tuple #[.agg #[.slice na nn nc, .slice a' tn (tc - 1), .bool true, .bool false, .slice a3 (kn + 1) c3], .int .i64 (rn : Nat), .int .i64 0]) (by simp [results, Try.results13, go_sem, asAddr, z0, z1, z2, z3, z4]) rfl ?_
        obtain ⟨F, ⟨hF, hrow⟩, hFb⟩ := O6.out.fact 2 rfl
        have hcl : CellsAt WF a3 (recCells (taken ++ [(rk, rn)])) := by
          have h1 := hrow.cells
          rw [show recCells (taken ++ [(rk, rn)]) = recCells taken ++ recCells [(rk, rn)] by unfold recCells; simp]
          exact h1
        have hkc := hrow.2.1
        have hbel := O6.out.bel

        obtain ⟨r1, r2, r4, r5, r6⟩ := HR.out
        obtain ⟨hca, hba⟩ := HCA.out
        refine ⟨hbel, na, nc, a', tc - 1, a3, c3, ?_, ?_, ?_, ?_, ?_⟩
        · rw [HE.out]; unfold rval; simp only [← HNN.out, ← HTN.out, List.length_append, List.length_cons, List.length_nil, Nat.zero_add, ← HKN.out]
        · rw [HE.out]
          refine ⟨r1.below hbel, r2, ?_, by simp only [List.length_cons] at r4 ⊢; omega, hcl, by simp only [List.length_append, List.length_cons, List.length_nil]; have := HKN.out; omega⟩
          rcases hca with h | h
          · have ht0 : t = [] := by simpa using h
            rw [ht0]; exact CellsAt.nil _ _
          · exact CellsAt.below h hbel
        · intro x hx; exact hx
        · intro x hx; have := hba x hx; simp [blk]; exact this
        · intro x hx; have := hFb x (by rw [hF]; exact hx); exact .inr ⟨this, hrow.lt x hx⟩
      · have e : rdraw ⟨nums, (rk, rn) :: t, true, taken⟩ kind n = (⟨nums, (rk, rn) :: t, true, taken⟩, 0, 2) := by unfold rdraw; simp only [if_true]; rw [if_neg hok]
        have hR : RRows w ⟨nums, (rk, rn) :: t, true, taken⟩ na nc (some ⟨b, off, none⟩) tc ka kc := ⟨r1, r2, r3, r4, r5, r6⟩
        have hp : ∀ w', Below w.heap.size w w' → RPost w ⟨nums, (rk, rn) :: t, true, taken⟩ kind n na (some ⟨b, off, none⟩) ka (.returned (.tuple #[rval ⟨nums, (rk, rn) :: t, true, taken⟩ na nc (some ⟨b, off, none⟩) tc ka kc, .int .i64 0, .int .i64 2])) w' := fun w' hb =>
          ⟨hb, na, nc, _, tc, ka, kc, by rw [e]; rfl, by rw [e]; exact hR.below hb, fun x hx => hx, fun x hx => hx, fun x hx => .inl hx⟩
        have HP := Lib.hid hp
        clear hp e hR hu hk hcl hcm r1 r2 r3 r4 r5 r6
        unfold rval at HP ⊢
        simp only [List.length_cons] at HP ⊢
        generalize cnt n = c at *
        generalize nums.length = nn at *
        generalize taken.length = kn at *
        generalize t.length = tn at *
        by_cases h1 : rk = kind
        · subst h1
          have h2 : ¬ rn < c := fun h => hok ⟨rfl, h⟩
          clear hok
          go_enter Try.func13, Try.ntmps13
          go_wp2
          exact bodyPost_ret (v := .tuple #[.agg #[.slice na nn nc, .slice (some ⟨b, off, none⟩) (tn + 1) tc, .bool true, .bool false, .slice ka kn kc], .int .i64 0, .int .i64 2]) (by simp [results, Try.results13, go_sem, asAddr]) rfl (HP.out _ (by repeat (first | exact Below.refl _ _ | refine below_on ?_ (below_alloc1 _ _))))
        · clear hok
          go_enter Try.func13, Try.ntmps13
          go_wp2
          exact bodyPost_ret (v := .tuple #[.agg #[.slice na nn nc, .slice (some ⟨b, off, none⟩) (tn + 1) tc, .bool true, .bool false, .slice ka kn kc], .int .i64 0, .int .i64 2]) (by simp [results, Try.results13, go_sem, asAddr]) rfl (HP.out _ (by repeat (first | exact Below.refl _ _ | refine below_on ?_ (below_alloc1 _ _))))
  | false =>
    cases nums with
    | nil =>
      have e : rdraw ⟨[], tape, false, taken⟩ kind n = (⟨[], tape, false, taken⟩, 0, 1) := rfl
      have hp : ∀ w', Below w.heap.size w w' → RPost w ⟨[], tape, false, taken⟩ kind n na ta ka (.returned (.tuple #[rval ⟨[], tape, false, taken⟩ na nc ta tc ka kc, .int .i64 0, .int .i64 1])) w' := fun w' hb =>
        ⟨hb, na, nc, ta, tc, ka, kc, by rw [e]; rfl, by rw [e]; exact hR.below hb, fun x hx => hx, fun x hx => hx, fun x hx => .inl hx⟩
      have HP := Lib.hid hp
      clear hp e hR hu hk hcl hcm
      unfold rval at HP ⊢
      simp only [List.length_nil] at HP ⊢
      generalize cnt n = c at *
      generalize tape.length = tn at *
      generalize taken.length = kn at *
      go_enter Try.func13, Try.ntmps13
      go_wp2
      exact bodyPost_ret (v := .tuple #[.agg #[.slice na 0 nc, .slice ta tn tc, .bool false, .bool false, .slice ka kn kc], .int .i64 0, .int .i64 1]) (by simp [results, Try.results13, go_sem, asAddr]) rfl (HP.out _ (by repeat (first | exact Below.refl _ _ | refine below_on ?_ (below_alloc1 _ _))))
    | cons y t =>
      obtain ⟨r1, r2, r3, r4, r5, r6⟩ := hR
      obtain ⟨b, off, rfl, g0⟩ := num_at r1 0 (by simp)
      have hr2 := hu.2 y (by simp)
      have hbl := World.block_lt_of_cell? w _ g0
      simp only [List.getElem_cons_zero, Nat.add_zero] at g0
      have r1' : CellsAt w (some ⟨b, off, none⟩) (numc (y :: t)) := r1
      obtain ⟨a', hsl, hca, hba, hna⟩ := slice_one (P := Try.prog) (t := 22) (s := 1) Try.underlying22 (fun w => by first | rfl | kernel_rfl) r1' (by simp : 1 ≤ (y :: t).length) r2
      have e : rdraw ⟨y :: t, tape, false, taken⟩ kind n = (⟨t, tape, false, taken ++ [(kind, y % cnt n)]⟩, y % cnt n, 0) := rfl
      have hem : (y : Int) % (cnt n : Int) = ((y % cnt n : Nat) : Int) := by simp
      have hx : y % cnt n < cnt n := Nat.mod_lt _ (by omega)
      have htm : (y : Int).tmod (cnt n : Int) = ((y % cnt n : Nat) : Int) := by rw [Int.tmod_eq_emod_of_nonneg (by omega)]; simp
      have HR := Lib.hid (And.intro r2 (And.intro r3 (And.intro r4 (And.intro r5 r6))))
      have HCA := Lib.hid (And.intro hca hba)
      have HE := Lib.hid e
      have HK := Lib.hid hk
      have TAKEN := r5
      clear r1 r1' r2 r3 r4 r5 r6 hca hba hu hcm hna e
      unfold rval
      simp only [List.length_cons] at hsl ⊢
      generalize hcc : cnt n = c at *
      generalize hxx : y % c = x at *
      have hwn : IntKind.i64.wrap (x : Int) = (x : Int) := by rw [IntKind.wrap_i64]; omega
      have hwu : IntKind.u64.wrap (x : Int) = (x : Int) := by rw [IntKind.wrap_u64]; omega
      have hcnz : ¬ (c : Int) = 0 := by omega
      have HCC := Lib.hid hcc
      have HXX := Lib.hid hxx
      obtain ⟨tn, htn⟩ : ∃ tn, tn = tape.length := ⟨_, rfl⟩
      obtain ⟨kn, hkn⟩ : ∃ kn, kn = taken.length := ⟨_, rfl⟩
      obtain ⟨nn, hnn⟩ : ∃ nn, nn = t.length := ⟨_, rfl⟩
      rw [← hnn, ← hkn, ← htn]
      rw [← hnn] at hsl
      have HNN := Lib.hid hnn
      have HKN := Lib.hid hkn
      have HTN := Lib.hid htn
      clear hnn hkn htn hk hcc hxx hcl
      go_enter Try.func13, Try.ntmps13
      go_upto_region 15 with fail
      have o1 : Own w (((w.alloc (.cells #[.slice a' nn (nc - 1), .slice ta tn tc, .bool false, .bool false, .slice ka kn kc] 31)).alloc (.cells #[.slice none 0 0, .slice none 0 0, .bool false, .bool false, .slice none 0 0] 31))) [CelA w.heap.size [.slice a' nn (nc - 1), .slice ta tn tc, .bool false, .bool false, .slice ka kn kc], CelA (w.heap.size + 1) [.slice none 0 0, .slice none 0 0, .bool false, .bool false, .slice none 0 0]] :=
        ((((Own.nil (Below.refl w.heap.size w)).alloc [.slice a' nn (nc - 1), .slice ta tn tc, .bool false, .bool false, .slice ka kn kc] 31 (b := w.heap.size) rfl).alloc [.slice none 0 0, .slice none 0 0, .bool false, .bool false, .slice none 0 0] 31 (b := w.heap.size + 1) (by simp)).pick 1 rfl)
      generalize ((w.alloc (.cells #[.slice a' nn (nc - 1), .slice ta tn tc, .bool false, .bool false, .slice ka kn kc] 31)).alloc (.cells #[.slice none 0 0, .slice none 0 0, .bool false, .bool false, .slice none 0 0] 31)) = W1 at *
      generalize hb0 : w.heap.size = b0 at *
      generalize b0 + 1 = b1 at *
      obtain ⟨i0, hi0, hz0, hz1, hz2⟩ := info_parts info_rrec
      have Hi := Lib.hid hi0; clear hi0
      have Hz0 := Lib.hid hz0; clear hz0
      have Hz1 := Lib.hid hz1; clear hz1
      have Hz2 := Lib.hid hz2; clear hz2
      have HB0 := Lib.hid hb0
      clear hb0
      have O1 := Lib.hid o1
      obtain ⟨x4, -⟩ := o1.cel 0 rfl 4 _ rfl
      have htk := (TAKEN.below o1.bel).below (below_alloc1 W1 (.cells #[] 52))
      have HTK := Lib.hid htk
      have hb0l := World.block_lt_of_cell? W1 _ x4
      clear o1 htk
      go_wp2_with (at_builtin; refine wpList_append_rowG (m := kn) (n := 0) (cs := []) (ds := recCells taken) rfl _ _ 23 rfl 52 i0 _ Try.underlying23 Hi.out Hz0.out Hz1.out Hz2.out rfl (by omega) (by omega) rfl rfl (RowG.zero (by simp)) HTK.out (by rw [HKN.out]; exact recCells_len taken) (recc_one _) (by have := HK.out; have := HKN.out; omega) ?_)
      intro a2 c2 w3 k2 ch2 f2
      have o3 : Own w w3 [RowGA 2 a2 c2 kn (recCells taken), CelA b0 [.slice a' nn (nc - 1), .slice ta tn tc, .bool false, .bool false, .slice ka kn kc], CelA b1 [.slice none 0 0, .slice none 0 0, .bool false, .bool false, .slice none 0 0]] := by
        have h1 := Own.rowTurn (O1.out.add (below_alloc1 W1 (.cells #[] 52)) (A := RowGA 2 (some ⟨W1.heap.size, 0, none⟩) 0 0 []) (F := [W1.heap.size]) ⟨rfl, RowG.zero (by simp)⟩ (by simp)) k2 ch2 (fun x hx => by have := f2 x hx; simpa using this)
        simpa using h1
      have O3 := Lib.hid o3
      have HW3 := Lib.hid (o3.rowG 0 rfl)
      obtain ⟨x4', -⟩ := o3.cel 1 rfl 4 _ rfl
      have hb0l' := World.block_lt_of_cell? w3 _ x4'
      clear k2 ch2 f2 o3 x4 hb0l HTK
      go_wp2_with (at_builtin; refine wpList_append_rowG (m := 1) (n := kn) (cs := recCells taken) (ds := recCells [(kind, x)]) rfl _ _ 23 rfl 52 i0 _ Try.underlying23 Hi.out Hz0.out Hz1.out Hz2.out rfl (by omega) (by omega) rfl rfl (HW3.out.below (below_alloc1 _ _)) (CellsAt.new _ (recCells [(kind, x)]) _ rfl) rfl (recc_one _) (by have := HK.out; have := HKN.out; omega) ?_)
      intro a3 c3 w4 k3 ch3 f3
      have o4 : Own w w4 [RowGA 2 a3 c3 (kn + 1) (recCells taken ++ recCells [(kind, x)]), CelA b0 [.slice a' nn (nc - 1), .slice ta tn tc, .bool false, .bool false, .slice ka kn kc], CelA b1 [.slice none 0 0, .slice none 0 0, .bool false, .bool false, .slice none 0 0]] :=
        Own.rowTurn (O3.out.step (below_alloc1 w3 (.cells (recCells [(kind, x)]).toArray 52))) k3 ch3 (fun x hx => by have := f3 x hx; simpa using this)
      have hne := sep_ne o4.drop
      have hne2 := hne.symm
      have o5 := ((o4.pick 1 rfl).set 4 (.slice a3 (kn + 1) c3))
      have o6 := ((((((o5.pick 2 rfl).set 0 (.slice a' nn (nc - 1))).set 1 (.slice ta tn tc)).set 2 (.bool false)).set 3 (.bool false)).set 4 (.slice a3 (kn + 1) c3))
      have O6 := Lib.hid o6
      obtain ⟨y0, -⟩ := o4.cel 1 rfl 0 _ rfl
      obtain ⟨y1, -⟩ := o4.cel 1 rfl 1 _ rfl
      obtain ⟨y2, -⟩ := o4.cel 1 rfl 2 _ rfl
      obtain ⟨y3, -⟩ := o4.cel 1 rfl 3 _ rfl
      obtain ⟨y4, u4⟩ := o4.cel 1 rfl 4 _ rfl
      obtain ⟨z0, s0⟩ := o4.cel 2 rfl 0 _ rfl
      obtain ⟨z1, s1⟩ := o4.cel 2 rfl 1 _ rfl
      obtain ⟨z2, s2⟩ := o4.cel 2 rfl 2 _ rfl
      obtain ⟨z3, s3⟩ := o4.cel 2 rfl 3 _ rfl
      obtain ⟨z4, s4⟩ := o4.cel 2 rfl 4 _ rfl
      clear o4 o5 o6 k3 ch3 f3 x4' hb0l' HW3
      go_wp2
      have hsm : b0 < (((((w4.setCell ⟨b0, 4, none⟩ (.slice a3 (kn + 1) c3)).setCell ⟨b1, 0, none⟩ (.slice a' nn (nc - 1))).setCell ⟨b1, 1, none⟩ (.slice ta tn tc)).setCell ⟨b1, 2, none⟩ (.bool false)).setCell ⟨b1, 3, none⟩ (.bool false)).heap.size := by
        have := World.block_lt_of_cell? w4 _ y0; simpa using this
      obtain ⟨WF, hWF⟩ : ∃ WF, WF = ((((((w4.setCell ⟨b0, 4, none⟩ (.slice a3 (kn + 1) c3)).setCell ⟨b1, 0, none⟩ (.slice a' nn (nc - 1))).setCell ⟨b1, 1, none⟩ (.slice ta tn tc)).setCell ⟨b1, 2, none⟩ (.bool false)).setCell ⟨b1, 3, none⟩ (.bool false)).setCell ⟨b1, 4, none⟩ (.slice a3 (kn + 1) c3)) := ⟨_, rfl⟩
      rw [← hWF] at O6 ⊢
      clear hWF hsm y0 y1 y2 y3 y4 u4 z0 z1 z2 z3 z4 s0 s1 s2 s3 s4
      obtain ⟨z0, -⟩ := O6.out.cel 0 rfl 0 _ rfl
      obtain ⟨z1, -⟩ := O6.out.cel 0 rfl 1 _ rfl
      obtain ⟨z2, -⟩ := O6.out.cel 0 rfl 2 _ rfl
      obtain ⟨z3, -⟩ := O6.out.cel 0 rfl 3 _ rfl
      obtain ⟨z4, -⟩ := O6.out.cel 0 rfl 4 _ rfl
      refine bodyPost_ret (v := .tuple #[.agg #[.slice a' nn (nc - 1), .slice ta tn tc, .bool false, .bool false, .slice a3 (kn + 1) c3], .int .i64 (x : Nat), .int .i64 0]) (by simp [results, Try.results13, go_sem, asAddr, z0, z1, z2, z3, z4]) rfl ?_
      obtain ⟨F, ⟨hF, hrow⟩, hFb⟩ := O6.out.fact 2 rfl
      have hcl : CellsAt WF a3 (recCells (taken ++ [(kind, x)])) := by
        have h1 := hrow.cells
        rw [show recCells (taken ++ [(kind, x)]) = recCells taken ++ recCells [(kind, x)] by unfold recCells; simp]
        exact h1
      have hkc := hrow.2.1
      have hbel := O6.out.bel

      obtain ⟨r2, r3, r4, r5, r6⟩ := HR.out
      obtain ⟨hca, hba⟩ := HCA.out
      refine ⟨hbel, a', nc - 1, ta, tc, a3, c3, ?_, ?_, ?_, ?_, ?_⟩
      · rw [HE.out]; unfold rval; simp only [← HNN.out, ← HTN.out, List.length_append, List.length_cons, List.length_nil, Nat.zero_add, ← HKN.out]
      · rw [HE.out]
        refine ⟨?_, by simp only [List.length_cons] at r2 ⊢; omega, r3.below hbel, r4, hcl, by simp only [List.length_append, List.length_cons, List.length_nil]; have := HKN.out; omega⟩
        rcases hca with h | h
        · have ht0 : t = [] := by simpa using h
          rw [ht0]; exact CellsAt.nil _ _
        · exact CellsAt.below h hbel
      · intro x hx; have := hba x hx; simp [blk]; exact this
      · intro x hx; exact hx
      · intro x hx; have := hFb x (by rw [hF]; exact hx); exact .inr ⟨this, hrow.lt x hx⟩
end Go.Proofs.Ytkjhaofodlpnmaa
