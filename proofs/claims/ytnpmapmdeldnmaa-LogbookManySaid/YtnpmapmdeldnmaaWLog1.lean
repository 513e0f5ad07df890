/-
  The walks of logbook.Read, and of what it shows the bodies to.
-/
import Derived.Test.YtnpmapmdeldnmaaSegRow
import Derived.Test.YtnpmapmdeldnmaaIntRow
import Derived.Test.YtnpmapmdeldnmaaWRecs3
import Derived.Deep.AppendLies
import Derived.Deep.RegionHeld3
import Derived.RegionTactic
import Derived.WalkSmall
import Derived.BigQuiet
import Derived.Deep.QuietTactic
open Go Go.RowKit
set_option linter.unusedVariables false
namespace Go.Proofs.Ytnpmapmdeldnmaa
/-- Is a body decisions to its end? -/
def whole (b : ByteArray) : Prop := (allR b).2 = b.size
instance (b : ByteArray) : Decidable (whole b) := by unfold whole; infer_instance
/-- The segments whose decisions are read; their decisions. -/
def readR (s : ByteArray) : List (ByteArray × Nat) := (scanR s 0).takeWhile fun x => decide (whole x.1)
def recsOf (l : List (ByteArray × Nat)) : List Rec := l.flatMap fun x => (allR x.1).1
theorem RecsAt.chg {F : List Nat} {w w' : World} {a : Option Addr} {l : List Rec} (h : RecsAt w a l) (c : Chg F w w') (hb : ∀ g o t, a = some ⟨g, o, t⟩ → g ∉ F) : RecsAt w' a l := fun i hi => by
  obtain ⟨b, off, h1, h2, h3⟩ := h i hi
  exact ⟨b, off, h1, cell_chg h2 c (hb b off none h1), cell_chg h3 c (hb b off none h1)⟩
theorem recsOf_snoc (l : List (ByteArray × Nat)) (x : ByteArray × Nat) : recsOf (l ++ [x]) = recsOf l ++ (allR x.1).1 := by unfold recsOf; simp
theorem recCells_app2 (l m : List Rec) : recCells (l ++ m) = recCells l ++ recCells m := by simp only [recCells, List.flatMap_append]
theorem recCells_one (l : List Rec) : ∀ u ∈ recCells l, u.oneCell' = true := fun u hu => by
  unfold recCells at hu
  simp only [List.mem_flatMap, List.mem_cons, List.not_mem_nil, or_false] at hu
  obtain ⟨r, _, rfl | rfl⟩ := hu <;> rfl
theorem recs_news {w : World} {b off : Nat} {l : List Rec} (h : RecsAt w (some ⟨b, off, none⟩) l) : ∀ j u, (recCells l)[j]? = some u → w.cell? ((⟨b, off, none⟩ : Addr).add j) = some u := fun j u hj => by
  have hlt := (List.getElem?_eq_some_iff.1 hj).1
  rw [recCells_len] at hlt
  obtain ⟨b', off', he, h1, h2⟩ := h (j / 2) (by omega)
  simp only [Option.some.injEq, Addr.mk.injEq, and_true] at he
  obtain ⟨rfl, rfl⟩ := he
  rw [Go.WideShapes.add_plain]
  obtain ⟨c1, c2⟩ := recCells_at l (j / 2) (by omega)
  rcases (by omega : j = j / 2 * 2 ∨ j = j / 2 * 2 + 1) with hh | hh
  · rw [hh] at hj ⊢; rw [c1] at hj; rw [← hj]; exact h1
  · rw [hh] at hj ⊢; rw [c2] at hj; rw [← hj]; exact h2
theorem allF_size (s : ByteArray) : (allR s).1.length ≤ (allR s).2 ∧ (allR s).2 ≤ s.size := by
  have := allF_len (s.size + 1) s 0 (Nat.zero_le _)
  unfold allR; omega
/-- append(v) of nothing. -/
theorem run_append_zero {P : Program} (w : World) (base : Nat) (t ty e : TypeId) (i : TypeInfo) (size : Nat) (ht : P.underlying t = some (.slice e)) (hi : P.info? e = some i)
    (v : Value) (n : Nat) (xs : List Value) (hown : w.ownsRow base e size v n xs) (ao : Option Addr) (c : Nat) :
    (Builtin.append_ #[t, t] ty #[v, .slice ao 0 c]).run P w = .ok v w := by
  cases ao <;> (rcases hown.2 with ⟨rfl, rfl⟩ | ⟨g, cap, cur, rfl, _, _, hnc, _⟩)
  · simp [Builtin.append_, run_underlying ht, sizeOf, typeInfo, hi, Builtin.lenOf, Builtin.firstCells]
  · simp [Builtin.append_, run_underlying ht, sizeOf, typeInfo, hi, Builtin.lenOf, Builtin.firstCells, hnc, storeCells]
  · simp [Builtin.append_, run_underlying ht, sizeOf, typeInfo, hi, Builtin.lenOf, Builtin.firstCells, loadCells, loadCellsFrom]
  · simp [Builtin.append_, run_underlying ht, sizeOf, typeInfo, hi, Builtin.lenOf, Builtin.firstCells, hnc, storeCells, loadCells, loadCellsFrom]
theorem BoxRow.far {w : World} {base p q n size : Nat} {e : TypeId} {xs : List Value} (h : BoxRow w base p e size n xs) (x : Value) (hq : ¬ q = p) (hb : q < base) : BoxRow (w.setCell ⟨q, 0, none⟩ x) base p e size n xs := by
  obtain ⟨v, h1, h2, h3⟩ := h
  exact ⟨v, h1, h2.setFar (by omega), owns_chg h3 ((Chg.refl [q] w).setCell (b := q) (k := 0) x (.inl (by simp))) (fun g hg => by have := (h3.lt g hg).1; simp; omega)⟩
theorem wpList_append_zero {P : Program} {w : World} {ops : Array Oper} {rest : List Oper} {o : Oper} {a : Act} {Q : Exit → Act → World → Prop} (hgd : o.guard = none) (sl x : Operand) (t : TypeId)
    (ho : o.op = .call { callee := .builtin .append, args := #[sl, x], argTypes := #[t, t] }) (base : Nat) (e : TypeId) (i : TypeInfo) (size : Nat) (ht : P.underlying t = some (.slice e)) (hi : P.info? e = some i)
    (v : Value) (n : Nat) (xs : List Value) (hs : a.eval sl = v) (hown : w.ownsRow base e size v n xs) (ao : Option Addr) (c : Nat) (hx : a.eval x = .slice ao 0 c) (h : wpList P ops Q rest (a.put o.dst v) w) : wpList P ops Q (o :: rest) a w := by
  refine wpList_plain hgd fun K hK => ?_
  have hr := run_append_zero (P := P) w base t o.type e i size ht hi v n xs hown ao c
  unfold Oper.wp execOp
  simp only [ho, resolve, invoke, builtin, Sem.run_bind, Sem.run_pure, Result.andThen_ok, List.map_toArray, List.map_cons, List.map_nil, hs, hx, hr]
  exact hK _ _ h
set_option maxRecDepth 100000 in
set_option maxHeartbeats 1000000 in
theorem see_read (pa ps n base : Nat) (b : ByteArray) (e : Nat) (w0 W : World) (recs : List Rec) (hb : b.size ≤ 4096) (hr : recs.length ≤ 1099511627776) (hn : n ≤ 1073741824) (hB : Below w0.heap.size w0 W) (hbase : w0.heap.size ≤ base) (hba : base ≤ W.heap.size) (hpa : w0.heap.size ≤ pa) (hpx : pa < base) (hpy : ps < base) (hps0 : w0.heap.size ≤ ps)
    (hne : ¬ ps = pa) (hbox : BoxRow W base pa 38 2 recs.length (recCells recs)) (hseg : Blk W ps [.int .i64 (n : Int)]) :
    Calls Try.prog 25 #[.string b, .int .i64 (e : Int), .pointer (some ⟨pa, 0, none⟩), .pointer (some ⟨ps, 0, none⟩)] W fun r W' =>
      (whole b ∧ r = .returned (.bool true) ∧ BoxRow W' base pa 38 2 (recs ++ (allR b).1).length (recCells (recs ++ (allR b).1)) ∧ Blk W' ps [.int .i64 ((n + 1 : Nat) : Int)] ∧ Below w0.heap.size w0 W') ∨
      (¬ whole b ∧ r = .returned (.bool false) ∧ Below W.heap.size W W') := by
  obtain ⟨i0, hi, hz0, hz1, hz2⟩ := info_parts info_rec
  have Hi := Lib.hid hi; clear hi
  have Hz0 := Lib.hid hz0; clear hz0
  have Hz1 := Lib.hid hz1; clear hz1
  have Hz2 := Lib.hid hz2; clear hz2
  have HB := Lib.hid hB; clear hB
  have hal := allF_size b
  have HX := Lib.hid hbox; clear hbox
  have HG := Lib.hid hseg; clear hseg
  go_enter Try.func25, Try.ntmps25
  go_wp2_with fail
  refine (all_any b _ (by omega)).mono ?_
  rintro r w1 ⟨a, cap, rfl, hc1, hc2, hc3, hb1⟩
  obtain ⟨L, hL⟩ : ∃ L, L = (allR b).1 := ⟨_, rfl⟩
  obtain ⟨N, hN⟩ : ∃ N, N = (allR b).2 := ⟨_, rfl⟩
  have hw : whole b ↔ N = b.size := by unfold whole; rw [hN]
  rw [← hL] at hc1 hc3 hal ⊢
  rw [← hN] at hal ⊢
  obtain ⟨k, hk⟩ : ∃ k, k = L.length := ⟨_, rfl⟩
  rw [← hk] at hc1 hal ⊢
  have Hk := Lib.hid hk; clear hk
  have HL := Lib.hid hL; clear hL hN
  have X1 := Lib.hid (HX.out.below hb1)
  have G1 := Lib.hid (HG.out.below hb1)
  have B1 := Lib.hid (below_on HB.out hb1)
  have hs1 := hb1.size
  have R1 := Lib.hid hc3; clear hc3
  have B01 := Lib.hid hb1; clear hb1
  by_cases hwh : N = b.size
  · have W1 := Lib.hid (hw.2 hwh); clear hw
    obtain ⟨v, hv, hblk, hown⟩ := X1.out
    obtain ⟨va, vc, rfl⟩ := owns_slice hown
    obtain ⟨e1, e2⟩ := hblk.at 0 (by simp)
    obtain ⟨g1, g2⟩ := G1.out.at 0 (by simp)
    simp only [List.getElem_cons_zero] at e1 g1
    have hge : b.size ≤ N := by omega
    by_cases hk0 : k = 0
    · have hL0 : L = [] := List.length_eq_zero_iff.1 (by rw [← Hk.out]; exact hk0)
      have HL0 := Lib.hid hL0; clear hL0
      subst hk0
      have hset := hblk.set 0 (.slice va recs.length vc)
      have HS := Lib.hid hset; clear hset
      have HV := Lib.hid (owns_chg hown ((Chg.refl [pa] w1).setCell (b := pa) (k := 0) (.slice va recs.length vc) (.inl (by simp))) (fun g hg => by simp; intro e; subst e; exact hv hg))
      have HN := Lib.hid (And.intro hv hblk); clear hblk
      go_wp2_with (first
        | (at_builtin; go_loud (refine wpList_append_zero rfl _ _ 29 rfl base 38 i0 2 Try.underlying29 Hi.out (.slice va recs.length vc) _ _ rfl hown a cap rfl ?_))
        | go_in)
      clear hv
      have HO := Lib.hid hown; clear hown
      have gq := G1.out.setFar (c := pa) (k := 0) (v := .slice va recs.length vc) (by omega)
      obtain ⟨q1, q2⟩ := gq.at 0 (by simp)
      simp only [List.getElem_cons_zero] at q1
      have GQ := Lib.hid gq; clear gq g1 g2
      go_wp2
      go_ret
      refine .inl ⟨W1.out, rfl, ?_, ?_, (B1.out.setCell hpa _).setCell hps0 _⟩
      · rw [← HL.out, HL0.out, List.append_nil]
        exact BoxRow.far ⟨_, HN.out.1, HS.out, HV.out⟩ _ hne hpy
      · exact GQ.out.set 0 _
    · obtain ⟨b2, o2, rfl, _, _⟩ := R1.out 0 (by rw [← Hk.out]; omega)
      go_wp2_with (first
        | (at_builtin; go_loud (refine wpList_append_lies _ rfl _ _ 29 rfl base 38 i0 _ 2 16 Try.underlying29 Hi.out Hz0.out Hz1.out Hz2.out rfl (by decide) _ _ _ rfl hown ⟨b2, o2, none⟩ k cap (recCells L) rfl (by rw [recCells_len, Hk.out]) (recs_news R1.out) (recCells_one _) (by omega) (by unfold maxLen; omega) (by omega) (by omega) w1.heap.size rfl ?_))
        | go_in)
      intro g cp w3 hown' hgrow hg' hlt'
      obtain ⟨⟨p1, p2⟩, p3, p4, p5⟩ := BoxRow.push (H := w1.heap.size) (w1 := w1) B1.out hbase hpa hv hblk hown (Below.refl _ _) hgrow hown' hg' (Nat.le_refl _)
      have gq := G1.out.chg p5 (by
        intro hx
        simp at hx
        rcases hx with hx | hx
        · exact hne hx
        · have := (hown.lt ps hx).1; omega)
      obtain ⟨q1, q2⟩ := gq.at 0 (by simp)
      simp only [List.getElem_cons_zero] at q1
      have GQ := Lib.hid gq; clear gq g1 g2
      have P3 := Lib.hid p3; clear p3
      have P4 := Lib.hid p4; clear p4 p5 hown' hgrow hg' hlt' hown hblk hv e1 e2
      go_wp2
      go_ret
      refine .inl ⟨W1.out, rfl, ?_, ?_, P4.out.setCell hps0 _⟩
      · rw [← HL.out, recCells_app2, List.length_append, ← Hk.out]
        exact BoxRow.far P3.out _ hne hpy
      · exact GQ.out.set 0 _
  · have W1 := Lib.hid (fun h => hwh (hw.1 h)); clear hw
    have hlt : N < b.size := by omega
    clear hwh
    go_wp2
    go_ret
    exact .inr ⟨W1.out, rfl, B01.out⟩
theorem scanF_len : ∀ (f : Nat) (s : ByteArray) (a q : Nat), (scanF f s a q).length ≤ f
  | 0, s, a, q => by simp [scanF]
  | f + 1, s, a, q => by
    rw [scanF]; split
    · rw [List.length_cons]; have := scanF_len f s (openR s a).2.2.1 ((q + 1) % 18446744073709551616); omega
    · simp
theorem scanR_len (s : ByteArray) (q : Nat) : (scanR s q).length ≤ s.size + 1 := scanF_len _ _ _ _
theorem readR_split (s : ByteArray) (pre post : List (ByteArray × Nat)) (h : scanR s 0 = pre ++ post) (h1 : ∀ x ∈ pre, whole x.1) (h2 : post = [] ∨ ∃ b e t, post = (b, e) :: t ∧ ¬ whole b) : readR s = pre := by
  unfold readR
  rw [h, List.takeWhile_append_of_pos (fun x hx => by simpa using h1 x hx)]
  rcases h2 with rfl | ⟨b, e, t, rfl, hb⟩
  · simp
  · rw [List.takeWhile_cons_of_neg (by simpa using hb), List.append_nil]
theorem enters_read (args : Array Value) (w : World) : (callFunc 25 args).run Try.prog w = .ok (.enter 25 args) w := by kernel_rfl
/-- What Read leaves. -/
def GotRead (s : ByteArray) (w : World) (e : Ending) (w' : World) : Prop :=
  ∃ a cap, e = .returned (.tuple #[.slice a (recsOf (readR s)).length cap, .int .i64 (lastEnd (readR s) : Int), .int .i64 ((readR s).length : Int)]) ∧ (recsOf (readR s)).length ≤ cap ∧ cap ≤ maxLen ∧ RecsAt w' a (recsOf (readR s)) ∧ Below w.heap.size w w' ∧ (∀ g o t, a = some ⟨g, o, t⟩ → w.heap.size ≤ g)
set_option maxHeartbeats 1000000 in
theorem scan_read (s : ByteArray) (w W : World) (hs : s.size ≤ 1048576) (hb : Below w.heap.size w W) (hsz : W.heap.size = w.heap.size + 2) (hbox : BoxRow W (w.heap.size + 2) w.heap.size 38 2 0 []) (hseg : Blk W (w.heap.size + 1) [.int .i64 0]) :
    Calls Try.prog 24 #[.string s, .int .u64 0, .func (.func 25) #[] #[.pointer (some ⟨w.heap.size, 0, none⟩), .pointer (some ⟨w.heap.size + 1, 0, none⟩)]] W fun e w' =>
      e = .returned (.int .i64 (lastEnd (readR s) : Int)) ∧ Below w.heap.size w w' ∧ BoxRow w' (w.heap.size + 2) w.heap.size 38 2 (recsOf (readR s)).length (recCells (recsOf (readR s))) ∧ Blk w' (w.heap.size + 1) [.int .i64 ((readR s).length : Int)] := by
  have hI : ∃ I : List (ByteArray × Nat) → World → Prop, I = fun pre W => Below w.heap.size w W ∧ BoxRow W (w.heap.size + 2) w.heap.size 38 2 (recsOf pre).length (recCells (recsOf pre)) ∧ Blk W (w.heap.size + 1) [.int .i64 (pre.length : Int)] ∧ (∀ x ∈ pre, whole x.1) ∧ (recsOf pre).length ≤ 4096 * pre.length := ⟨_, rfl⟩
  obtain ⟨I, hI⟩ := hI
  refine (scan_any 25 _ s 0 W (by omega) (by omega) I (fun pre W => I pre W ∧ ∃ b e t, scanR s 0 = pre ++ (b, e) :: t ∧ ¬ whole b) enters_read ?_ ?_ ?_).mono ?_
  · rw [hI]; exact ⟨hb, hbox, hseg, fun x hx => by simp at hx, by simp [recsOf]⟩
  · intro pre W1 W2 h hw
    rw [hI] at h ⊢
    obtain ⟨h1, h2, h3, h4, h6⟩ := h
    exact ⟨below_on h1 hw, h2.below hw, h3.below hw, h4, h6⟩
  · intro pre b e post W1 hL h hbs hes
    have h' := h
    rw [hI] at h
    obtain ⟨h1, h2, h3, h4, h6⟩ := h
    have h5 : w.heap.size + 2 ≤ W1.heap.size := h3.lt (by simp)
    have hl := scanR_len s 0
    rw [hL, List.length_append, List.length_cons] at hl
    refine (see_read w.heap.size (w.heap.size + 1) pre.length (w.heap.size + 2) b e w W1 (recsOf pre) hbs (by omega) (by omega) h1 (by omega) h5 (Nat.le_refl _) (by omega) (by omega) (by omega) (by omega) h2 h3).mono ?_
    rintro r W2 (⟨g1, rfl, g3, g4, g5⟩ | ⟨g1, rfl, g3⟩)
    · refine .inl ⟨rfl, ?_⟩
      rw [hI]
      have := allF_size b
      refine ⟨g5, by rw [recsOf_snoc]; exact g3, by rw [List.length_append]; exact g4, fun x hx => ?_, ?_⟩
      · rw [List.mem_append, List.mem_singleton] at hx
        rcases hx with hx | rfl
        · exact h4 x hx
        · exact g1
      · rw [recsOf_snoc, List.length_append, List.length_append, List.length_singleton]; simp only; omega
    · refine .inr ⟨rfl, ?_, b, e, post, hL, g1⟩
      rw [hI]
      exact ⟨below_on h1 g3, h2.below g3, h3.below g3, h4, h6⟩
  · rintro e w' ⟨pre, post, h1, rfl, h⟩
    have hpre : I pre w' ∧ readR s = pre := by
      rcases h with ⟨rfl, h⟩ | ⟨_, h, b, e, t, hL, hn⟩
      · have h' := h
        rw [hI] at h'
        exact ⟨h, readR_split s pre [] h1 h'.2.2.2.1 (.inl rfl)⟩
      · have h' := h
        rw [hI] at h'
        refine ⟨h, readR_split s pre post h1 h'.2.2.2.1 (.inr ⟨b, e, t, ?_, hn⟩)⟩
        rw [h1] at hL
        exact List.append_cancel_left hL
    obtain ⟨hp, he⟩ := hpre
    rw [hI] at hp
    rw [he]
    exact ⟨rfl, hp.1, hp.2.1, hp.2.2.1⟩
set_option maxRecDepth 100000 in
set_option maxHeartbeats 1000000 in
theorem read_any (s : ByteArray) (w : World) (hs : s.size ≤ 1048576) : Calls Try.prog 15 #[.string s] w (GotRead s w) := by
  have hmf : ∀ (fn : Fn) (first cap : Array Value) (w : World), (Instr.makeFunc fn first cap).run Try.prog w = .ok (.func fn first cap) w := fun _ _ _ _ => rfl
  go_enter Try.func15, Try.ntmps15
  go_wp2_with fail
  refine (scan_read s w _ hs ((below_alloc1 _ _).alloc (by simp) _) (by simp) ⟨.slice none 0 0, by simp [Value.ownBlock], (Blk.mk _ _ _ _ rfl).alloc _, World.ownsRow_nil _ _ _ _⟩ (Blk.mk _ _ _ _ (by simp))).mono ?_
  rintro e w1 ⟨rfl, hb, hbox, hseg⟩
  obtain ⟨v, hv, hblk, hown⟩ := hbox
  obtain ⟨a, cap, rfl, hc1, hc2, hat⟩ := RecsAt.of_own hown
  obtain ⟨e1, e2⟩ := hblk.at 0 (by simp)
  obtain ⟨g1, g2⟩ := hseg.at 0 (by simp)
  simp only [List.getElem_cons_zero] at e1 g1
  have hloc : ∀ g o t, a = some ⟨g, o, t⟩ → w.heap.size ≤ g := fun g o t e => by subst e; have := (hown.lt g rfl).1; omega
  have HE := Lib.hid (And.intro hc1 (And.intro hc2 (And.intro hat (And.intro hb hloc))))
  clear hloc
  clear hb hblk hown hat hv hc1 hc2 hseg
  go_wp2_with fail
  go_quiet (fail)
  go_wp2
  go_ret3
  exact ⟨a, cap, rfl, HE.out.1, HE.out.2.1, HE.out.2.2.1.below (below_drewN (Below.refl _ _) _), below_drewN HE.out.2.2.2.1 _, HE.out.2.2.2.2⟩
end Go.Proofs.Ytnpmapmdeldnmaa
