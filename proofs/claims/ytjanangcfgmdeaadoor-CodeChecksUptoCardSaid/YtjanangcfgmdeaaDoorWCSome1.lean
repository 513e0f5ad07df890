/-
  The walk of the law's Some.
-/
import Derived.Test.YtjanangcfgmdeaaDoorCodeR
import Derived.Test.YtjanangcfgmdeaaDoorWCMod
import Derived.Test.YtjanangcfgmdeaaDoorWCFitA
import Derived.Test.YtjanangcfgmdeaaDoorSegZ
import Derived.Deep.CutBlock
open Go Go.RowKit
set_option linter.unusedVariables false
namespace Go.Proofs.YtjanangcfgmdeaaDoor
theorem info_rc : (Tryd.prog.info? 49).map (fun i => (i.zero, i.size, i.bytes)) = some (some (.agg #[.int .i64 0, .int .i64 0, .int .i64 0]), 3, 24) := by kernel_rfl
theorem info_ri : (Tryd.prog.info? 43).map (fun i => (i.zero, i.size, i.bytes)) = some (some (.agg #[.int .i64 0, .int .i64 0, .int .i64 0, .int .i64 0]), 4, 32) := by kernel_rfl
theorem info_rs : (Tryd.prog.info? 40).map (fun i => (i.zero, i.size, i.bytes)) = some (some (.slice none 0 0), 1, 24) := by kernel_rfl
theorem size_rs : ∀ w, (sizeOf (Tryd.prog.elem 22)).run Tryd.prog w = .ok 1 w := by intro w; kernel_rfl
theorem size_ri : ∀ w, (sizeOf (Tryd.prog.elem 40)).run Tryd.prog w = .ok 4 w := by intro w; kernel_rfl
/-- A row of functions, each within its room. -/
def FunC (w : World) (a : Option Addr) (l : List (List In4)) : Prop := ∀ i (h : i < l.length), ∃ b off a' c', a = some ⟨b, off, none⟩ ∧ w.cell? ⟨b, off + i, none⟩ = some (.slice a' l[i].length c') ∧ l[i].length ≤ c' ∧ c' ≤ maxLen ∧ InsAt w a' l[i]
theorem FunC.below {w w' : World} {a : Option Addr} {l : List (List In4)} (h : FunC w a l) (hb : Below w.heap.size w w') : FunC w' a l := fun i hi => by
  obtain ⟨b, off, a', c', rfl, h1, h2, h3, h4⟩ := h i hi
  exact ⟨b, off, a', c', rfl, cell_below h1 hb, h2, h3, h4.below hb⟩
/-- What the program that may be is. -/
def SomeP (w : World) (r : Ending) (w' : World) : Prop :=
  ∃ fa fc rs ca cc cs ka kc ks lk, r = .returned (.agg #[.slice fa (List.length rs) fc, .slice ca (List.length cs) cc, .int .i64 lk, .slice ka (List.length ks) kc]) ∧ (1 ≤ rs.length ∧ rs.length ≤ 5) ∧ PartOK cs lk ks ∧ (∀ r : Fr, r ∈ rs → FnOK rs.length cs.length ks.length lk r.l) ∧
    Own w w' (RowGA 1 fa fc rs.length (frs rs) :: RowGA 1 ca cc cs.length (intc cs) :: RowGA 3 ka kc ks.length (cac ks) :: fns rs)
/-- Behind the rooms. -/
def Ps1 (w wr : World) (s0 s1 ob : Nat) (A0 A1 : List Value) (lk : Int) (i : Nat) : Prop :=
  ∃ a1 c1 cs, cs.length = i ∧ (∀ c ∈ cs, 0 ≤ c ∧ c ≤ 3) ∧ Own w wr [CelA ob [.slice none 0 0, .slice a1 i c1, .int .i64 lk, .slice none 0 0], RowGA 1 a1 c1 i (intc cs), CelA s1 A1, CelA s0 A0]
/-- Behind the cases. -/
def Ps2 (w wr : World) (s0 s1 ob : Nat) (A0 A1 : List Value) (lk : Int) (a1 : Option Addr) (c1 : Nat) (cs : List Int) (n j : Nat) : Prop :=
  ∃ a2 c2 ks, ks.length = j ∧ (∀ k ∈ ks, casI n k = true) ∧ Own w wr [CelA ob [.slice none 0 0, .slice a1 n c1, .int .i64 lk, .slice a2 j c2], RowGA 3 a2 c2 j (cac ks), RowGA 1 a1 c1 n (intc cs), CelA s1 A1, CelA s0 A0]
theorem prog_getr {w : World} {b : Nat} {fa : Option Addr} {nf fc : Nat} {ca : Option Addr} {nc cc : Nat} {lk : Int} {ka : Option Addr} {nk kc : Nat} (h : Blk w b [.slice fa nf fc, .slice ca nc cc, .int .i64 lk, .slice ka nk kc]) : (loadVar 26 ⟨b, 0, none⟩).run Tryd.prog w = .ok (.agg #[.slice fa nf fc, .slice ca nc cc, .int .i64 lk, .slice ka nk kc]) w := by
  have e0 := (h 0 _ rfl).1
  have e1 := (h 1 _ rfl).1
  have e2 := (h 2 _ rfl).1
  have e3 := (h 3 _ rfl).1
  simp [go_sem, e0, e1, e2, e3]
theorem Own.noFns {w0 w : World} {R : List Asr} (h : Own w0 w R) : ∀ n : Nat, Own w0 w (fns (List.replicate n ⟨none, 0, []⟩) ++ R)
  | 0 => h
  | n + 1 => (Own.noFns h n).add (Below.refl _ _) (A := RowGA 4 none 0 0 (inc [])) (F := []) ⟨rfl, RowG.nil 4 _⟩ (by simp)
theorem made_rs (n : Nat) : (madeCells #[Value.slice none 0 0] (n * 1)).toList = frs (List.replicate n ⟨none, 0, []⟩) := by
  rw [Nat.mul_one, toList_madeCells_one]; unfold frs frv; simp
theorem make_rs (w : World) (n : Nat) (hn : n ≤ 1000000) : ∃ w1 a c, (Instr.makeSlice 22 (.int .i64 (n : Int)) (.int .i64 (n : Int))).run Tryd.prog w = .ok (.slice a n c) w1 ∧ RowG 1 w1 a c n (frs (List.replicate n ⟨none, 0, []⟩)) ∧ (∀ x ∈ blk a, w.heap.size ≤ x) ∧ Below w.heap.size w w1 := by
  obtain ⟨i0, hi, hz0, hz1, hz2⟩ := info_parts info_rs
  obtain ⟨w1, h1, h2, h3⟩ := run_make_full (P := Tryd.prog) w w.heap.size 22 40 i0 _ 1 Tryd.underlying22 hi hz0 hz1 .i64 .i64 n (by rw [hz2]; omega) (by unfold maxLen; omega) (Nat.le_refl _)
  obtain ⟨a, cap, e, hr, hb⟩ := RowG.of_own h2
  simp only [Value.slice.injEq] at e
  obtain ⟨e1, e2, e3⟩ := e
  subst e1
  rw [← e3] at hr
  rw [show (Value.slice none 0 0).cells = #[Value.slice none 0 0] from rfl, made_rs] at hr
  exact ⟨w1, _, _, h1, hr, hb, (grownBy_chg h3).to_below0⟩
/-- Functions whose rows stay where they are, while some pieces do. -/
def FunX (w : World) (X : List Asr) (ga : Option Addr) (gl : List (List In4)) : Prop := ∀ q (h : q < gl.length), ∃ b off a' c', ga = some ⟨b, off, none⟩ ∧ gl[q].length ≤ c' ∧ c' ≤ maxLen ∧ ∀ wy L, Own w wy (L ++ X) → wy.cell? ⟨b, off + q, none⟩ = some (.slice a' gl[q].length c') ∧ InsAt wy a' gl[q]
/-- Functions in the midst. -/
def Ps3 (w wr : World) (ob gn nc nk : Nat) (lk : Int) (sa : Option Addr) (sc : Nat) (i : Nat) (L : List Asr) : Prop :=
  ∃ rs : List Fr, rs.length = gn ∧ (∀ k r, k < i → rs[k]? = some r → FnOK gn nc nk lk r.l) ∧ Own w wr (fns rs ++ RowGA 1 sa sc gn (frs rs) :: L)
set_option maxRecDepth 100000 in
set_option maxHeartbeats 8000000 in
theorem some_any (fa : Option Addr) (fc : Nat) (ca : Option Addr) (cc : Nat) (ka : Option Addr) (kc : Nat) (d : PD) (w : World) (hf : FunC w fa d.fs) (hc : IntsAt w ca d.cs) (hk : CasAt w ka d.ks) (hfit : Fits d) (hl1 : d.fs.length ≤ fc) (hl2 : fc ≤ maxLen) (hl3 : d.cs.length ≤ 9223372036854775807) (hl4 : d.ks.length ≤ 9223372036854775807) :
    Calls Tryd.prog 6 #[.agg #[.slice fa d.fs.length fc, .slice ca d.cs.length cc, .int .i64 d.lk, .slice ka d.ks.length kc]] w fun r w' => SomeP w r w' := by
  obtain ⟨fs, cs0, lk0, ks0⟩ := d
  simp only at hf hc hk hl1 hl3 hl4 hfit ⊢
  unfold maxLen at hl2
  obtain ⟨nf, hnf⟩ : ∃ n, fs.length = n := ⟨_, rfl⟩
  obtain ⟨nc, hn⟩ : ∃ n, cs0.length = n := ⟨_, rfl⟩
  obtain ⟨nk, hm⟩ : ∃ n, ks0.length = n := ⟨_, rfl⟩
  rw [hnf] at hl1 ⊢
  rw [hn] at hl3 ⊢
  rw [hm] at hl4 ⊢
  have HNF := Lib.hid hnf
  have HN := Lib.hid hn
  have HM := Lib.hid hm
  have HF := Lib.hid hf
  have HC := Lib.hid hc
  have HK := Lib.hid hk
  have HFIT := Lib.hid hfit
  obtain ⟨s0, hs0⟩ : ∃ s0, s0 = w.heap.size := ⟨_, rfl⟩
  have HW := Lib.hid hs0
  have hO : Own w ((w.alloc (.cells #[.slice fa nf fc, .slice ca nc cc, .int .i64 lk0, .slice ka nk kc] 26)).alloc (.cells #[.slice none 0 0, .slice none 0 0, .int .i64 0, .slice none 0 0] 26)) [CelA (s0 + 1) [.slice none 0 0, .slice none 0 0, .int .i64 0, .slice none 0 0], CelA s0 [.slice fa nf fc, .slice ca nc cc, .int .i64 lk0, .slice ka nk kc]] :=
    ((Own.nil (Below.refl _ _)).alloc [.slice fa nf fc, .slice ca nc cc, .int .i64 lk0, .slice ka nk kc] _ hs0).alloc [.slice none 0 0, .slice none 0 0, .int .i64 0, .slice none 0 0] _ (by simp [hs0])
  have HO := Lib.hid hO
  clear hO hf hc hk hnf hn hm hfit
  obtain ⟨r0, hi0, hz0, hz1, hz2⟩ := info_parts info_rc
  have Ri := Lib.hid hi0; clear hi0
  have Rz0 := Lib.hid hz0; clear hz0
  have Rz1 := Lib.hid hz1; clear hz1
  have Rz2 := Lib.hid hz2; clear hz2
  obtain ⟨q0, hi0, hz0, hz1, hz2⟩ := info_parts info_ri
  have Qi := Lib.hid hi0; clear hi0
  have Qz0 := Lib.hid hz0; clear hz0
  have Qz1 := Lib.hid hz1; clear hz1
  have Qz2 := Lib.hid hz2; clear hz2
  obtain ⟨n0, hi0, hz0, hz1, hz2⟩ := info_parts info_in
  have Ni := Lib.hid hi0; clear hi0
  have Nz0 := Lib.hid hz0; clear hz0
  have Nz1 := Lib.hid hz1; clear hz1
  have Nz2 := Lib.hid hz2; clear hz2
  go_enter Tryd.func6, Tryd.ntmps6
  go_upto_region 1 with fail
  rw [← hs0]
  clear hs0
  generalize ((w.alloc (.cells #[.slice fa nf fc, .slice ca nc cc, .int .i64 lk0, .slice ka nk kc] 26)).alloc (.cells #[.slice none 0 0, .slice none 0 0, .int .i64 0, .slice none 0 0] 26)) = W at *
  obtain ⟨p2, -⟩ := HO.out.cel 1 rfl 2 _ rfl
  go_wp2_with fail
  refine (mod_any lk0 4 W (by omega)).mono ?_
  rintro r W ⟨rfl, rfl⟩
  obtain ⟨lk, hlk⟩ : ∃ lk, lk = modI lk0 4 := ⟨_, rfl⟩
  have hlkr : 0 ≤ lk ∧ lk ≤ 3 := by have := modI_range lk0 4 (by omega); omega
  rw [← hlk]
  clear hlk p2
  obtain ⟨ob, hob⟩ : ∃ ob, ob = W.heap.size := ⟨_, rfl⟩
  have hO1 := HO.out.alloc [.slice none 0 0, .slice none 0 0, .int .i64 lk, .slice none 0 0] 26 hob
  have hst : Ps1 w (W.alloc (.cells #[.slice none 0 0, .slice none 0 0, .int .i64 lk, .slice none 0 0] 26)) s0 (s0 + 1) ob [.slice fa nf fc, .slice ca nc cc, .int .i64 lk0, .slice ka nk kc] [.slice none 0 0, .slice none 0 0, .int .i64 0, .slice none 0 0] lk 0 :=
    ⟨none, 0, [], rfl, by simp, (hO1.add (Below.refl _ _) (A := RowGA 1 none 0 0 (intc [])) (F := []) ⟨rfl, RowG.nil 1 _⟩ (by simp)).pick 1 rfl⟩
  have HST := Lib.hid hst
  clear hO1 hst HO
  go_wp2_with fail
  rw [← hob]
  clear hob
  go_loopw [4] (fun s wr => ∃ i : Nat, i ≤ nc ∧ i ≤ 4 ∧ s = .int .i64 i ∧ Hid (Ps1 w wr s0 (s0 + 1) ob [.slice fa nf fc, .slice ca nc cc, .int .i64 lk0, .slice ka nk kc] [.slice none 0 0, .slice none 0 0, .int .i64 0, .slice none 0 0] lk i)) (fun s _ => 4 - (intOf s).toNat)
  case atStart => exact ⟨0, by omega, by omega, rfl, HST⟩
  case round =>
    obtain ⟨i, hi1, hi2, rfl, hr⟩ := hrel
    clear HST
    by_cases hlt : i < nc ∧ i < 4
    · obtain ⟨a1, c1, cs, h1, h2, ho⟩ := hr.out
      obtain ⟨p1, -⟩ := ho.cel 3 rfl 1 _ rfl
      obtain ⟨z1, z2⟩ := hlt
      have hil : i < cs0.length := by rw [HN.out]; exact z1
      obtain ⟨b, off, rfl, e0⟩ := HC.out i hil
      obtain ⟨x, hx⟩ : ∃ x, x = cs0[i] := ⟨_, rfl⟩
      rw [← hx] at e0
      have z1' : (i : Int) < (nc : Int) := by omega
      have z2' : (i : Int) < 4 := by omega
      have SCB : ∀ {wx : World} {A : Asr}, Own w wx [CelA ob [.slice none 0 0, .slice a1 i c1, .int .i64 lk, .slice none 0 0], A, CelA (s0 + 1) [.slice none 0 0, .slice none 0 0, .int .i64 0, .slice none 0 0], CelA s0 [.slice fa nf fc, .slice (some ⟨b, off, none⟩) nc cc, .int .i64 lk0, .slice ka nk kc]] → (wx.cell? ⟨ob, 1, none⟩ = some (.slice a1 i c1) ∧ wx.cell? ⟨s0, 1, none⟩ = some (.slice (some ⟨b, off, none⟩) nc cc) ∧ wx.cell? ⟨b, off + i, none⟩ = some (.int .i64 x)) :=
        fun h => ⟨(h.cel 0 rfl 1 _ rfl).1, (h.cel 3 rfl 1 _ rfl).1, cell_below e0 h.bel⟩
      obtain ⟨y, hyr, hmod⟩ : ∃ y, (0 ≤ y ∧ y ≤ 3) ∧ ∀ w', Calls Tryd.prog 9 #[.int .i64 x, .int .i64 4] w' fun e w'' => e = .returned (.int .i64 y) ∧ w'' = w' := ⟨modI x 4, by have := modI_range x 4 (by omega); omega, fun w' => mod_any x 4 w' (by omega)⟩
      have HMOD := Lib.hid hmod
      have HYR := Lib.hid hyr
      have HO := Lib.hid ho
      have HH := Lib.hid (And.intro h1 h2)
      clear hmod hyr
      clear hr ho h1 h2 hx hil
      go_upto_region 5 with fail
      have o1 := HO.out.step (below_drew1 wr)
      refine wp_region_lexZ (fun wx => wx.cell? ⟨ob, 1, none⟩ = some (.slice a1 i c1) ∧ wx.cell? ⟨s0, 1, none⟩ = some (.slice (some ⟨b, off, none⟩) nc cc) ∧ wx.cell? ⟨b, off + i, none⟩ = some (.int .i64 x)) 12 (Array.replicate 12 false) (by kernel_rfl) (by kernel_rfl) ?_
      refine wpAnyZ_seg 0 7 _ #[true, true, true, true, true, true, true, false, false, false, false, false] 5 (by kernel_rfl) noPanic_put (SCB o1) (by kernel_rfl) ?_
      simp only [List.take_succ_cons, List.take_zero, List.drop_zero]
      repeat (first
        | (refine wpSegH_no (by rfl) ?_; simp only [Act.put, List.setIfInBounds_toArray, List.set_cons_zero, List.set_cons_succ])
        | (refine wpSegH_yes (by rfl) ?_; apply Exists.intro; apply And.intro; (· (intro wx hS; (try dsimp only at hS); go_simp; first | done | with_reducible rfl)); simp only [Act.put, List.setIfInBounds_toArray, List.set_cons_zero, List.set_cons_succ]))
      refine wpSegH_nil ?_
      refine wpAnyZ_one 7 _ #[true, true, true, true, true, true, true, true, false, false, false, false] 4 (by kernel_rfl) (fun K hK => ?_)
      have HKK := Lib.hid hK
      clear hK
      simp only [List.drop_succ_cons, List.drop_zero]
      refine headH_mk (by rfl) ?_
      go_simp
      refine (HMOD.out wr.drew).mono ?_
      rintro r w7 ⟨rfl, rfl⟩
      refine HKK.out _ _ (SCB o1) ?_
      clear HKK K
      have o2 := (HO.out.step (below_alloc1 wr (.cells #[.int .i64 y] 3))).step (below_drew1 _)
      refine wpAnyZ_one 8 _ #[true, true, true, true, true, true, true, true, true, false, false, false] 3 (by kernel_rfl) (fun K hK => ?_)
      have HKK := Lib.hid hK
      clear hK
      simp only [List.drop_succ_cons, List.drop_zero]
      refine headH_mk (by rfl) ?_
      go_simp
      refine HKK.out _ _ (SCB o2) ?_
      clear HKK K
      refine wpAnyZ_one 9 _ #[true, true, true, true, true, true, true, true, true, true, false, false] 2 (by kernel_rfl) (fun K hK => ?_)
      have HKK := Lib.hid hK
      clear hK
      simp only [List.drop_succ_cons, List.drop_zero]
      refine headH_mk (by rfl) ?_
      refine wp_append_rowG (n := i) (m := 1) (cs := intc cs) (ds := intc [y]) _ _ 23 (by rfl) 3 n0 _ Tryd.underlying23 Ni.out Nz0.out Nz1.out Nz2.out rfl (by omega) (by omega) (by rfl) (by rfl) (o2.rowG 1 rfl) ((CellsAt.new wr (intc [y]) _ rfl).below (below_drew1 _)) rfl (intc_one _) (by omega) ?_
      intro a9 c9 w9 k9 ch9 f9
      have o3 : Own w w9 [CelA ob [.slice none 0 0, .slice a1 i c1, .int .i64 lk, .slice none 0 0], RowGA 1 a9 c9 (i + 1) (intc cs ++ intc [y]), CelA (s0 + 1) [.slice none 0 0, .slice none 0 0, .int .i64 0, .slice none 0 0], CelA s0 [.slice fa nf fc, .slice (some ⟨b, off, none⟩) nc cc, .int .i64 lk0, .slice ka nk kc]] := (Own.rowTurn (o2.pick 1 rfl) k9 ch9 f9).pick 1 rfl
      refine HKK.out _ _ (SCB o3) ?_
      clear HKK K
      refine wpAnyZ_seg 10 1 _ #[true, true, true, true, true, true, true, true, true, true, true, false] 1 (by kernel_rfl) noPanic_put (SCB o3) (by kernel_rfl) ?_
      simp only [List.take_succ_cons, List.take_zero, List.drop_succ_cons, List.drop_zero]
      repeat (first
        | (refine wpSegH_no (by rfl) ?_; simp only [Act.put, List.setIfInBounds_toArray, List.set_cons_zero, List.set_cons_succ])
        | (refine wpSegH_yes (by rfl) ?_; apply Exists.intro; apply And.intro; (· (intro wx hS; (try dsimp only at hS); go_simp; first | done | with_reducible rfl)); simp only [Act.put, List.setIfInBounds_toArray, List.set_cons_zero, List.set_cons_succ]))
      refine wpSegH_nil ?_
      obtain ⟨y1, g1⟩ := o3.cel 0 rfl 1 _ rfl
      have hfin := o3.setAt 0 rfl 1 (.slice a9 (i + 1) c9)
      have HR : Hid (Ps1 w (w9.setCell ⟨ob, 1, none⟩ (.slice a9 (i + 1) c9)) s0 (s0 + 1) ob [.slice fa nf fc, .slice (some ⟨b, off, none⟩) nc cc, .int .i64 lk0, .slice ka nk kc] [.slice none 0 0, .slice none 0 0, .int .i64 0, .slice none 0 0] lk (i + 1)) := Lib.hid ⟨a9, c9, cs ++ [y], by simp [HH.out.1], fun c hc => by
        rcases List.mem_append.1 hc with h | h
        · exact HH.out.2 c h
        · obtain rfl := by simpa using h
          exact HYR.out, by rw [show intc (cs ++ [y]) = intc cs ++ intc [y] by unfold intc; simp]; exact hfin⟩
      clear hfin k9 ch9 f9 o1 o2 o3 SCB HO HH
      refine wpAnyZ_end 11 _ #[true, true, true, true, true, true, true, true, true, true, true, true] (by kernel_rfl) (fun K hK => ?_)
      have HKK := Lib.hid hK
      clear hK
      simp only [List.drop_succ_cons, List.drop_zero]
      refine headH_mk (by rfl) ?_
      go_simp
      refine HKK.out _ _ (NoPanic.normal ?_)
      clear HKK K
      go_wp2
      exact ⟨⟨i + 1, by omega, by omega, by go_num, HR⟩, by simp [intOf]; omega⟩
    · have hcase : (i < nc ∧ ¬ i < 4) ∨ ¬ i < nc := by omega
      obtain ⟨a1, c1, cs, h1, h2, ho⟩ := hr.out
      obtain ⟨p1, -⟩ := ho.cel 3 rfl 1 _ rfl
      have hst : Ps2 w wr s0 (s0 + 1) ob [.slice fa nf fc, .slice ca nc cc, .int .i64 lk0, .slice ka nk kc] [.slice none 0 0, .slice none 0 0, .int .i64 0, .slice none 0 0] lk a1 c1 cs i 0 :=
        ⟨none, 0, [], rfl, by simp, (ho.add (Below.refl _ _) (A := RowGA 3 none 0 0 (cac [])) (F := []) ⟨rfl, RowG.nil 3 _⟩ (by simp)).pick 1 rfl⟩
      have HST := Lib.hid hst
      have HH := Lib.hid (And.intro h1 h2)
      clear hr h1 h2 ho hst
      go_upto_region 3 with fail
      go_cut [26] (fun s wx => s = .bool false ∧ wx = wr)
      case first =>
        rcases hcase with ⟨z1, z2⟩ | z1
        case' inl => have z1 : (i : Int) < (nc : Int) := by omega
        case' inl => have z2 : ¬ (i : Int) < 4 := by omega
        case' inr => have z1 : ¬ (i : Int) < (nc : Int) := by omega
        all_goals
          go_wp2_with fail
          go_meet
          exact ⟨rfl, rfl⟩
      case rest =>
        obtain ⟨rfl, hwc⟩ := hcut
        have hwc := hwc.symm
        subst hwc
        clear hcase p1 hlt
        go_wp2_with fail
        go_loopw [5] (fun s wr => ∃ j : Nat, j ≤ nk ∧ j ≤ 8 ∧ s = .int .i64 j ∧ Hid (Ps2 w wr s0 (s0 + 1) ob [.slice fa nf fc, .slice ca nc cc, .int .i64 lk0, .slice ka nk kc] [.slice none 0 0, .slice none 0 0, .int .i64 0, .slice none 0 0] lk a1 c1 cs i j)) (fun s _ => 8 - (intOf s).toNat)
        case atStart => exact ⟨0, by omega, by omega, rfl, HST⟩
        case round =>
          obtain ⟨j, hj1, hj2, rfl, hr⟩ := hrel
          clear HST
          by_cases hlt : j < nk ∧ j < 8
          · obtain ⟨a2, c2, ks, h1, h2, ho⟩ := hr.out
            obtain ⟨p1, -⟩ := ho.cel 4 rfl 3 _ rfl
            obtain ⟨z1, z2⟩ := hlt
            have hjl : j < ks0.length := by rw [HM.out]; exact z1
            obtain ⟨b, off, rfl, e0, e1, e2⟩ := (HK.out.below ho.bel) j hjl
            obtain ⟨x, hx⟩ : ∃ x, x = ks0[j] := ⟨_, rfl⟩
            rw [← hx] at e0 e1 e2
            obtain ⟨x0, x1, x2⟩ := x
            simp only at e0 e1 e2
            have z1' : (j : Int) < (nk : Int) := by omega
            have z2' : (j : Int) < 8 := by omega
            obtain ⟨cb, hcb⟩ : ∃ cb, cb = wr.heap.size := ⟨_, rfl⟩
            have hO := ho.alloc [.int .i64 x0, .int .i64 x1, .int .i64 x2] 49 hcb
            have HO := Lib.hid hO
            have HH2 := Lib.hid (And.intro h1 h2)
            obtain ⟨y0, hy0, hm0⟩ : ∃ y, (0 ≤ y ∧ y ≤ 2) ∧ ∀ w', Calls Tryd.prog 9 #[.int .i64 x0, .int .i64 3] w' fun e w'' => e = .returned (.int .i64 y) ∧ w'' = w' := ⟨modI x0 3, by have := modI_range x0 3 (by omega); omega, fun w' => mod_any x0 3 w' (by omega)⟩
            obtain ⟨y1, hy1, hm1⟩ : ∃ y : Int, (1 ≤ i → 0 ≤ y ∧ y < i) ∧ ∀ w', Calls Tryd.prog 9 #[.int .i64 x1, .int .i64 (i : Int)] w' fun e w'' => e = .returned (.int .i64 y) ∧ w'' = w' := ⟨modI x1 i, fun h => modI_range x1 i (by omega), fun w' => mod_any x1 i w' (by omega)⟩
            obtain ⟨y2, hy2, hm2⟩ : ∃ y, (0 ≤ y ∧ y ≤ 7) ∧ ∀ w', Calls Tryd.prog 9 #[.int .i64 x2, .int .i64 8] w' fun e w'' => e = .returned (.int .i64 y) ∧ w'' = w' := ⟨modI x2 8, by have := modI_range x2 8 (by omega); omega, fun w' => mod_any x2 8 w' (by omega)⟩
            have HM0 := Lib.hid hm0
            have HM1 := Lib.hid hm1
            have HM2 := Lib.hid hm2
            have HY := Lib.hid (And.intro hy0 (And.intro hy1 hy2))
            clear hr ho h1 h2 hx hjl hO hy0 hy1 hy2 hm0 hm1 hm2
            go_upto_region 10 with fail
            rw [← hcb]
            generalize wr.alloc (.cells #[.int .i64 x0, .int .i64 x1, .int .i64 x2] 49) = W at *
            clear hcb p1 e0 e1 e2
            obtain ⟨b7, hb7⟩ : ∃ b7, b7 = W.heap.size := ⟨_, rfl⟩
            have SCB : ∀ {wx : World}, Below W.heap.size W wx → (wx.cell? ⟨cb, 0, none⟩ = some (.int .i64 x0) ∧ wx.cell? ⟨cb, 1, none⟩ = some (.int .i64 x1) ∧ wx.cell? ⟨cb, 2, none⟩ = some (.int .i64 x2) ∧ wx.cell? ⟨ob, 1, none⟩ = some (.slice a1 i c1)) :=
              fun h => ⟨cell_below (HO.out.cel 0 rfl 0 _ rfl).1 h, cell_below (HO.out.cel 0 rfl 1 _ rfl).1 h, cell_below (HO.out.cel 0 rfl 2 _ rfl).1 h, cell_below (HO.out.cel 1 rfl 1 _ rfl).1 h⟩
            go_cut [7] (fun s wx => s = .pointer (some ⟨b7, 0, none⟩) ∧ wx = (W.alloc (.cells #[.int .i64 y0, .int .i64 y1, .int .i64 y2] 49)).drew)
            case first =>
              have o1 := below_drew1 W
              have oA := below_on (below_alloc1 W (.cells #[.int .i64 0, .int .i64 0, .int .i64 0] 49)) (below_drew1 _)
              refine wp_region_lexZ (fun wx => wx.cell? ⟨cb, 0, none⟩ = some (.int .i64 x0) ∧ wx.cell? ⟨cb, 1, none⟩ = some (.int .i64 x1) ∧ wx.cell? ⟨cb, 2, none⟩ = some (.int .i64 x2) ∧ wx.cell? ⟨ob, 1, none⟩ = some (.slice a1 i c1)) 15 (Array.replicate 15 false) (by kernel_rfl) (by kernel_rfl) ?_
              refine wpAnyZ_seg 0 2 _ #[true, true, false, false, false, false, false, false, false, false, false, false, false, false, false] 13 (by kernel_rfl) noPanic_put (SCB o1) (by kernel_rfl) ?_
              simp only [List.take_succ_cons, List.take_zero, List.drop_zero]
              repeat (first
                | (refine wpSegH_no (by rfl) ?_; simp only [Act.put, List.setIfInBounds_toArray, List.set_cons_zero, List.set_cons_succ])
                | (refine wpSegH_yes (by rfl) ?_; apply Exists.intro; apply And.intro; (· (intro wx hS; (try dsimp only at hS); go_simp; first | done | with_reducible rfl)); simp only [Act.put, List.setIfInBounds_toArray, List.set_cons_zero, List.set_cons_succ]))
              refine wpSegH_nil ?_
              refine wpAnyZ_seg 3 5 _ #[true, true, false, true, true, true, true, true, false, false, false, false, false, false, false] 8 (by kernel_rfl) noPanic_put (SCB o1) (by kernel_rfl) ?_
              simp only [List.take_succ_cons, List.take_zero, List.drop_succ_cons, List.drop_zero]
              repeat (first
                | (refine wpSegH_no (by rfl) ?_; simp only [Act.put, List.setIfInBounds_toArray, List.set_cons_zero, List.set_cons_succ])
                | (refine wpSegH_yes (by rfl) ?_; apply Exists.intro; apply And.intro; (· (intro wx hS; (try dsimp only at hS); go_simp; first | done | with_reducible rfl)); simp only [Act.put, List.setIfInBounds_toArray, List.set_cons_zero, List.set_cons_succ]))
              refine wpSegH_nil ?_
              refine wpAnyZ_seg 9 2 _ #[true, true, false, true, true, true, true, true, false, true, true, false, false, false, false] 6 (by kernel_rfl) noPanic_put (SCB o1) (by kernel_rfl) ?_
              simp only [List.take_succ_cons, List.take_zero, List.drop_succ_cons, List.drop_zero]
              repeat (first
                | (refine wpSegH_no (by rfl) ?_; simp only [Act.put, List.setIfInBounds_toArray, List.set_cons_zero, List.set_cons_succ])
                | (refine wpSegH_yes (by rfl) ?_; apply Exists.intro; apply And.intro; (· (intro wx hS; (try dsimp only at hS); go_simp; first | done | with_reducible rfl)); simp only [Act.put, List.setIfInBounds_toArray, List.set_cons_zero, List.set_cons_succ]))
              refine wpSegH_nil ?_
              --REG10<
              refine wpAnyZ_two 2 13 _ #[true, true, true, true, true, true, true, true, false, true, true, false, false, false, false] #[true, true, false, true, true, true, true, true, false, true, true, false, false, true, false] 5 (by kernel_rfl) (fun K hK => ?_) (fun K hK => ?_)
              · skip
                have HKK := Lib.hid hK
                clear hK
                simp only [List.drop_succ_cons, List.drop_zero]
                refine headH_mk (by rfl) ?_
                go_simp
                refine (HM0.out W.drew).mono ?_
                rintro r w7 ⟨rfl, rfl⟩
                refine HKK.out _ _ (SCB o1) ?_
                clear HKK K
                refine wpAnyZ_two 8 13 _ #[true, true, true, true, true, true, true, true, true, true, true, false, false, false, false] #[true, true, true, true, true, true, true, true, false, true, true, false, false, true, false] 4 (by kernel_rfl) (fun K hK => ?_) (fun K hK => ?_)
                · skip
                  have HKK := Lib.hid hK
                  clear hK
                  simp only [List.drop_succ_cons, List.drop_zero]
                  refine headH_mk (by rfl) ?_
                  go_simp
                  refine (HM1.out W.drew).mono ?_
                  rintro r w7 ⟨rfl, rfl⟩
                  refine HKK.out _ _ (SCB o1) ?_
                  clear HKK K
                  refine wpAnyZ_two 11 13 _ #[true, true, true, true, true, true, true, true, true, true, true, true, false, false, false] #[true, true, true, true, true, true, true, true, true, true, true, false, false, true, false] 3 (by kernel_rfl) (fun K hK => ?_) (fun K hK => ?_)
                  · skip
                    have HKK := Lib.hid hK
                    clear hK
                    simp only [List.drop_succ_cons, List.drop_zero]
                    refine headH_mk (by rfl) ?_
                    go_simp
                    refine (HM2.out W.drew).mono ?_
                    rintro r w7 ⟨rfl, rfl⟩
                    refine HKK.out _ _ (SCB o1) ?_
                    clear HKK K
                    refine wpAnyZ_seg 12 1 _ #[true, true, true, true, true, true, true, true, true, true, true, true, true, false, false] 2 (by kernel_rfl) noPanic_put (SCB o1) (by kernel_rfl) ?_
                    simp only [List.take_succ_cons, List.take_zero, List.drop_succ_cons, List.drop_zero]
                    repeat (first
                      | (refine wpSegH_no (by rfl) ?_; simp only [Act.put, List.setIfInBounds_toArray, List.set_cons_zero, List.set_cons_succ])
                      | (refine wpSegH_yes (by rfl) ?_; apply Exists.intro; apply And.intro; (· (intro wx hS; (try dsimp only at hS); go_simp; first | done | with_reducible rfl)); simp only [Act.put, List.setIfInBounds_toArray, List.set_cons_zero, List.set_cons_succ]))
                    refine wpSegH_nil ?_
                    refine wpAnyZ_one 13 _ #[true, true, true, true, true, true, true, true, true, true, true, true, true, true, false] 1 (by kernel_rfl) (fun K hK => ?_)
                    have HKK := Lib.hid hK
                    clear hK
                    simp only [List.drop_succ_cons, List.drop_zero]
                    refine headH_mk (by rfl) ?_
                    go_simp
                    refine HKK.out _ _ (SCB oA) ?_
                    clear HKK K
                    refine wpAnyZ_end 14 _ #[true, true, true, true, true, true, true, true, true, true, true, true, true, true, true] (by kernel_rfl) (fun K hK => ?_)
                    have HKK := Lib.hid hK
                    clear hK
                    simp only [List.drop_succ_cons, List.drop_zero]
                    refine headH_mk (by rfl) ?_
                    go_simp
                    refine HKK.out _ _ (NoPanic.normal ?_)
                    clear HKK K
                    go_wp2_with fail
                    go_meet
                    exact ⟨by rw [hb7], rfl⟩
                  · skip
                    have HKK := Lib.hid hK
                    clear hK
                    simp only [List.drop_succ_cons, List.drop_zero]
                    refine headH_mk (by rfl) ?_
                    go_simp
                    refine HKK.out _ _ (SCB oA) ?_
                    clear HKK K
                    refine wpAnyZ_one 11 _ #[true, true, true, true, true, true, true, true, true, true, true, true, false, true, false] 2 (by kernel_rfl) (fun K hK => ?_)
                    have HKK := Lib.hid hK
                    clear hK
                    simp only [List.drop_succ_cons, List.drop_zero]
                    refine headH_mk (by rfl) ?_
                    go_simp
                    refine (HM2.out (W.alloc (.cells #[.int .i64 0, .int .i64 0, .int .i64 0] 49)).drew).mono ?_
                    rintro r w7 ⟨rfl, rfl⟩
                    refine HKK.out _ _ (SCB oA) ?_
                    clear HKK K
                    refine wpAnyZ_seg 12 1 _ #[true, true, true, true, true, true, true, true, true, true, true, true, true, true, false] 1 (by kernel_rfl) noPanic_put (SCB oA) (by kernel_rfl) ?_
                    simp only [List.take_succ_cons, List.take_zero, List.drop_succ_cons, List.drop_zero]
                    repeat (first
                      | (refine wpSegH_no (by rfl) ?_; simp only [Act.put, List.setIfInBounds_toArray, List.set_cons_zero, List.set_cons_succ])
                      | (refine wpSegH_yes (by rfl) ?_; apply Exists.intro; apply And.intro; (· (intro wx hS; (try dsimp only at hS); go_simp; first | done | with_reducible rfl)); simp only [Act.put, List.setIfInBounds_toArray, List.set_cons_zero, List.set_cons_succ]))
                    refine wpSegH_nil ?_
                    refine wpAnyZ_end 14 _ #[true, true, true, true, true, true, true, true, true, true, true, true, true, true, true] (by kernel_rfl) (fun K hK => ?_)
                    have HKK := Lib.hid hK
                    clear hK
                    simp only [List.drop_succ_cons, List.drop_zero]
                    refine headH_mk (by rfl) ?_
                    go_simp
                    refine HKK.out _ _ (NoPanic.normal ?_)
                    clear HKK K
                    go_wp2_with fail
                    go_meet
                    exact ⟨by rw [hb7], rfl⟩
                · skip
                  have HKK := Lib.hid hK
                  clear hK
                  simp only [List.drop_succ_cons, List.drop_zero]
                  refine headH_mk (by rfl) ?_
                  go_simp
                  refine HKK.out _ _ (SCB oA) ?_
                  clear HKK K
                  refine wpAnyZ_one 8 _ #[true, true, true, true, true, true, true, true, true, true, true, false, false, true, false] 3 (by kernel_rfl) (fun K hK => ?_)
                  have HKK := Lib.hid hK
                  clear hK
                  simp only [List.drop_succ_cons, List.drop_zero]
                  refine headH_mk (by rfl) ?_
                  go_simp
                  refine (HM1.out (W.alloc (.cells #[.int .i64 0, .int .i64 0, .int .i64 0] 49)).drew).mono ?_
                  rintro r w7 ⟨rfl, rfl⟩
                  refine HKK.out _ _ (SCB oA) ?_
                  clear HKK K
                  refine wpAnyZ_one 11 _ #[true, true, true, true, true, true, true, true, true, true, true, true, false, true, false] 2 (by kernel_rfl) (fun K hK => ?_)
                  have HKK := Lib.hid hK
                  clear hK
                  simp only [List.drop_succ_cons, List.drop_zero]
                  refine headH_mk (by rfl) ?_
                  go_simp
                  refine (HM2.out (W.alloc (.cells #[.int .i64 0, .int .i64 0, .int .i64 0] 49)).drew).mono ?_
                  rintro r w7 ⟨rfl, rfl⟩
                  refine HKK.out _ _ (SCB oA) ?_
                  clear HKK K
                  refine wpAnyZ_seg 12 1 _ #[true, true, true, true, true, true, true, true, true, true, true, true, true, true, false] 1 (by kernel_rfl) noPanic_put (SCB oA) (by kernel_rfl) ?_
                  simp only [List.take_succ_cons, List.take_zero, List.drop_succ_cons, List.drop_zero]
                  repeat (first
                    | (refine wpSegH_no (by rfl) ?_; simp only [Act.put, List.setIfInBounds_toArray, List.set_cons_zero, List.set_cons_succ])
                    | (refine wpSegH_yes (by rfl) ?_; apply Exists.intro; apply And.intro; (· (intro wx hS; (try dsimp only at hS); go_simp; first | done | with_reducible rfl)); simp only [Act.put, List.setIfInBounds_toArray, List.set_cons_zero, List.set_cons_succ]))
                  refine wpSegH_nil ?_
                  refine wpAnyZ_end 14 _ #[true, true, true, true, true, true, true, true, true, true, true, true, true, true, true] (by kernel_rfl) (fun K hK => ?_)
                  have HKK := Lib.hid hK
                  clear hK
                  simp only [List.drop_succ_cons, List.drop_zero]
                  refine headH_mk (by rfl) ?_
                  go_simp
                  refine HKK.out _ _ (NoPanic.normal ?_)
                  clear HKK K
                  go_wp2_with fail
                  go_meet
                  exact ⟨by rw [hb7], rfl⟩
              · skip
                have HKK := Lib.hid hK
                clear hK
                simp only [List.drop_succ_cons, List.drop_zero]
                refine headH_mk (by rfl) ?_
                go_simp
                refine HKK.out _ _ (SCB oA) ?_
                clear HKK K
                refine wpAnyZ_one 2 _ #[true, true, true, true, true, true, true, true, false, true, true, false, false, true, false] 4 (by kernel_rfl) (fun K hK => ?_)
                have HKK := Lib.hid hK
                clear hK
                simp only [List.drop_succ_cons, List.drop_zero]
                refine headH_mk (by rfl) ?_
                go_simp
                refine (HM0.out (W.alloc (.cells #[.int .i64 0, .int .i64 0, .int .i64 0] 49)).drew).mono ?_
                rintro r w7 ⟨rfl, rfl⟩
                refine HKK.out _ _ (SCB oA) ?_
                clear HKK K
                refine wpAnyZ_one 8 _ #[true, true, true, true, true, true, true, true, true, true, true, false, false, true, false] 3 (by kernel_rfl) (fun K hK => ?_)
                have HKK := Lib.hid hK
                clear hK
                simp only [List.drop_succ_cons, List.drop_zero]
                refine headH_mk (by rfl) ?_
                go_simp
                refine (HM1.out (W.alloc (.cells #[.int .i64 0, .int .i64 0, .int .i64 0] 49)).drew).mono ?_
                rintro r w7 ⟨rfl, rfl⟩
                refine HKK.out _ _ (SCB oA) ?_
                clear HKK K
                refine wpAnyZ_one 11 _ #[true, true, true, true, true, true, true, true, true, true, true, true, false, true, false] 2 (by kernel_rfl) (fun K hK => ?_)
                have HKK := Lib.hid hK
                clear hK
                simp only [List.drop_succ_cons, List.drop_zero]
                refine headH_mk (by rfl) ?_
                go_simp
                refine (HM2.out (W.alloc (.cells #[.int .i64 0, .int .i64 0, .int .i64 0] 49)).drew).mono ?_
                rintro r w7 ⟨rfl, rfl⟩
                refine HKK.out _ _ (SCB oA) ?_
                clear HKK K
                refine wpAnyZ_seg 12 1 _ #[true, true, true, true, true, true, true, true, true, true, true, true, true, true, false] 1 (by kernel_rfl) noPanic_put (SCB oA) (by kernel_rfl) ?_
                simp only [List.take_succ_cons, List.take_zero, List.drop_succ_cons, List.drop_zero]
                repeat (first
                  | (refine wpSegH_no (by rfl) ?_; simp only [Act.put, List.setIfInBounds_toArray, List.set_cons_zero, List.set_cons_succ])
                  | (refine wpSegH_yes (by rfl) ?_; apply Exists.intro; apply And.intro; (· (intro wx hS; (try dsimp only at hS); go_simp; first | done | with_reducible rfl)); simp only [Act.put, List.setIfInBounds_toArray, List.set_cons_zero, List.set_cons_succ]))
                refine wpSegH_nil ?_
                refine wpAnyZ_end 14 _ #[true, true, true, true, true, true, true, true, true, true, true, true, true, true, true] (by kernel_rfl) (fun K hK => ?_)
                have HKK := Lib.hid hK
                clear hK
                simp only [List.drop_succ_cons, List.drop_zero]
                refine headH_mk (by rfl) ?_
                go_simp
                refine HKK.out _ _ (NoPanic.normal ?_)
                clear HKK K
                go_wp2_with fail
                go_meet
                exact ⟨by rw [hb7], rfl⟩
              --REG10>
            case rest =>
              obtain ⟨rfl, rfl⟩ := hcut
              have h7 : Own w ((W.alloc (.cells #[.int .i64 y0, .int .i64 y1, .int .i64 y2] 49)).drew) [CelA b7 [.int .i64 y0, .int .i64 y1, .int .i64 y2], CelA cb [.int .i64 x0, .int .i64 x1, .int .i64 x2], CelA ob [.slice none 0 0, .slice a1 i c1, .int .i64 lk, .slice a2 j c2], RowGA 3 a2 c2 j (cac ks), RowGA 1 a1 c1 i (intc cs), CelA (s0 + 1) [.slice none 0 0, .slice none 0 0, .int .i64 0, .slice none 0 0], CelA s0 [.slice fa nf fc, .slice ca nc cc, .int .i64 lk0, .slice (some ⟨b, off, none⟩) nk kc]] := (HO.out.alloc [.int .i64 y0, .int .i64 y1, .int .i64 y2] _ hb7).step (below_drew1 _)
              have H7 := Lib.hid h7
              clear h7 SCB HO hb7
              generalize (W.alloc (.cells #[.int .i64 y0, .int .i64 y1, .int .i64 y2] 49)).drew = Wb at *
              obtain ⟨q1, -⟩ := H7.out.cel 2 rfl 1 _ rfl
              go_upto_if 72 with fail
              go_cut [7] (fun s wx => s = .pointer (some ⟨b7, 0, none⟩) ∧ ∃ z0 z1 z2, casI i (z0, z1, z2) = true ∧ Own w wx [CelA b7 [.int .i64 z0, .int .i64 z1, .int .i64 z2], CelA cb [.int .i64 x0, .int .i64 x1, .int .i64 x2], CelA ob [.slice none 0 0, .slice a1 i c1, .int .i64 lk, .slice a2 j c2], RowGA 3 a2 c2 j (cac ks), RowGA 1 a1 c1 i (intc cs), CelA (s0 + 1) [.slice none 0 0, .slice none 0 0, .int .i64 0, .slice none 0 0], CelA s0 [.slice fa nf fc, .slice ca nc cc, .int .i64 lk0, .slice (some ⟨b, off, none⟩) nk kc]])
              case first =>
                by_cases hi0 : i = 0
                · have hi0' : (i : Int) = 0 := by omega
                  obtain ⟨f0, g0⟩ := H7.out.cel 0 rfl 0 _ rfl
                  obtain ⟨f1, g1⟩ := H7.out.cel 0 rfl 1 _ rfl
                  obtain ⟨f2, g2⟩ := H7.out.cel 0 rfl 2 _ rfl
                  have h8 := Lib.hid (((H7.out.set 0 (.int .i64 2)).set 1 (.int .i64 0)).set 2 (.int .i64 0))
                  go_wp2_with fail
                  go_meet
                  exact ⟨rfl, 2, 0, 0, by unfold casI; simp, h8.out⟩
                · have hi0' : ¬ (i : Int) = 0 := by omega
                  go_wp2_with fail
                  go_meet
                  refine ⟨rfl, y0, y1, y2, ?_, H7.out⟩
                  obtain ⟨k0, k1, k2⟩ := HY.out
                  have k1 := k1 (by omega)
                  unfold casI
                  split
                  · simp only [wit, Bool.and_eq_true, decide_eq_true_eq]; omega
                  · simp only at *; simp; omega
              case rest =>
                obtain ⟨rfl, v0, v1, v2, hz, h7⟩ := hcut
                clear H7 q1
                obtain ⟨f0, -⟩ := h7.cel 0 rfl 0 _ rfl
                obtain ⟨f1, -⟩ := h7.cel 0 rfl 1 _ rfl
                obtain ⟨f2, -⟩ := h7.cel 0 rfl 2 _ rfl
                obtain ⟨f3, -⟩ := h7.cel 2 rfl 3 _ rfl
                have O7 := Lib.hid (h7.step (below_alloc1 wc (.cells #[.int .i64 v0, .int .i64 v1, .int .i64 v2] 49)))
                have HZ := Lib.hid hz
                clear h7 hz
                go_wp2_with (at_builtin; refine wpList_append_rowG (n := j) (m := 1) (cs := cac ks) (ds := cac [(v0, v1, v2)]) rfl _ _ 24 rfl 49 r0 _ Tryd.underlying24 Ri.out Rz0.out Rz1.out Rz2.out rfl (by omega) (by omega) rfl rfl (O7.out.rowG 3 rfl) (CellsAt.new wc (cac [(v0, v1, v2)]) _ (by first | rfl | simp)) rfl (cac_one _) (by omega) ?_)
                intro a9 c9 w9 k9 ch9 f9
                have o9 : Own w w9 [RowGA 3 a9 c9 (j + 1) (cac ks ++ cac [(v0, v1, v2)]), CelA b7 [.int .i64 v0, .int .i64 v1, .int .i64 v2], CelA cb [.int .i64 x0, .int .i64 x1, .int .i64 x2], CelA ob [.slice none 0 0, .slice a1 i c1, .int .i64 lk, .slice a2 j c2], RowGA 1 a1 c1 i (intc cs), CelA (s0 + 1) [.slice none 0 0, .slice none 0 0, .int .i64 0, .slice none 0 0], CelA s0 [.slice fa nf fc, .slice ca nc cc, .int .i64 lk0, .slice (some ⟨b, off, none⟩) nk kc]] := Own.rowTurn (O7.out.pick 3 rfl) k9 ch9 (fun x hx => by have := f9 x hx; simpa using this)
                obtain ⟨d0, e0⟩ := o9.cel 3 rfl 3 _ rfl
                have h10 := ((o9.setAt 3 rfl 3 (.slice a9 (j + 1) c9)).pick 3 rfl)
                have HR : Hid (Ps2 w (w9.setCell ⟨ob, 3, none⟩ (.slice a9 (j + 1) c9)) s0 (s0 + 1) ob [.slice fa nf fc, .slice ca nc cc, .int .i64 lk0, .slice (some ⟨b, off, none⟩) nk kc] [.slice none 0 0, .slice none 0 0, .int .i64 0, .slice none 0 0] lk a1 c1 cs i (j + 1)) := Lib.hid ⟨a9, c9, ks ++ [(v0, v1, v2)], by simp [HH2.out.1], fun k hk => by
                  rcases List.mem_append.1 hk with h | h
                  · exact HH2.out.2 k h
                  · obtain rfl := by simpa using h
                    exact HZ.out, by rw [cac_app]; exact ((h10.pick 2 rfl).drop.pick 2 rfl).drop⟩
                clear o9 h10 k9 ch9 f9 O7 f0 f1 f2 f3
                go_wp2
                exact ⟨⟨j + 1, by omega, by omega, by go_num, HR⟩, by simp [intOf]; omega⟩
          · have hcase : (j < nk ∧ ¬ j < 8) ∨ ¬ j < nk := by omega
            obtain ⟨a2, c2, ks, h1, h2, ho⟩ := hr.out
            obtain ⟨p3, -⟩ := ho.cel 4 rfl 3 _ rfl
            have HO := Lib.hid ho
            have HH2 := Lib.hid (And.intro h1 h2)
            clear hr h1 h2 ho
            go_upto_region 7 with fail
            go_cut [48] (fun s wx => s = .bool false ∧ wx = wr)
            case first =>
              rcases hcase with ⟨z1, z2⟩ | z1
              case' inl => have z1 : (j : Int) < (nk : Int) := by omega
              case' inl => have z2 : ¬ (j : Int) < 8 := by omega
              case' inr => have z1 : ¬ (j : Int) < (nk : Int) := by omega
              all_goals
                go_wp2_with fail
                go_meet
                exact ⟨rfl, rfl⟩
            case rest =>
              obtain ⟨rfl, hwc⟩ := hcut
              have hwc := hwc.symm
              subst hwc
              clear hcase p3 hlt
              obtain ⟨p0, -⟩ := HO.out.cel 4 rfl 0 _ rfl
              obtain ⟨m, hm5⟩ : ∃ m : Nat, m = min nf 5 := ⟨_, rfl⟩
              have hm1 : m ≤ 5 ∧ m ≤ nf := by omega
              go_upto_region 14 with fail
              go_cut [8] (fun s wx => s = .slice fa m fc ∧ wx = wr)
              case first =>
                by_cases h5 : nf ≤ 5
                · have h5' : (nf : Int) ≤ 5 := by omega
                  obtain rfl : m = nf := by omega
                  have hsl : ∀ w', (Instr.slice 22 (.slice fa m fc) none (some (.int .i64 (m : Int))) none).run Tryd.prog w' = .ok (.slice fa m fc) w' := fun w' => slice_head w' Tryd.underlying22 size_rs fa m fc m (by omega)
                  clear hm5
                  go_wp2_with fail
                  go_meet
                  exact ⟨rfl, rfl⟩
                · have h5' : ¬ (nf : Int) ≤ 5 := by omega
                  obtain rfl : m = 5 := by omega
                  have hsl : ∀ w', (Instr.slice 22 (.slice fa nf fc) none (some (.int .i64 5)) none).run Tryd.prog w' = .ok (.slice fa 5 fc) w' := fun w' => slice_head w' Tryd.underlying22 size_rs fa nf fc 5 (by omega)
                  clear hm5
                  go_wp2_with fail
                  go_meet
                  exact ⟨rfl, rfl⟩
              case rest =>
              obtain ⟨rfl, hwc⟩ := hcut
              have hwc := hwc.symm
              subst hwc
              clear hm5 p0
              go_upto_if 89 with fail
              go_cut [8] (fun s wx => ∃ ga gc, ∃ gl : List (List In4), ∃ X : List Asr, s = .slice ga gl.length gc ∧ 1 ≤ gl.length ∧ gl.length ≤ 5 ∧ Hid (FunX w X ga gl ∧ (∀ f ∈ gl, ∀ x ∈ f, i64b x.2.2.1) ∧ Own w wx (CelA ob [.slice none 0 0, .slice a1 i c1, .int .i64 lk, .slice a2 j c2] :: RowGA 3 a2 c2 j (cac ks) :: RowGA 1 a1 c1 i (intc cs) :: CelA (s0 + 1) [.slice none 0 0, .slice none 0 0, .int .i64 0, .slice none 0 0] :: CelA s0 [.slice fa nf fc, .slice ca nc cc, .int .i64 lk0, .slice ka nk kc] :: X)))
              case first =>
                by_cases hm0 : m = 0
                · have hm0' : (m : Int) = 0 := by omega
                  have ho1 := HO.out.alloc [.int .i64 0, .int .i64 0, .int .i64 0, .int .i64 0] 43 (b := wr.heap.size) rfl
                  have ho2 := ho1.alloc [.slice (some ⟨wr.heap.size, 0, none⟩) 1 1] 40 (b := wr.heap.size + 1) (by simp)
                  have ho3 := ho2.perm (List.perm_append_comm (l₁ := [CelA (wr.heap.size + 1) [.slice (some ⟨wr.heap.size, 0, none⟩) 1 1], CelA wr.heap.size [.int .i64 0, .int .i64 0, .int .i64 0, .int .i64 0]]))
                  have hown := Lib.hid ho3
                  obtain ⟨S, hS⟩ : ∃ S, S = wr.heap.size := ⟨_, rfl⟩
                  have hfin : Hid (FunX w [CelA (S + 1) [.slice (some ⟨S, 0, none⟩) 1 1], CelA S [.int .i64 0, .int .i64 0, .int .i64 0, .int .i64 0]] (some ⟨S + 1, 0, none⟩) [[(0, 0, 0, 0)]]) := Lib.hid fun q hq => by
                    obtain rfl : q = 0 := by simpa using hq
                    refine ⟨_, 0, some ⟨S, 0, none⟩, 1, rfl, by simp, by unfold maxLen; omega, fun wy L h => ?_⟩
                    have hb1 := h.dropL.cel 0 rfl
                    have hb2 := h.dropL.cel 1 rfl
                    refine ⟨(hb1 0 _ rfl).1, fun u hu => ?_⟩
                    obtain rfl : u = 0 := by simpa using hu
                    exact ⟨_, 0, rfl, (hb2 0 _ rfl).1, (hb2 1 _ rfl).1, (hb2 2 _ rfl).1, (hb2 3 _ rfl).1⟩
                  rw [hS] at hfin
                  clear ho1 ho2 ho3 hS
                  go_wp2_with fail
                  go_meet
                  exact ⟨_, 1, [[(0, 0, 0, 0)]], _, rfl, by simp, by simp, Lib.hid ⟨hfin.out, fun f hf x hx => by
                    obtain rfl := by simpa using hf
                    obtain rfl := by simpa using hx
                    unfold i64b; simp, hown.out⟩⟩
                · have hm0' : ¬ (m : Int) = 0 := by omega
                  have hlm : (fs.take m).length = m := by rw [List.length_take, HNF.out]; omega
                  have hfin := Lib.hid (show FunX w [] fa (fs.take m) from fun q hq => by
                    have hq2 : q < m := by omega
                    obtain ⟨b, off, a', c', e1, e2, e3, e4, e5⟩ := HF.out q (by rw [HNF.out]; omega)
                    have e6 : (fs.take m)[q] = fs[q]'(by rw [HNF.out]; omega) := by simp
                    rw [e6]
                    exact ⟨b, off, a', c', e1, e3, e4, fun wy L h => ⟨cell_below e2 h.bel, e5.below h.bel⟩⟩)
                  go_wp2_with fail
                  go_meet
                  exact ⟨fa, fc, fs.take m, [], by rw [hlm], by omega, by omega, Lib.hid ⟨hfin.out, fun f hf => HFIT.out f (List.mem_of_mem_take hf), HO.out⟩⟩
              case rest =>
                obtain ⟨ga, gc, gl, X, rfl, hg1, hg2, hg⟩ := hcut
                clear HO hm1 HF HNF HFIT
                obtain ⟨gn, hgn⟩ : ∃ n, gl.length = n := ⟨_, rfl⟩
                rw [hgn] at hg1 hg2 ⊢
                have HGN := Lib.hid hgn
                obtain ⟨hgf, hgi, hgo⟩ := hg.out
                have HGF := Lib.hid hgf
                have HGI := Lib.hid hgi
                obtain ⟨wm, sa, sc, hmk, hrow, hge, hbw⟩ := make_rs wc gn (by omega)
                obtain ⟨sb, so, rfl, -⟩ := hrow.cells 0 _ (frs_at (r := ⟨none, 0, []⟩) (by rw [List.getElem?_replicate, if_pos (by omega)]))
                have hgo2 := (hgo.add hbw (A := RowGA 1 (some ⟨sb, so, none⟩) sc gn (frs (List.replicate gn ⟨none, 0, []⟩))) (F := blk (some ⟨sb, so, none⟩)) ⟨rfl, hrow⟩ hge).pick 1 rfl
                obtain ⟨y0, g0⟩ := hgo2.cel 0 rfl 0 _ rfl
                have hgo3 := (hgo2.set 0 (.slice (some ⟨sb, so, none⟩) gn sc)).pick 1 rfl
                have HGO : Hid (Ps3 w (wm.setCell ⟨ob, 0, none⟩ (.slice (some ⟨sb, so, none⟩) gn sc)) ob gn i j lk (some ⟨sb, so, none⟩) sc 0 (CelA ob [.slice (some ⟨sb, so, none⟩) gn sc, .slice a1 i c1, .int .i64 lk, .slice a2 j c2] :: RowGA 3 a2 c2 j (cac ks) :: RowGA 1 a1 c1 i (intc cs) :: CelA (s0 + 1) [.slice none 0 0, .slice none 0 0, .int .i64 0, .slice none 0 0] :: CelA s0 [.slice fa nf fc, .slice ca nc cc, .int .i64 lk0, .slice ka nk kc] :: X)) := Lib.hid ⟨List.replicate gn ⟨none, 0, []⟩, by simp, fun k r hk => by omega, hgo3.noFns gn⟩
                clear hgn hg hgf hgi hgo hgo2 hgo3 hrow hge hbw
                go_wp2_with fail
                go_loopw [99] (fun s wr => ∃ e : Nat, e ≤ gn ∧ s = .int .i64 e ∧ Hid (Ps3 w wr ob gn i j lk (some ⟨sb, so, none⟩) sc e (CelA ob [.slice (some ⟨sb, so, none⟩) gn sc, .slice a1 i c1, .int .i64 lk, .slice a2 j c2] :: RowGA 3 a2 c2 j (cac ks) :: RowGA 1 a1 c1 i (intc cs) :: CelA (s0 + 1) [.slice none 0 0, .slice none 0 0, .int .i64 0, .slice none 0 0] :: CelA s0 [.slice fa nf fc, .slice ca nc cc, .int .i64 lk0, .slice ka nk kc] :: X))) (fun s _ => gn - (intOf s).toNat)
                case atStart => exact ⟨0, by omega, rfl, HGO⟩
                case round =>
                  obtain ⟨e, he1, rfl, hr⟩ := hrel
                  clear HGO
                  obtain ⟨rs, hrs1, hrs2, hro⟩ := hr.out
                  by_cases hlt : e < gn
                  · have hlt' : (e : Int) < (gn : Int) := by omega
                    obtain ⟨b, off, ha, hc, hga, e1, e2, hx⟩ := HGF.out e (by rw [HGN.out]; exact hlt)
                    subst hga
                    obtain ⟨f, hf⟩ : ∃ f, f = gl[e]'(by rw [HGN.out]; exact hlt) := ⟨_, rfl⟩
                    rw [← hf] at e1
                    simp only [← hf] at hx
                    obtain ⟨e0, -⟩ := hx wr _ (show Own w wr ([_, _, _, _, _, _] ++ X) from hro.dropL)
                    have HX := Lib.hid hx
                    have HFB := Lib.hid (show ∀ x ∈ f, i64b x.2.2.1 from HGI.out f (by rw [hf]; exact List.getElem_mem _))
                    have HRO := Lib.hid hro
                    have HR12 := Lib.hid (And.intro hrs1 hrs2)
                    obtain ⟨fl, hfl⟩ : ∃ n, f.length = n := ⟨_, rfl⟩
                    rw [hfl] at e0 e1
                    have HFL := Lib.hid hfl
                    obtain ⟨m2, hm2⟩ : ∃ m2 : Nat, m2 = min fl 20 := ⟨_, rfl⟩
                    unfold maxLen at e2
                    clear hr hro hrs1 hrs2 hx hfl hf
                    go_upto_region 21 with fail
                    go_cut [10] (fun s wx => s = .slice ha m2 hc ∧ wx = wr)
                    case first =>
                      by_cases h5 : fl ≤ 20
                      · have h5' : (fl : Int) ≤ 20 := by omega
                        obtain rfl : m2 = fl := by omega
                        have hsl : ∀ w', (Instr.slice 40 (.slice ha m2 hc) none (some (.int .i64 (m2 : Int))) none).run Tryd.prog w' = .ok (.slice ha m2 hc) w' := fun w' => slice_head w' Tryd.underlying40 size_ri ha m2 hc m2 (by omega)
                        clear hm2
                        go_wp2_with fail
                        go_meet
                        exact ⟨rfl, rfl⟩
                      · have h5' : ¬ (fl : Int) ≤ 20 := by omega
                        obtain rfl : m2 = 20 := by omega
                        have hsl : ∀ w', (Instr.slice 40 (.slice ha fl hc) none (some (.int .i64 20)) none).run Tryd.prog w' = .ok (.slice ha 20 hc) w' := fun w' => slice_head w' Tryd.underlying40 size_ri ha fl hc 20 (by omega)
                        clear hm2
                        go_wp2_with fail
                        go_meet
                        exact ⟨rfl, rfl⟩
                    case rest =>
                      obtain ⟨rfl, hwc⟩ := hcut
                      have hwc := hwc.symm
                      subst hwc
                      have hm3 : m2 ≤ 20 ∧ m2 ≤ fl := by omega
                      clear e0 hm2
                      go_upto_if 111 with fail
                      go_cut [10] (fun s wx => ∃ hx hy, ∃ hl : List In4, ∃ Y : List Asr, s = .slice hx hl.length hy ∧ 1 ≤ hl.length ∧ hl.length ≤ 20 ∧ Hid ((∀ wy R rs', Own w wy (R :: (Y ++ (fns rs' ++ RowGA 1 (some ⟨sb, so, none⟩) sc gn (frs rs') :: CelA ob [.slice (some ⟨sb, so, none⟩) gn sc, .slice a1 i c1, .int .i64 lk, .slice a2 j c2] :: RowGA 3 a2 c2 j (cac ks) :: RowGA 1 a1 c1 i (intc cs) :: CelA (s0 + 1) [.slice none 0 0, .slice none 0 0, .int .i64 0, .slice none 0 0] :: CelA s0 [.slice fa nf fc, .slice ca nc cc, .int .i64 lk0, .slice ka nk kc] :: X))) → InsAt wy hx hl) ∧ (∀ x ∈ hl, i64b x.2.2.1) ∧ Own w wx (Y ++ (fns rs ++ RowGA 1 (some ⟨sb, so, none⟩) sc gn (frs rs) :: CelA ob [.slice (some ⟨sb, so, none⟩) gn sc, .slice a1 i c1, .int .i64 lk, .slice a2 j c2] :: RowGA 3 a2 c2 j (cac ks) :: RowGA 1 a1 c1 i (intc cs) :: CelA (s0 + 1) [.slice none 0 0, .slice none 0 0, .int .i64 0, .slice none 0 0] :: CelA s0 [.slice fa nf fc, .slice ca nc cc, .int .i64 lk0, .slice ka nk kc] :: X))))
                      case first =>
                        by_cases hm0 : m2 = 0
                        · have hm0' : (m2 : Int) = 0 := by omega
                          have hown := Lib.hid (HRO.out.alloc [.int .i64 0, .int .i64 0, .int .i64 0, .int .i64 0] 43 (b := wr.heap.size) rfl)
                          have hfin : Hid (∀ wy R rs', Own w wy (R :: ([CelA wr.heap.size [.int .i64 0, .int .i64 0, .int .i64 0, .int .i64 0]] ++ (fns rs' ++ RowGA 1 (some ⟨sb, so, none⟩) sc gn (frs rs') :: CelA ob [.slice (some ⟨sb, so, none⟩) gn sc, .slice a1 i c1, .int .i64 lk, .slice a2 j c2] :: RowGA 3 a2 c2 j (cac ks) :: RowGA 1 a1 c1 i (intc cs) :: CelA (s0 + 1) [.slice none 0 0, .slice none 0 0, .int .i64 0, .slice none 0 0] :: CelA s0 [.slice fa nf fc, .slice ca nc cc, .int .i64 lk0, .slice ka nk kc] :: X))) → InsAt wy (some ⟨wr.heap.size, 0, none⟩) [(0, 0, 0, 0)]) := Lib.hid fun wy R rs' h u hu => by
                            have hb2 := h.cel 1 rfl
                            obtain rfl : u = 0 := by simpa using hu
                            exact ⟨_, 0, rfl, (hb2 0 _ rfl).1, (hb2 1 _ rfl).1, (hb2 2 _ rfl).1, (hb2 3 _ rfl).1⟩
                          go_wp2_with fail
                          go_meet
                          exact ⟨_, 1, [(0, 0, 0, 0)], _, rfl, by simp, by simp, Lib.hid ⟨hfin.out, fun x hx => by
                            obtain rfl := by simpa using hx
                            unfold i64b; simp, hown.out⟩⟩
                        · have hm0' : ¬ (m2 : Int) = 0 := by omega
                          have hlm : (f.take m2).length = m2 := by rw [List.length_take, HFL.out]; omega
                          have hfin : Hid (∀ wy R rs', Own w wy (R :: ([] ++ (fns rs' ++ RowGA 1 (some ⟨sb, so, none⟩) sc gn (frs rs') :: CelA ob [.slice (some ⟨sb, so, none⟩) gn sc, .slice a1 i c1, .int .i64 lk, .slice a2 j c2] :: RowGA 3 a2 c2 j (cac ks) :: RowGA 1 a1 c1 i (intc cs) :: CelA (s0 + 1) [.slice none 0 0, .slice none 0 0, .int .i64 0, .slice none 0 0] :: CelA s0 [.slice fa nf fc, .slice ca nc cc, .int .i64 lk0, .slice ka nk kc] :: X))) → InsAt wy ha (f.take m2)) := Lib.hid fun wy R rs' h =>
                            (HX.out wy _ (show Own w wy ([_, _, _, _, _, _] ++ X) from Own.dropL (As := fns rs') h.drop)).2.take m2
                          go_wp2_with fail
                          go_meet
                          exact ⟨ha, hc, f.take m2, [], by rw [hlm], by omega, by omega, Lib.hid ⟨hfin.out, fun x hx => HFB.out x (List.mem_of_mem_take hx), HRO.out⟩⟩
                      case rest =>
                        obtain ⟨hx, hy, hl, Y, rfl, q1, q2, hq⟩ := hcut
                        clear HRO HFB HX HFL hm3 e1 e2
                        obtain ⟨hn, hhn⟩ : ∃ n, hl.length = n := ⟨_, rfl⟩
                        rw [hhn] at q1 q2 ⊢
                        have HHN := Lib.hid hhn
                        obtain ⟨hq1, hq2, hq3⟩ := hq.out
                        have HQ1 := Lib.hid hq1
                        have HQ2 := Lib.hid hq2
                        have hol := hq3.add (below_alloc1 wc (.cells #[] 43)) (A := RowGA 4 (some ⟨wc.heap.size, 0, none⟩) 0 0 (inc [])) (F := [wc.heap.size]) ⟨rfl, RowG.zero (by simp)⟩ (fun x hx => by simp at hx; omega)
                        have HOL := Lib.hid (show ([] : List In4).length = 0 ∧ InsOK gn i j lk hn [] ∧ Own w (wc.alloc (.cells #[] 43)) (RowGA 4 (some ⟨wc.heap.size, 0, none⟩) 0 0 (inc []) :: (Y ++ (fns rs ++ RowGA 1 (some ⟨sb, so, none⟩) sc gn (frs rs) :: CelA ob [.slice (some ⟨sb, so, none⟩) gn sc, .slice a1 i c1, .int .i64 lk, .slice a2 j c2] :: RowGA 3 a2 c2 j (cac ks) :: RowGA 1 a1 c1 i (intc cs) :: CelA (s0 + 1) [.slice none 0 0, .slice none 0 0, .int .i64 0, .slice none 0 0] :: CelA s0 [.slice fa nf fc, .slice ca nc cc, .int .i64 lk0, .slice ka nk kc] :: X))) from ⟨rfl, fun x hx => by simp at hx, hol⟩)
                        have HFT := Lib.hid (fun (o xa xb xc : Int) (hb : i64b xb) (w' : World) => fit_any (some ⟨sb, so, none⟩) gn sc a1 i c1 lk a2 j c2 hx hn hy o xa xb xc w' hb (by omega) (by omega) (by omega) (by omega) (by omega))
                        unfold pv at HFT
                        clear hhn hq hq1 hq2 hq3 hol
                        go_wp2_with fail
                        go_loopw [11, 117] (fun s11 s117 wx => ∃ k a6 c6, ∃ l' : List In4, k ≤ hn ∧ s117 = .int .i64 ((k : Nat) : Int) ∧ s11 = .slice a6 k c6 ∧ Hid (l'.length = k ∧ InsOK gn i j lk hn l' ∧ Own w wx (RowGA 4 a6 c6 k (inc l') :: (Y ++ (fns rs ++ RowGA 1 (some ⟨sb, so, none⟩) sc gn (frs rs) :: CelA ob [.slice (some ⟨sb, so, none⟩) gn sc, .slice a1 i c1, .int .i64 lk, .slice a2 j c2] :: RowGA 3 a2 c2 j (cac ks) :: RowGA 1 a1 c1 i (intc cs) :: CelA (s0 + 1) [.slice none 0 0, .slice none 0 0, .int .i64 0, .slice none 0 0] :: CelA s0 [.slice fa nf fc, .slice ca nc cc, .int .i64 lk0, .slice ka nk kc] :: X))))) (fun _ s117 _ => hn - (intOf s117).toNat)
                        case atStart => exact ⟨0, _, 0, [], by omega, rfl, rfl, HOL⟩
                        case round =>
                          obtain ⟨k, a6, c6, l', hk1, rfl, rfl, hv⟩ := hrel
                          clear HOL
                          obtain ⟨v1, v2, v3⟩ := hv.out
                          by_cases hkn : k < hn
                          · have hkn' : (k : Int) < (hn : Int) := by omega
                            have hkl : k < hl.length := by rw [HHN.out]; exact hkn
                            obtain ⟨b2, off2, rfl, e0, e1, e2, e3⟩ := HQ1.out _ _ rs v3 k hkl
                            obtain ⟨x, hxe⟩ : ∃ x, x = hl[k] := ⟨_, rfl⟩
                            have hxb := HQ2.out x (by rw [hxe]; exact List.getElem_mem hkl)
                            rw [← hxe] at e0 e1 e2 e3
                            obtain ⟨o, xa, xb, xc⟩ := x
                            simp only at e0 e1 e2 e3 hxb
                            have HFC := Lib.hid (HFT.out o xa xb xc hxb)
                            have HV := Lib.hid (And.intro v1 v2)
                            obtain ⟨tb, htb⟩ : ∃ tb, tb = wr.heap.size := ⟨_, rfl⟩
                            have O3 := Lib.hid (v3.alloc [.int .i64 o, .int .i64 xa, .int .i64 xb, .int .i64 xc] 43 htb)
                            clear hv v1 v2 v3 hxe hxb hkl
                            go_upto_region 28 with fail
                            rw [← htb]
                            generalize wr.alloc (.cells #[.int .i64 o, .int .i64 xa, .int .i64 xb, .int .i64 xc] 43) = W4 at *
                            clear htb e0 e1 e2 e3
                            have hob := (Own.dropL (As := fns rs) (Own.dropL (As := CelA tb [.int .i64 o, .int .i64 xa, .int .i64 xb, .int .i64 xc] :: RowGA 4 a6 c6 k (inc l') :: Y) O3.out)).cel 1 rfl
                            obtain ⟨f0, -⟩ := hob 0 _ rfl
                            obtain ⟨f1, -⟩ := hob 1 _ rfl
                            obtain ⟨f2, -⟩ := hob 2 _ rfl
                            obtain ⟨f3, -⟩ := hob 3 _ rfl
                            have htc := O3.out.cel 0 rfl
                            obtain ⟨e0, -⟩ := htc 0 _ rfl
                            obtain ⟨e1, -⟩ := htc 1 _ rfl
                            obtain ⟨e2, -⟩ := htc 2 _ rfl
                            obtain ⟨e3, -⟩ := htc 3 _ rfl
                            clear hob htc
                            go_wp2_with fail
                            refine (HFC.out _).mono ?_
                            rintro r w5 ⟨y, rfl, hy1, hy2, b5⟩
                            obtain ⟨yo, ya, yb, yc⟩ := y
                            simp only at hy2 ⊢
                            have O5 := Lib.hid ((O3.out.step b5).step (below_alloc1 w5 (.cells #[.int .i64 yo, .int .i64 ya, .int .i64 yb, .int .i64 yc] 43)))
                            have HY12 := Lib.hid (And.intro hy1 hy2)
                            clear b5 hy1 hy2 HFC O3
                            go_wp2_with (at_builtin; refine wpList_append_rowG (n := k) (m := 1) (cs := inc l') (ds := inc [(yo, ya, yb, yc)]) rfl _ _ 40 rfl 43 q0 _ Tryd.underlying40 Qi.out Qz0.out Qz1.out Qz2.out rfl (by omega) (by omega) rfl rfl (O5.out.rowG 1 rfl) (CellsAt.new w5 (inc [(yo, ya, yb, yc)]) _ (by first | rfl | simp)) rfl (inc_one _) (by omega) ?_)
                            intro a9 c9 w9 k9 ch9 f9
                            have o9 := ((Own.rowTurn (O5.out.pick 1 rfl) k9 ch9 (fun x hx => by have := f9 x hx; simpa using this)).pick 1 rfl).drop
                            rw [← inc_app] at o9
                            clear f0 f1 f2 f3 e0 e1 e2 e3
                            have HR := Lib.hid (show (l' ++ [(yo, ya, yb, yc)]).length = k + 1 ∧ InsOK gn i j lk hn (l' ++ [(yo, ya, yb, yc)]) ∧ Own w w9 (RowGA 4 a9 c9 (k + 1) (inc (l' ++ [(yo, ya, yb, yc)])) :: (Y ++ (fns rs ++ RowGA 1 (some ⟨sb, so, none⟩) sc gn (frs rs) :: CelA ob [.slice (some ⟨sb, so, none⟩) gn sc, .slice a1 i c1, .int .i64 lk, .slice a2 j c2] :: RowGA 3 a2 c2 j (cac ks) :: RowGA 1 a1 c1 i (intc cs) :: CelA (s0 + 1) [.slice none 0 0, .slice none 0 0, .int .i64 0, .slice none 0 0] :: CelA s0 [.slice fa nf fc, .slice ca nc cc, .int .i64 lk0, .slice ka nk kc] :: X))) from ⟨by simp [HV.out.1], fun x hx => by
                              rcases List.mem_append.1 hx with h | h
                              · exact HV.out.2 x h
                              · obtain rfl := by simpa using h
                                exact HY12.out, o9⟩)
                            clear o9 k9 ch9 f9 O5
                            go_wp2
                            exact ⟨⟨k + 1, a9, c9, _, by omega, by go_num, by simp, HR⟩, by simp [intOf]; omega⟩
                          · obtain rfl : k = hn := by omega
                            have h6 := v3.dropMid
                            have h7 := Own.dropL (As := RowGA 4 a6 c6 k (inc l') :: fns rs) h6
                            obtain ⟨f0, -⟩ := h7.cel 1 rfl 0 _ rfl
                            have hrg := h7.rowG 0 rfl
                            obtain ⟨z, s1, t1⟩ := hrg.spot e (by have := hrg.2.1; omega)
                            have h8 : Own w wr (fra ⟨a6, c6, l'⟩ :: (fns rs ++ RowGA 1 (some ⟨sb, so, none⟩) sc gn (frs rs) :: CelA ob [.slice (some ⟨sb, so, none⟩) gn sc, .slice a1 i c1, .int .i64 lk, .slice a2 j c2] :: RowGA 3 a2 c2 j (cac ks) :: RowGA 1 a1 c1 i (intc cs) :: CelA (s0 + 1) [.slice none 0 0, .slice none 0 0, .int .i64 0, .slice none 0 0] :: CelA s0 [.slice fa nf fc, .slice ca nc cc, .int .i64 lk0, .slice ka nk kc] :: X)) := by unfold fra; rw [v1]; exact h6
                            have h9 := h8.fnStore (i := e) (by rw [HR12.out.1]; exact hlt)
                            rw [show frv ⟨a6, c6, l'⟩ = .slice a6 k c6 by unfold frv; rw [v1]] at h9
                            have HR : Hid (Ps3 w (wr.setCell ⟨sb, so + e, none⟩ (.slice a6 k c6)) ob gn i j lk (some ⟨sb, so, none⟩) sc (e + 1) (CelA ob [.slice (some ⟨sb, so, none⟩) gn sc, .slice a1 i c1, .int .i64 lk, .slice a2 j c2] :: RowGA 3 a2 c2 j (cac ks) :: RowGA 1 a1 c1 i (intc cs) :: CelA (s0 + 1) [.slice none 0 0, .slice none 0 0, .int .i64 0, .slice none 0 0] :: CelA s0 [.slice fa nf fc, .slice ca nc cc, .int .i64 lk0, .slice ka nk kc] :: X)) := Lib.hid ⟨rs.set e ⟨a6, c6, l'⟩, by rw [List.length_set]; exact HR12.out.1, fun q r hq hr => by
                              by_cases hqe : q = e
                              · subst hqe
                                rw [List.getElem?_set_self (by rw [HR12.out.1]; exact hlt)] at hr
                                obtain rfl := by simpa using hr
                                exact ⟨by simp only; omega, by simp only; omega, by simp only; rw [v1]; exact v2⟩
                              · rw [List.getElem?_set_ne (by omega)] at hr
                                exact HR12.out.2 q r (by omega) hr, h9⟩
                            clear h6 h7 h8 h9 hrg hv v1 v2 v3
                            go_wp2
                            exact ⟨⟨e + 1, by omega, by go_num, HR⟩, by simp [intOf]; omega⟩
                  · obtain rfl : e = gn := by omega
                    have hrot := hro.perm List.perm_append_comm
                    have hob := hrot.cel 1 rfl
                    obtain ⟨f0, -⟩ := hob 0 _ rfl
                    obtain ⟨f1, -⟩ := hob 1 _ rfl
                    obtain ⟨f2, -⟩ := hob 2 _ rfl
                    obtain ⟨f3, -⟩ := hob 3 _ rfl
                    have hsc := hrot.cel 4 rfl
                    obtain ⟨x0, g0⟩ := hsc 0 _ rfl
                    obtain ⟨x1, g1⟩ := hsc 1 _ rfl
                    obtain ⟨x2, g2⟩ := hsc 2 _ rfl
                    obtain ⟨x3, g3⟩ := hsc 3 _ rfl
                    have hq3 := (((hrot.setAt 4 rfl 0 (.slice (some ⟨sb, so, none⟩) e sc)).setAt 4 rfl 1 (.slice a1 i c1)).setAt 4 rfl 2 (.int .i64 lk)).setAt 4 rfl 3 (.slice a2 j c2)
                    have HQ := Lib.hid hq3
                    have HRR := Lib.hid (And.intro hrs1 hrs2)
                    clear hq3 hr hro hrot hob hsc hrs1 hrs2
                    go_wp2_with fail
                    have ee := prog_getr (HQ.out.cel 4 rfl)
                    have q1 := ((((HQ.out.pick 1 rfl).drop).pick 3 rfl).drop.pick 3 rfl).drop
                    have q2 := (show Own w _ ([RowGA 1 (some ⟨sb, so, none⟩) sc e (frs rs), RowGA 3 a2 c2 j (cac ks), RowGA 1 a1 c1 i (intc cs)] ++ (X ++ fns rs)) from q1).perm (List.perm_append_comm_assoc _ _ _)
                    have q3 := q2.dropL.perm ((List.Perm.swap (RowGA 1 a1 c1 i (intc cs)) (RowGA 3 a2 c2 j (cac ks)) (fns rs)).cons (RowGA 1 (some ⟨sb, so, none⟩) sc e (frs rs)))
                    refine bodyPost_ret (results_cell Tryd.results6 _ ⟨s0 + 1, 0, none⟩ rfl ee) rfl ⟨some ⟨sb, so, none⟩, sc, rs, a1, c1, cs, a2, c2, ks, lk, ?_, ?_, ?_, ?_, ?_⟩
                    · rw [HRR.out.1, HH.out.1, HH2.out.1]
                    · rw [HRR.out.1]; exact ⟨hg1, hg2⟩
                    · refine ⟨by rw [HH.out.1]; exact hi2, by rw [HH2.out.1]; exact hj2, hlkr.1, hlkr.2, HH.out.2, fun k hk => ?_⟩
                      rw [HH.out.1]; exact HH2.out.2 k hk
                    · intro r hr
                      obtain ⟨k, hk, hkr⟩ := List.mem_iff_getElem.1 hr
                      rw [HRR.out.1, HH.out.1, HH2.out.1]
                      exact HRR.out.2 k r (by have := HRR.out.1; omega) (by rw [List.getElem?_eq_getElem hk, hkr])
                    · rw [HRR.out.1, HH.out.1, HH2.out.1]; exact q3
end Go.Proofs.YtjanangcfgmdeaaDoor
