/-
  Sources: Draw.
-/
import Derived.Test.YtkjhaofodlpnmaaWSrc3
open Go Go.RowKit
set_option linter.unusedVariables false
namespace Go.Proofs.Ytkjhaofodlpnmaa
def dry : Ending := .panicked [{ v := .iface 65 (.agg #[]), recovered := false }]
/-- n as it counts. -/
def cnt (n : Int) : Nat := (max n 1).toNat
theorem cnt_pos (n : Int) : 1 ≤ cnt n := by unfold cnt; omega
theorem cnt_eq (n : Int) : max n 1 = (cnt n : Int) := by unfold cnt; omega
theorem cnt_lt (n : Int) (h : n < 9223372036854775808) : cnt n < 9223372036854775808 := by unfold cnt; omega
def Src.take (S : Src) (kind : Int) (v : Nat) : Src := { S with taken := S.taken ++ [(kind, v)] }
/-- What a draw comes to. -/
def SDraw (S : Src) (kind n : Int) (r : Ending) (S' : Src) : Prop :=
  (S.taken.length = S.many ∧ r = dry ∧ S' = S) ∨
  (S.taken.length < S.many ∧ drawAt S S.taken.length kind (cnt n) = none ∧ r = strayed S.taken.length kind (cnt n) (S.tape.getD S.taken.length (0, 0)) ∧ S' = S) ∨
  (S.taken.length < S.many ∧ ∃ v, drawAt S S.taken.length kind (cnt n) = some v ∧ r = .returned (.int .i64 (v : Int)) ∧ S' = S.take kind v)
theorem drawAt_lt {S : Src} {i : Nat} {kind : Int} {n v : Nat} (hn : 1 ≤ n) (h : drawAt S i kind n = some v) : v < n := by
  unfold drawAt at h
  split at h
  · split at h
    · rename_i h2; cases h; exact h2.2
    · cases h
  · cases h; exact Nat.mod_lt _ (by omega)
set_option maxRecDepth 100000 in
set_option maxHeartbeats 4000000 in
theorem sdraw_any {w0 w : World} {R : List Asr} {p k : Nat} {S : Src} (h : Own w0 w (SrcA p k S .nilFunc :: R)) (hS : S.ok) (hf : S.fits k) (hm : S.many < 9223372036854775808) (ht : S.taken.length ≤ S.many) (hk : S.taken.length ≤ 1000) (kind n : Int) (hn : n < 9223372036854775808) :
    Calls Try.prog 23 #[.pointer (some ⟨p, 0, none⟩), .int .i64 kind, .int .i64 n] w fun r w' => ∃ S', SDraw S kind n r S' ∧ Own w0 w' (SrcA p k S' .nilFunc :: R) := by
  have hl := sleft_any h hm ht
  have H := Lib.hid h
  have HL := Lib.hid hl
  clear h hl
  by_cases hd : S.taken.length = S.many
  · have e : ((S.many - S.taken.length : Nat) : Int) = 0 := by omega
    rw [e] at HL
    have HS : Hid (SDraw S kind n dry S) := Lib.hid (.inl ⟨hd, rfl, rfl⟩)
    clear hS hf hm ht hk hd e
    go_enter Try.func23, Try.ntmps23
    go_wp2_with fail
    refine HL.out.mono ?_
    rintro r w1 ⟨rfl, m, rfl⟩
    have H1 := Lib.hid (H.out.step (below_drewN (Below.refl _ _) m))
    clear H HL
    go_wp2
    exact ⟨rfl, _, HS.out, H1.out⟩
  · have hlt : S.taken.length < S.many := by omega
    have e : ¬ ((S.many - S.taken.length : Nat) : Int) = 0 := by omega
    have hdraw : ∀ w1, Below w.heap.size w w1 → ∀ ta tc na nc, CellsAt w ta (recCells S.tape) → CellsAt w na (numc S.nums) → Calls Try.prog (drawer k) #[recv k (.slice ta S.tape.length tc) (.slice na S.nums.length nc), .int .i64 (S.taken.length : Int), .int .i64 kind, .int .i64 (cnt n : Int)] w1 (Drawn w1 S S.taken.length kind (cnt n)) :=
      fun w1 hb ta tc na nc h1 h2 => draw_any hS hf ta na tc nc (h1.below hb) (h2.below hb) _ hlt kind _ (cnt_pos n) (cnt_lt n hn) hm
    obtain ⟨ta, tc, na, nc, ka, kc, h⟩ := H.out.src
    have hdr := fun w1 hb => hdraw w1 hb ta tc na nc ((h.rowG 2 rfl).cells) ((h.rowG 3 rfl).cells)
    have en : ∀ (args : Array Value) (w : World), (callFunc (drawer k) args).run Try.prog w = .ok (.enter (drawer k) args) w := drawer_enter k
    have HDR := Lib.hid hdr
    obtain ⟨g0, -⟩ := h.cel 0 rfl 0 _ rfl
    obtain ⟨g2, -⟩ := h.cel 0 rfl 2 _ rfl
    clear hdraw hdr
    generalize recv k (.slice ta S.tape.length tc) (.slice na S.nums.length nc) = rv at *
    generalize drawer k = F at *
    have HS := Lib.hid hS
    have HF := Lib.hid hf
    have HM := Lib.hid hm
    have HLT := Lib.hid hlt
    have HK := Lib.hid hk
    generalize hdd : S.many - S.taken.length = d at *
    have HDD := Lib.hid hdd
    obtain ⟨nk, hnk⟩ : ∃ nk, nk = S.taken.length := ⟨_, rfl⟩
    rw [← hnk] at g2 HDR
    have HNK := Lib.hid hnk
    have H0 := Lib.hid h
    have G0 := Lib.hid g0
    have G2 := Lib.hid g2
    have hmx := cnt_eq n
    have hmp := cnt_pos n
    have hml := cnt_lt n hn
    have hpan : ∀ w', Below w.heap.size w w' → drawAt S nk kind (cnt n) = none → ∃ S', SDraw S kind n (strayed nk kind (cnt n) (S.tape.getD nk (0, 0))) S' ∧ Own w0 w' (SrcA p k S' .nilFunc :: R) := fun w' hb hv =>
      ⟨S, .inr (.inl ⟨hlt, by rw [← hnk]; exact hv, by rw [hnk], rfl⟩), H.out.step hb⟩
    have HP := Lib.hid hpan
    clear hpan
    have hend : ∀ v w', drawAt S nk kind (cnt n) = some v → Own w0 w' (SrcA p k (S.take kind v) .nilFunc :: R) → ∃ S', SDraw S kind n (.returned (.int .i64 (v : Int))) S' ∧ Own w0 w' (SrcA p k S' .nilFunc :: R) := fun v w' hv ho =>
      ⟨_, .inr (.inr ⟨hlt, v, by rw [← hnk]; exact hv, rfl, rfl⟩), ho⟩
    have HEND := Lib.hid hend
    clear hend
    have hvl : ∀ v, drawAt S nk kind (cnt n) = some v → v < cnt n := fun v hv => drawAt_lt hmp hv
    have HVL := Lib.hid hvl
    clear hvl
    generalize cnt n = c at *
    clear hS hf hm ht hk hd h hlt hdd hnk g0 g2
    go_enter Try.func23, Try.ntmps23
    go_wp2_with fail
    refine HL.out.mono ?_
    rintro r w1 ⟨rfl, m, rfl⟩
    have hB1 : Below w.heap.size w (w.drewN m) := below_drewN (Below.refl _ _) m
    generalize w.drewN m = W at *
    have g0 := cell_below G0.out hB1
    have g2 := cell_below G2.out hB1
    have HB1 := Lib.hid hB1
    clear hB1 HL
    go_wp2_with fail
    have hmv : (if n < 1 then (1 : Int) else n) = (c : Int) := by rw [← hmx]; omega
    have HMV := Lib.hid hmv
    clear hmx hmv
    refine wp_region_lexP (fun w' => w'.cell? ⟨p, 0, none⟩ = some (.func (.func F) #[rv] #[]) ∧ w'.cell? ⟨p, 2, none⟩ = some (.slice ka nk kc) ∧ Below W.heap.size W w') 17 (Array.replicate 17 false) (by kernel_rfl) (by kernel_rfl) ?_
    have hBd := below_drew1 W
    generalize W.drew = Wd at *
    refine wpAnyH_seg 0 13 _ #[true, true, true, true, true, true, true, true, true, true, true, true, true, false, false, false, false] 4 (by kernel_rfl) body_put (⟨cell_below g0 hBd, cell_below g2 hBd, hBd⟩) (by kernel_rfl) ?_
    simp only [List.take_succ_cons, List.take_zero, List.drop_zero]
    repeat (first
      | (refine wpSegH_no (by rfl) ?_; simp only [Act.put, List.setIfInBounds_toArray, List.set_cons_zero, List.set_cons_succ])
      | (refine wpSegH_yes (by rfl) ?_; apply Exists.intro; apply And.intro; (· (intro wx hS; (try dsimp only at hS); go_simp; first | done | with_reducible rfl)); simp only [Act.put, List.setIfInBounds_toArray, List.set_cons_zero, List.set_cons_succ]))
    refine wpSegH_nil ?_
    rw [HMV.out]
    refine wpAnyH_two 13 15 _ #[true, true, true, true, true, true, true, true, true, true, true, true, true, true, false, false, false] #[true, true, true, true, true, true, true, true, true, true, true, true, true, false, false, true, false] 3 (by kernel_rfl) (fun K hK => ?_) (fun K hK => ?_)
    · skip
      have HKK := Lib.hid hK
      clear hK
      simp only [List.drop_succ_cons, List.drop_zero]
      refine headH_mk (by rfl) ?_
      go_simp
      refine (HDR.out _ (below_on HB1.out hBd)).mono ?_
      intro r w2 h2
      rcases h2.cases with ⟨v, rfl, hv⟩ | ⟨rfl, hv⟩
      · have hb2 : Below W.heap.size W w2 := below_on hBd h2.1
        refine HKK.out _ _ (⟨cell_below g0 hb2, cell_below g2 hb2, hb2⟩) ?_
        clear HKK K
        refine wpAnyH_seg 14 1 _ #[true, true, true, true, true, true, true, true, true, true, true, true, true, true, true, false, false] 2 (by kernel_rfl) body_put (⟨cell_below g0 hb2, cell_below g2 hb2, hb2⟩) (by kernel_rfl) ?_
        simp only [List.take_succ_cons, List.take_zero, List.drop_succ_cons, List.drop_zero]
        repeat (first
          | (refine wpSegH_no (by rfl) ?_; simp only [Act.put, List.setIfInBounds_toArray, List.set_cons_zero, List.set_cons_succ])
          | (refine wpSegH_yes (by rfl) ?_; apply Exists.intro; apply And.intro; (· (intro wx hS; (try dsimp only at hS); go_simp; first | done | with_reducible rfl)); simp only [Act.put, List.setIfInBounds_toArray, List.set_cons_zero, List.set_cons_succ]))
        refine wpSegH_nil ?_
        have h3 := (H0.out.step (below_on HB1.out hb2)).alloc [.int .i64 0, .int .u64 0] 37 (b := w2.heap.size) rfl
        have hb3 : Below W.heap.size W (w2.alloc (.cells #[.int .i64 0, .int .u64 0] 37)) := below_on hb2 (below_alloc1 _ _)
        have hgw : W.heap.size ≤ w2.heap.size := hb2.size
        refine wpAnyH_one 15 _ #[true, true, true, true, true, true, true, true, true, true, true, true, true, true, true, true, false] 1 (by kernel_rfl) (fun K hK => ?_)
        have HKK := Lib.hid hK
        clear hK
        simp only [List.drop_succ_cons, List.drop_zero]
        refine headH_mk (by rfl) ?_
        go_simp
        refine HKK.out _ _ (⟨cell_below g0 hb3, cell_below g2 hb3, hb3⟩) ?_
        clear HKK K
        generalize w2.alloc (.cells #[.int .i64 0, .int .u64 0] 37) = w3 at *
        generalize w2.heap.size = g at *
        obtain ⟨x0, y0⟩ := h3.cel 0 rfl 0 _ rfl
        obtain ⟨x1, y1⟩ := h3.cel 0 rfl 1 _ rfl
        have hb4 : Below W.heap.size W ((w3.setCell ⟨g, 0, none⟩ (.int .i64 kind)).setCell ⟨g, 1, none⟩ (.int .u64 (v : Int))) := (hb3.setCell hgw _).setCell hgw _
        refine wpAnyH_one 16 _ #[true, true, true, true, true, true, true, true, true, true, true, true, true, true, true, true, true] 0 (by kernel_rfl) (fun K hK => ?_)
        have HKK := Lib.hid hK
        clear hK
        simp only [List.drop_succ_cons, List.drop_zero]
        refine headH_mk (by rfl) ?_
        go_simp
        refine HKK.out _ _ (⟨cell_below g0 hb4, cell_below g2 hb4, hb4⟩) ?_
        clear HKK K
        refine wpAnyH_done (by kernel_rfl) (?_) _
        have h4 := (h3.set 0 (.int .i64 kind)).set 1 (.int .u64 (v : Int))
        have HG := Lib.hid h4
        clear h4 h3 hb3 hb2 h2
        go_wp2_with fail
        have HK4 := Lib.hid HG.out
        obtain ⟨q0, -⟩ := HK4.out.cel 0 rfl 0 _ rfl
        obtain ⟨q1, -⟩ := HK4.out.cel 0 rfl 1 _ rfl
        obtain ⟨q2, -⟩ := HK4.out.cel 1 rfl 2 _ rfl
        rw [show (Value.slice ka S.taken.length kc) = Value.slice ka nk kc by rw [HNK.out]] at q2
        generalize (w3.setCell ⟨g, 0, none⟩ (.int .i64 kind)).setCell ⟨g, 1, none⟩ (.int .u64 (v : Int)) = W5 at *
        have SCB : ∀ {wx : World} {As : List Asr}, Own w0 wx (CelA g [.int .i64 kind, .int .u64 (v : Int)] :: CelA p (scells k S ta tc na nc ka kc .nilFunc) :: As) → wx.cell? ⟨p, 2, none⟩ = some (.slice ka nk kc) ∧ wx.cell? ⟨g, 0, none⟩ = some (.int .i64 kind) ∧ wx.cell? ⟨g, 1, none⟩ = some (.int .u64 (v : Int)) := fun h => ⟨by rw [HNK.out]; exact (h.cel 1 rfl 2 _ rfl).1, (h.cel 0 rfl 0 _ rfl).1, (h.cel 0 rfl 1 _ rfl).1⟩
        refine wp_region_lexY (fun wx => wx.cell? ⟨p, 2, none⟩ = some (.slice ka nk kc) ∧ wx.cell? ⟨g, 0, none⟩ = some (.int .i64 kind) ∧ wx.cell? ⟨g, 1, none⟩ = some (.int .u64 (v : Int))) 10 11 (Array.replicate 11 false) (by kernel_rfl) (by kernel_rfl) ?_
        have h6 : Own w0 W5.drew (CelA g [.int .i64 kind, .int .u64 (v : Int)] :: CelA p (scells k S ta tc na nc ka kc .nilFunc) :: RowGA 2 ka kc S.taken.length (recCells S.taken) :: RowGA 2 ta tc S.tape.length (recCells S.tape) :: RowGA 1 na nc S.nums.length (numc S.nums) :: R) := HK4.out.step (below_drew1 W5)
        clear HK4 q0 q1 q2
        generalize W5.drew = W6 at *
        refine wpAnyY_seg 0 6 _ #[true, true, true, true, true, true, false, false, false, false, false] 5 (by kernel_rfl) noPanic_put (SCB h6) (by kernel_rfl) ?_
        simp only [List.take_succ_cons, List.take_zero, List.drop_zero]
        repeat (first
          | (refine wpSegH_no (by rfl) ?_; simp only [Act.put, List.setIfInBounds_toArray, List.set_cons_zero, List.set_cons_succ])
          | (refine wpSegH_yes (by rfl) ?_; apply Exists.intro; apply And.intro; (· (intro wx hS; (try dsimp only at hS); go_simp; first | done | with_reducible rfl)); simp only [Act.put, List.setIfInBounds_toArray, List.set_cons_zero, List.set_cons_succ]))
        refine wpSegH_nil ?_
        have hrow := h6.rowG 2 rfl
        obtain ⟨i0, hi0, hz0, hz1, hz2⟩ := info_parts info_rcd
        rw [← HNK.out] at hrow
        have o2 := h6.step (below_alloc1 W6 (.cells #[.int .i64 kind, .int .u64 (v : Int)] 37))
        refine wpAnyY_one 6 _ #[true, true, true, true, true, true, true, false, false, false, false] 4 (by kernel_rfl) (fun K hK => ?_)
        have HKK := Lib.hid hK
        clear hK
        simp only [List.drop_succ_cons, List.drop_zero]
        refine headH_mk (by rfl) ?_
        go_simp
        refine HKK.out _ _ (SCB o2) ?_
        clear HKK K
        refine wpAnyY_one 7 _ #[true, true, true, true, true, true, true, true, false, false, false] 3 (by kernel_rfl) (fun K hK => ?_)
        have HKK := Lib.hid hK
        clear hK
        simp only [List.drop_succ_cons, List.drop_zero]
        refine headH_mk (by rfl) ?_
        refine wp_append_rowG (n := nk) (m := 1) (cs := recCells S.taken) (ds := recCells [(kind, v)]) _ _ 26 (by rfl) 37 i0 _ Try.underlying26 hi0 hz0 hz1 hz2 rfl (by omega) (by omega) (by rfl) (by rfl) (hrow.below (below_alloc1 _ _)) (CellsAt.new W6 (recCells [(kind, v)]) _ rfl) rfl (recc_one _) (by have := HK.out; rw [HNK.out]; omega) ?_
        intro a9 c9 w9 k9 ch9 f9
        have o3 : Own w0 w9 (CelA g [.int .i64 kind, .int .u64 (v : Int)] :: CelA p (scells k S ta tc na nc ka kc .nilFunc) :: RowGA 2 a9 c9 (nk + 1) (recCells S.taken ++ recCells [(kind, v)]) :: RowGA 2 ta tc S.tape.length (recCells S.tape) :: RowGA 1 na nc S.nums.length (numc S.nums) :: R) :=
          ((Own.rowTurn (o2.pick 2 rfl) k9 ch9 f9).pick 2 rfl).pick 2 rfl
        refine HKK.out _ _ (SCB o3) ?_
        clear HKK K
        refine wpAnyY_segT 8 2 _ #[true, true, true, true, true, true, true, true, true, true, false] 1 (by kernel_rfl) noPanic_put (by kernel_rfl) ?_
        simp only [List.take_succ_cons, List.take_zero, List.drop_succ_cons, List.drop_zero]
        repeat (first
          | (refine wpSegH_no (by rfl) ?_; simp only [Act.put, List.setIfInBounds_toArray, List.set_cons_zero, List.set_cons_succ])
          | (refine wpSegH_yes (by rfl) ?_; apply Exists.intro; apply And.intro; (· (intro wx hS; (try dsimp only at hS); go_simp; first | done | with_reducible rfl)); simp only [Act.put, List.setIfInBounds_toArray, List.set_cons_zero, List.set_cons_succ]))
        refine wpSegH_nil ?_
        obtain ⟨q2, y2⟩ := o3.cel 1 rfl 2 _ rfl
        have o4 := o3.setAt 1 rfl 2 (.slice a9 (nk + 1) c9)
        have hfin : Own w0 (w9.setCell ⟨p, 2, none⟩ (.slice a9 (nk + 1) c9)) (CelA g [.int .i64 kind, .int .u64 (v : Int)] :: SrcA p k (S.take kind v) .nilFunc :: R) := by
          have e : nk + 1 = (S.take kind v).taken.length := by rw [HNK.out]; simp [Src.take]
          have e2 : recCells S.taken ++ recCells [(kind, v)] = recCells (S.take kind v).taken := by unfold Src.take recCells; simp
          have o5 : Own w0 (w9.setCell ⟨p, 2, none⟩ (.slice a9 (nk + 1) c9)) (CelA p ((scells k S ta tc na nc ka kc .nilFunc).set 2 (.slice a9 (nk + 1) c9)) :: RowGA 2 a9 c9 (nk + 1) (recCells S.taken ++ recCells [(kind, v)]) :: RowGA 2 ta tc S.tape.length (recCells S.tape) :: RowGA 1 na nc S.nums.length (numc S.nums) :: CelA g [.int .i64 kind, .int .u64 (v : Int)] :: R) := ((((o4.pick 4 rfl).pick 4 rfl).pick 4 rfl).pick 4 rfl)
          rw [e2, e] at o5
          rw [e]
          exact (Own.srcBack (S := S.take kind v) o5).pick 1 rfl
        have HFIN := Lib.hid hfin
        clear hfin o4 o3 o2 k9 ch9 f9 hrow hi0 hz0 hz1 hz2 i0 h6 SCB HG
        refine wpAnyY_late 10 _ #[true, true, true, true, true, true, true, true, true, true, true] 0 (by kernel_rfl) (fun K hK => ?_)
        have HKK := Lib.hid hK
        clear hK
        simp only [List.drop_succ_cons, List.drop_zero]
        refine headH_mk (by rfl) ?_
        go_simp
        refine HKK.out _ _ ?_
        clear HKK K
        refine wpAnyY_done (by kernel_rfl) (NoPanic.normal ?_) _
        generalize w9.setCell ⟨p, 2, none⟩ (.slice a9 (nk + 1) c9) = w10 at *
        obtain ⟨_, _, _, _, _, _, hs⟩ := (HFIN.out.pick 1 rfl).src
        obtain ⟨z3, -⟩ := hs.cel 0 rfl 3 _ rfl
        obtain ⟨z1, -⟩ := HFIN.out.cel 0 rfl 1 _ rfl
        have hvv := HVL.out v hv
        have hvw : IntKind.i64.wrap (v : Int) = (v : Int) := by rw [IntKind.wrap_i64]; omega
        have hne : ∀ w : World, (binOp .neq 38 .nilFunc .nilFunc).run Try.prog w = .ok (.bool false) w := fun _ => rfl
        have HRES := Lib.hid (HEND.out v _ hv HFIN.out.drop)
        clear hs HFIN HEND hvv hv HVL
        go_wp2
        go_ret
        exact HRES.out
      · exact ⟨rfl, HP.out _ (below_on HB1.out (below_on hBd h2.1)) hv⟩
    · skip
      have hgw : W.heap.size ≤ Wd.heap.size := hBd.size
      have h3 := (H0.out.step (below_on HB1.out hBd)).alloc [.int .i64 0, .int .u64 0] 37 (b := Wd.heap.size) rfl
      have hb3 : Below W.heap.size W (Wd.alloc (.cells #[.int .i64 0, .int .u64 0] 37)) := below_on hBd (below_alloc1 _ _)
      have HKK := Lib.hid hK
      clear hK
      simp only [List.drop_succ_cons, List.drop_zero]
      refine headH_mk (by rfl) ?_
      go_simp
      refine HKK.out _ _ (⟨cell_below g0 hb3, cell_below g2 hb3, hb3⟩) ?_
      clear HKK K
      generalize Wd.alloc (.cells #[.int .i64 0, .int .u64 0] 37) = wa at *
      generalize Wd.heap.size = g at *
      refine wpAnyH_one 13 _ #[true, true, true, true, true, true, true, true, true, true, true, true, true, true, false, true, false] 2 (by kernel_rfl) (fun K hK => ?_)
      have HKK := Lib.hid hK
      clear hK
      simp only [List.drop_succ_cons, List.drop_zero]
      refine headH_mk (by rfl) ?_
      go_simp
      refine (HDR.out _ (below_on HB1.out hb3)).mono ?_
      intro r w3 h2
      rcases h2.cases with ⟨v, rfl, hv⟩ | ⟨rfl, hv⟩
      · have hb2 : Below W.heap.size W w3 := below_on hb3 h2.1
        replace h3 := h3.step h2.1
        refine HKK.out _ _ (⟨cell_below g0 hb2, cell_below g2 hb2, hb2⟩) ?_
        clear HKK K
        refine wpAnyH_seg 14 1 _ #[true, true, true, true, true, true, true, true, true, true, true, true, true, true, true, true, false] 1 (by kernel_rfl) body_put (⟨cell_below g0 hb2, cell_below g2 hb2, hb2⟩) (by kernel_rfl) ?_
        simp only [List.take_succ_cons, List.take_zero, List.drop_succ_cons, List.drop_zero]
        repeat (first
          | (refine wpSegH_no (by rfl) ?_; simp only [Act.put, List.setIfInBounds_toArray, List.set_cons_zero, List.set_cons_succ])
          | (refine wpSegH_yes (by rfl) ?_; apply Exists.intro; apply And.intro; (· (intro wx hS; (try dsimp only at hS); go_simp; first | done | with_reducible rfl)); simp only [Act.put, List.setIfInBounds_toArray, List.set_cons_zero, List.set_cons_succ]))
        refine wpSegH_nil ?_
        obtain ⟨x0, y0⟩ := h3.cel 0 rfl 0 _ rfl
        obtain ⟨x1, y1⟩ := h3.cel 0 rfl 1 _ rfl
        have hb4 : Below W.heap.size W ((w3.setCell ⟨g, 0, none⟩ (.int .i64 kind)).setCell ⟨g, 1, none⟩ (.int .u64 (v : Int))) := (hb2.setCell hgw _).setCell hgw _
        refine wpAnyH_one 16 _ #[true, true, true, true, true, true, true, true, true, true, true, true, true, true, true, true, true] 0 (by kernel_rfl) (fun K hK => ?_)
        have HKK := Lib.hid hK
        clear hK
        simp only [List.drop_succ_cons, List.drop_zero]
        refine headH_mk (by rfl) ?_
        go_simp
        refine HKK.out _ _ (⟨cell_below g0 hb4, cell_below g2 hb4, hb4⟩) ?_
        clear HKK K
        refine wpAnyH_done (by kernel_rfl) (?_) _
        have h4 := (h3.set 0 (.int .i64 kind)).set 1 (.int .u64 (v : Int))
        have HG := Lib.hid h4
        clear h4 h3 hb3 hb2 h2
        go_wp2_with fail
        have HK4 := Lib.hid HG.out
        obtain ⟨q0, -⟩ := HK4.out.cel 0 rfl 0 _ rfl
        obtain ⟨q1, -⟩ := HK4.out.cel 0 rfl 1 _ rfl
        obtain ⟨q2, -⟩ := HK4.out.cel 1 rfl 2 _ rfl
        rw [show (Value.slice ka S.taken.length kc) = Value.slice ka nk kc by rw [HNK.out]] at q2
        generalize (w3.setCell ⟨g, 0, none⟩ (.int .i64 kind)).setCell ⟨g, 1, none⟩ (.int .u64 (v : Int)) = W5 at *
        have SCB : ∀ {wx : World} {As : List Asr}, Own w0 wx (CelA g [.int .i64 kind, .int .u64 (v : Int)] :: CelA p (scells k S ta tc na nc ka kc .nilFunc) :: As) → wx.cell? ⟨p, 2, none⟩ = some (.slice ka nk kc) ∧ wx.cell? ⟨g, 0, none⟩ = some (.int .i64 kind) ∧ wx.cell? ⟨g, 1, none⟩ = some (.int .u64 (v : Int)) := fun h => ⟨by rw [HNK.out]; exact (h.cel 1 rfl 2 _ rfl).1, (h.cel 0 rfl 0 _ rfl).1, (h.cel 0 rfl 1 _ rfl).1⟩
        refine wp_region_lexY (fun wx => wx.cell? ⟨p, 2, none⟩ = some (.slice ka nk kc) ∧ wx.cell? ⟨g, 0, none⟩ = some (.int .i64 kind) ∧ wx.cell? ⟨g, 1, none⟩ = some (.int .u64 (v : Int))) 10 11 (Array.replicate 11 false) (by kernel_rfl) (by kernel_rfl) ?_
        have h6 : Own w0 W5.drew (CelA g [.int .i64 kind, .int .u64 (v : Int)] :: CelA p (scells k S ta tc na nc ka kc .nilFunc) :: RowGA 2 ka kc S.taken.length (recCells S.taken) :: RowGA 2 ta tc S.tape.length (recCells S.tape) :: RowGA 1 na nc S.nums.length (numc S.nums) :: R) := HK4.out.step (below_drew1 W5)
        clear HK4 q0 q1 q2
        generalize W5.drew = W6 at *
        refine wpAnyY_seg 0 6 _ #[true, true, true, true, true, true, false, false, false, false, false] 5 (by kernel_rfl) noPanic_put (SCB h6) (by kernel_rfl) ?_
        simp only [List.take_succ_cons, List.take_zero, List.drop_zero]
        repeat (first
          | (refine wpSegH_no (by rfl) ?_; simp only [Act.put, List.setIfInBounds_toArray, List.set_cons_zero, List.set_cons_succ])
          | (refine wpSegH_yes (by rfl) ?_; apply Exists.intro; apply And.intro; (· (intro wx hS; (try dsimp only at hS); go_simp; first | done | with_reducible rfl)); simp only [Act.put, List.setIfInBounds_toArray, List.set_cons_zero, List.set_cons_succ]))
        refine wpSegH_nil ?_
        have hrow := h6.rowG 2 rfl
        obtain ⟨i0, hi0, hz0, hz1, hz2⟩ := info_parts info_rcd
        rw [← HNK.out] at hrow
        have o2 := h6.step (below_alloc1 W6 (.cells #[.int .i64 kind, .int .u64 (v : Int)] 37))
        refine wpAnyY_one 6 _ #[true, true, true, true, true, true, true, false, false, false, false] 4 (by kernel_rfl) (fun K hK => ?_)
        have HKK := Lib.hid hK
        clear hK
        simp only [List.drop_succ_cons, List.drop_zero]
        refine headH_mk (by rfl) ?_
        go_simp
        refine HKK.out _ _ (SCB o2) ?_
        clear HKK K
        refine wpAnyY_one 7 _ #[true, true, true, true, true, true, true, true, false, false, false] 3 (by kernel_rfl) (fun K hK => ?_)
        have HKK := Lib.hid hK
        clear hK
        simp only [List.drop_succ_cons, List.drop_zero]
        refine headH_mk (by rfl) ?_
        refine wp_append_rowG (n := nk) (m := 1) (cs := recCells S.taken) (ds := recCells [(kind, v)]) _ _ 26 (by rfl) 37 i0 _ Try.underlying26 hi0 hz0 hz1 hz2 rfl (by omega) (by omega) (by rfl) (by rfl) (hrow.below (below_alloc1 _ _)) (CellsAt.new W6 (recCells [(kind, v)]) _ rfl) rfl (recc_one _) (by have := HK.out; rw [HNK.out]; omega) ?_
        intro a9 c9 w9 k9 ch9 f9
        have o3 : Own w0 w9 (CelA g [.int .i64 kind, .int .u64 (v : Int)] :: CelA p (scells k S ta tc na nc ka kc .nilFunc) :: RowGA 2 a9 c9 (nk + 1) (recCells S.taken ++ recCells [(kind, v)]) :: RowGA 2 ta tc S.tape.length (recCells S.tape) :: RowGA 1 na nc S.nums.length (numc S.nums) :: R) :=
          ((Own.rowTurn (o2.pick 2 rfl) k9 ch9 f9).pick 2 rfl).pick 2 rfl
        refine HKK.out _ _ (SCB o3) ?_
        clear HKK K
        refine wpAnyY_segT 8 2 _ #[true, true, true, true, true, true, true, true, true, true, false] 1 (by kernel_rfl) noPanic_put (by kernel_rfl) ?_
        simp only [List.take_succ_cons, List.take_zero, List.drop_succ_cons, List.drop_zero]
        repeat (first
          | (refine wpSegH_no (by rfl) ?_; simp only [Act.put, List.setIfInBounds_toArray, List.set_cons_zero, List.set_cons_succ])
          | (refine wpSegH_yes (by rfl) ?_; apply Exists.intro; apply And.intro; (· (intro wx hS; (try dsimp only at hS); go_simp; first | done | with_reducible rfl)); simp only [Act.put, List.setIfInBounds_toArray, List.set_cons_zero, List.set_cons_succ]))
        refine wpSegH_nil ?_
        obtain ⟨q2, y2⟩ := o3.cel 1 rfl 2 _ rfl
        have o4 := o3.setAt 1 rfl 2 (.slice a9 (nk + 1) c9)
        have hfin : Own w0 (w9.setCell ⟨p, 2, none⟩ (.slice a9 (nk + 1) c9)) (CelA g [.int .i64 kind, .int .u64 (v : Int)] :: SrcA p k (S.take kind v) .nilFunc :: R) := by
          have e : nk + 1 = (S.take kind v).taken.length := by rw [HNK.out]; simp [Src.take]
          have e2 : recCells S.taken ++ recCells [(kind, v)] = recCells (S.take kind v).taken := by unfold Src.take recCells; simp
          have o5 : Own w0 (w9.setCell ⟨p, 2, none⟩ (.slice a9 (nk + 1) c9)) (CelA p ((scells k S ta tc na nc ka kc .nilFunc).set 2 (.slice a9 (nk + 1) c9)) :: RowGA 2 a9 c9 (nk + 1) (recCells S.taken ++ recCells [(kind, v)]) :: RowGA 2 ta tc S.tape.length (recCells S.tape) :: RowGA 1 na nc S.nums.length (numc S.nums) :: CelA g [.int .i64 kind, .int .u64 (v : Int)] :: R) := ((((o4.pick 4 rfl).pick 4 rfl).pick 4 rfl).pick 4 rfl)
          rw [e2, e] at o5
          rw [e]
          exact (Own.srcBack (S := S.take kind v) o5).pick 1 rfl
        have HFIN := Lib.hid hfin
        clear hfin o4 o3 o2 k9 ch9 f9 hrow hi0 hz0 hz1 hz2 i0 h6 SCB HG
        refine wpAnyY_late 10 _ #[true, true, true, true, true, true, true, true, true, true, true] 0 (by kernel_rfl) (fun K hK => ?_)
        have HKK := Lib.hid hK
        clear hK
        simp only [List.drop_succ_cons, List.drop_zero]
        refine headH_mk (by rfl) ?_
        go_simp
        refine HKK.out _ _ ?_
        clear HKK K
        refine wpAnyY_done (by kernel_rfl) (NoPanic.normal ?_) _
        generalize w9.setCell ⟨p, 2, none⟩ (.slice a9 (nk + 1) c9) = w10 at *
        obtain ⟨_, _, _, _, _, _, hs⟩ := (HFIN.out.pick 1 rfl).src
        obtain ⟨z3, -⟩ := hs.cel 0 rfl 3 _ rfl
        obtain ⟨z1, -⟩ := HFIN.out.cel 0 rfl 1 _ rfl
        have hvv := HVL.out v hv
        have hvw : IntKind.i64.wrap (v : Int) = (v : Int) := by rw [IntKind.wrap_i64]; omega
        have hne : ∀ w : World, (binOp .neq 38 .nilFunc .nilFunc).run Try.prog w = .ok (.bool false) w := fun _ => rfl
        have HRES := Lib.hid (HEND.out v _ hv HFIN.out.drop)
        clear hs HFIN HEND hvv hv HVL
        go_wp2
        go_ret
        exact HRES.out
      · exact ⟨rfl, HP.out _ (below_on HB1.out (below_on hb3 h2.1)) hv⟩
end Go.Proofs.Ytkjhaofodlpnmaa
