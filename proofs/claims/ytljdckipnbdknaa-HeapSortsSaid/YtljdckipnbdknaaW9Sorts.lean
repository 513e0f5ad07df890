/-
  The walk of the law HeapSorts.
-/
import Derived.Test.YtljdckipnbdknaaWHeap7
import Derived.Test.YtljdckipnbdknaaInts
import Derived.Test.YtljdckipnbdknaaSegH
import Derived.OpenShut
import Derived.LoopTactic
open Go Go.RowKit Go.Maps
set_option linter.unusedVariables false
namespace Go.Proofs.Ytljdckipnbdknaa.heapSorts
/-- In the midst: k were woken; the last one. -/
def SSt (z : Nat → Int) (m k : Nat) (l : List It) (D : DataW Nat) (la ls : Int) : Prop :=
  ∃ S done : List Nat, Has z l S ∧ S.length + k = m ∧ done.length = k ∧ Keys D done ∧ (∀ j ∈ S, j < m ∧ j ∉ done) ∧ (0 < k → ∀ j ∈ S, la < z j ∨ (la = z j ∧ ls < (j : Int)))
theorem SSt.len {z : Nat → Int} {m k : Nat} {l : List It} {D : DataW Nat} {la ls : Int} (h : SSt z m k l D la ls) : l.length + k = m := by
  obtain ⟨S, done, h1, h2, _⟩ := h; rw [h1.len]; exact h2
/-- The first one; what is left when it goes. -/
theorem SSt.next {z : Nat → Int} {m k : Nat} {l : List It} {D : DataW Nat} {la ls : Int} (h : SSt z m k l D la ls) (hk : k < m) :
    0 < l.length ∧ ∃ j, gI l 0 = itZ z j ∧ j < m ∧ (∃ i, i < l.length ∧ (gI l i).seq = (j : Int)) ∧ (0 < k → la < z j ∨ (la = z j ∧ ls < (j : Int))) ∧
      ∀ i d, i < l.length → (gI l i).seq = (j : Int) → SSt z m (k + 1) (remF l i) (D.put (.int .i64 (j : Int)) d) (z j) (j : Int) := by
  have h0 := h.len
  obtain ⟨S, done, h1, h2, h3, h4, h5, h6⟩ := h
  have hl : 0 < l.length := by omega
  obtain ⟨j, hj, e⟩ := h1.at hl
  refine ⟨hl, j, e, (h5 j hj).1, h1.find hj, fun hk0 => h6 hk0 j hj, fun i d hi hs => ?_⟩
  obtain ⟨r1, r2, r3⟩ := h1.rem hi hs
  refine ⟨S.erase j, j :: done, r3, ?_, by simp [h3], h4.put j (h5 j hj).2 d, fun y hy => ?_, fun _ y hy => ?_⟩
  · have := List.length_erase_of_mem r1
    have : 0 < S.length := List.length_pos_of_mem r1
    omega
  · obtain ⟨e1, e2⟩ := h1.1.mem_erase_iff.1 hy
    exact ⟨(h5 y e2).1, by simp [e1, (h5 y e2).2]⟩
  · obtain ⟨e1, e2⟩ := h1.1.mem_erase_iff.1 hy
    obtain ⟨i', hi', e3⟩ := h1.find e2
    have hle := h1.2.2.least i' hi'
    obtain ⟨y', hy', e4⟩ := h1.at hi'
    rw [e4] at e3
    simp only [itZ] at e3
    have : y' = y := by omega
    subst this
    rw [e, e4, leI_iff] at hle
    simp only [itZ] at hle
    rcases hle with h | ⟨h, h'⟩
    · exact .inl h
    · exact .inr ⟨h, by omega⟩
theorem wf_j {j : Nat} (h : j < 1000) : (Lit.int .i64 (j : Int)).wf = true := by
  have e1 : IntKind.i64.min = -9223372036854775808 := by decide
  have e2 : IntKind.i64.max = 9223372036854775807 := by decide
  simp [Lit.wf, e1, e2]; omega
theorem wf_u64 {n : Int} (h : (Lit.int .u64 n).wf = true) : 0 ≤ n ∧ n ≤ 18446744073709551615 := by
  have := bounds_u64 h; omega
set_option maxRecDepth 100000 in
set_option maxHeartbeats 4000000 in
theorem walk (a0 : Option Addr) (len0 cap0 : Nat) (z0 : List Int) (w : World) (w0 : IsRow .u64 w a0 len0 cap0 z0) :
    Calls Try.prog 4 #[.slice a0 len0 cap0] w fun e w' => e = .returned (.bool true) ∧ Below w.heap.size w w' := by
  obtain ⟨hlc, hcm, hzl, hcells⟩ := w0.cells
  clear w0
  generalize List.take len0 z0 = zs at hzl hcells
  unfold maxLen at hcm
  obtain ⟨m, hm⟩ : ∃ m : Nat, m = min len0 100 := ⟨_, rfl⟩
  have hmc : (m = len0 ∧ len0 ≤ 100) ∨ (m = 100 ∧ ¬ len0 ≤ 100) := by omega
  have hml : m ≤ len0 := by omega
  have hm60 : m ≤ 100 := by omega
  clear hm
  obtain ⟨z, hz⟩ : ∃ z : Nat → Int, z = fun j => zs.getD j 0 := ⟨_, rfl⟩
  have hzc : ∀ j, j < len0 → ∃ b off, a0 = some ⟨b, off, none⟩ ∧ w.cell? ⟨b, off + j, none⟩ = some (.int .u64 (z j)) := fun j hj => by
    obtain ⟨b, off, e1, e2, e3⟩ := hcells j (by omega)
    have e : z j = zs[j]'(by omega) := by rw [hz]; simp only [List.getD_eq_getElem?_getD]; rw [List.getElem?_eq_getElem (by omega)]; rfl
    rw [e]; exact ⟨b, off, e1, e2⟩
  have HZC := Lib.hid hzc
  clear hzc hz hzl hcells hcm hlc
  have hmm := run_makeMap (P := Try.prog)
  go_enter Try.func4, Try.ntmps4
  go_wp2_with fail
  refine (awake9_any _).mono ?_
  rintro e w1 ⟨rfl, hb1⟩
  have B1 := Lib.hid hb1; clear hb1
  have hnew : Own w1 (w1.alloc (.cells #[.slice none 0 0, .int .u64 0] 27)) [HeapA w1.heap.size [] 0] :=
    (Own.nil (Below.refl _ w1)).add (below_alloc1 _ _) (A := HeapA w1.heap.size [] 0) (F := foot w1.heap.size (.slice none 0 0)) ⟨.slice none 0 0, rfl, Blk.mk w1 [.slice none 0 0, .int .u64 0] 27 _ rfl, ItemsAt.nil _, fun x hx => by simp [Value.ownBlock] at hx⟩ (fun x hx => by simp [foot, Value.ownBlock] at hx; omega)
  have HNEW := Lib.hid hnew; clear hnew
  go_upto_region 4 with fail
  obtain ⟨p, hp⟩ : ∃ p, p = w1.heap.size := ⟨_, rfl⟩
  rw [← hp] at HNEW ⊢
  clear hp
  go_cut [4] (fun s4 wx => s4 = .int .i64 (m : Int) ∧ Hid (Own w1 wx [HeapA p [] 0]))
  case first =>
    rcases hmc with ⟨rfl, h⟩ | ⟨rfl, h⟩
    all_goals
      go_wp2_with fail
      go_meet
      exact ⟨rfl, HNEW.out⟩
  obtain ⟨rfl, hcut⟩ := hcut
  clear HNEW
  go_wp2_with fail
  go_loopw [17] (fun c wr => ∃ i : Nat, i ≤ m ∧ c = .int .i64 i ∧ Hid (Own w1 wr [HeapA p (plist z i) i])) (fun c _ => m - (intOf c).toNat)
  case atStart => exact ⟨0, by omega, rfl, hcut⟩
  case round =>
    obtain ⟨i, hi, rfl, hr⟩ := hrel
    by_cases hlt : i < m
    · obtain ⟨b, off, rfl, c1⟩ := HZC.out i (by omega)
      have c2 := cell_below c1 (below_on B1.out hr.out.bel)
      have hli : (i : Int) < (m : Int) := by omega
      have hll : (i : Int) < (len0 : Int) := by omega
      clear c1
      go_wp2_with fail
      refine (own_push hr.out (z i) i (by rw [plist_len]; omega) (by omega)).mono ?_
      rintro r w2 ⟨rfl, h2⟩
      have H2 : Hid (Own w1 w2 [HeapA p (plist z (i + 1)) (i + 1)]) := h2
      clear h2
      go_wp2
      exact ⟨⟨i + 1, by omega, by go_num, H2⟩, by simp [intOf]; omega⟩
    · obtain rfl : m = i := by omega
      have hst : SSt z m 0 (plist z m) (.map []) 0 0 := ⟨List.range m, [], Has.all m, by simp, rfl, Keys.nil, fun j hj => ⟨List.mem_range.1 hj, by simp⟩, fun h => by omega⟩
      have HST := Lib.hid hst
      clear hst hlt hi hcut
      have hO1 : Own w1 (wr.alloc (.map #[] 0)) [MapA wr.heap.size 0 (.map []), HeapA p (plist z m) m] :=
        hr.out.add (below_alloc1 _ _) (A := MapA wr.heap.size 0 (.map [])) (F := [wr.heap.size]) ⟨rfl, World.ownsMap_made _ _ _ _⟩ (fun x hx => by simp at hx; omega)
      have hO2 : Own w1 ((wr.alloc (.map #[] 0)).alloc (.cells #[.int .u64 0, .int .u64 0, .int .i64 0] 43)) [CelA (wr.heap.size + 1) [.int .u64 0, .int .u64 0, .int .i64 0], MapA wr.heap.size 0 (.map []), HeapA p (plist z m) m] :=
        hO1.alloc _ _ (by simp)
      have hO3 : Own w1 ((wr.alloc (.map #[] 0)).alloc (.cells #[.int .u64 0, .int .u64 0, .int .i64 0] 43)) [HeapA p (plist z m) m, CelA (wr.heap.size + 1) [.int .u64 0, .int .u64 0, .int .i64 0], MapA wr.heap.size 0 (.map [])] := hO2.pick 2 rfl
      have HO := Lib.hid hO3
      clear hO1 hO2 hO3 hr
      go_upto_region 12 with fail
      generalize (wr.alloc (.map #[] 0)).alloc (.cells #[.int .u64 0, .int .u64 0, .int .i64 0] 43) = W3 at *
      obtain ⟨bl, hbl⟩ : ∃ bl, bl = wr.heap.size + 1 := ⟨_, rfl⟩
      rw [← hbl] at HO ⊢
      clear hbl
      generalize wr.heap.size = bm at *
      go_wp2_with fail
      go_loopw [30] (fun c wx => ∃ k : Nat, ∃ l : List It, ∃ D : DataW Nat, ∃ la ls li : Int, k ≤ m ∧ c = .int .i64 k ∧ Hid (Own w1 wx [HeapA p l m, CelA bl [.int .u64 la, .int .u64 ls, .int .i64 li], MapA bm k D] ∧ SSt z m k l D la ls)) (fun c _ => m - (intOf c).toNat)
      case atStart => exact ⟨0, _, _, 0, 0, 0, by omega, rfl, HO.out, HST.out⟩
      case round =>
        obtain ⟨k, l, D, la, ls, li, hk, rfl, hr⟩ := hrel
        by_cases hlt : k < m
        · have hlk : (k : Int) < (m : Int) := by omega
          obtain ⟨hl0, j, e0, hjm, hfind, hord, hnext⟩ := hr.out.2.next hlt
          have hlen := hr.out.2.len
          have HNEXT := Lib.hid hnext
          have HFIND := Lib.hid hfind
          have hmin := own_min hr.out.1 hl0
          rw [e0] at hmin
          unfold itv itZ at hmin
          simp only at hmin
          have HMIN := Lib.hid hmin
          obtain ⟨b, off, rfl, d0⟩ := HZC.out j (by omega)
          have D0 := Lib.hid d0
          have HOK := Lib.hid hr.out.1
          have hcase : k = 0 ∨ (0 < k ∧ la < z j ∧ (z j == la) = false) ∨ (0 < k ∧ la = z j ∧ ls < (j : Int)) := by
            by_cases hk0 : 0 < k
            · rcases hord hk0 with h | ⟨h, h'⟩
              · exact .inr (.inl ⟨hk0, h, by rw [beq_eq_false_iff_ne]; omega⟩)
              · exact .inr (.inr ⟨hk0, h, h'⟩)
            · exact .inl (by omega)
          have hjl : (j : Int) < (len0 : Int) := by omega
          clear hnext hfind hmin d0 hord e0 HZC
          obtain ⟨zj, hzj⟩ : ∃ zj, zj = z j := ⟨_, rfl⟩
          rw [← hzj] at HMIN D0 HNEXT hcase
          clear hzj
          go_wp2_with fail
          refine HMIN.out.mono ?_
          rintro r w2 ⟨rfl, hb2⟩
          have hO9 := (HOK.out.step hb2).alloc [.int .u64 zj, .int .u64 (j : Int), .int .i64 (j : Int)] 43 (b := w2.heap.size) rfl
          have HO9 := Lib.hid hO9
          clear hO9 hb2
          go_upto_region 16 with fail
          generalize w2.alloc (.cells #[.int .u64 zj, .int .u64 (j : Int), .int .i64 (j : Int)] 43) = W9 at *
          generalize w2.heap.size = b9 at *
          have hcan : ∀ q, Calls Try.prog 9 #[.pointer (some ⟨p, 0, none⟩), .int .u64 (j : Int)] (W9.drewN q) fun r w' => r = .returned (.bool true) ∧ ∃ i, i < l.length ∧ (gI l i).seq = (j : Int) ∧ Own w1 w' [HeapA p (remF l i) m, CelA b9 [.int .u64 zj, .int .u64 (j : Int), .int .i64 (j : Int)], CelA bl [.int .u64 la, .int .u64 ls, .int .i64 li], MapA bm k D] := fun q =>
            own_yes ((HO9.out.step (below_drewN (Below.refl _ _) q)).pick 1 rfl) (j : Int) (by omega) HFIND.out
          have hcan1 := hcan 1
          have HCAN := Lib.hid hcan1
          -- the cells that are read, in whatever world in which the pieces are
          have hcel : ∀ wx x, Own w1 wx [x, CelA b9 [.int .u64 zj, .int .u64 (j : Int), .int .i64 (j : Int)], CelA bl [.int .u64 la, .int .u64 ls, .int .i64 li], MapA bm k D] →
              wx.cell? ⟨b9, 0, none⟩ = some (.int .u64 zj) ∧ wx.cell? ⟨b9, 1, none⟩ = some (.int .u64 (j : Int)) ∧ wx.cell? ⟨b9, 2, none⟩ = some (.int .i64 (j : Int)) ∧ wx.cell? ⟨bl, 0, none⟩ = some (.int .u64 la) ∧ wx.cell? ⟨bl, 1, none⟩ = some (.int .u64 ls) ∧ wx.cell? ⟨b, off + j, none⟩ = some (.int .u64 zj) := fun wx x h =>
            ⟨(h.cel 1 rfl 0 _ rfl).1, (h.cel 1 rfl 1 _ rfl).1, (h.cel 1 rfl 2 _ rfl).1, (h.cel 2 rfl 0 _ rfl).1, (h.cel 2 rfl 1 _ rfl).1, cell_below D0.out (below_on B1.out h.bel)⟩
          have HCEL := Lib.hid hcel
          have h0 := hcel _ _ ((HO9.out.step (below_drew1 _)).pick 1 rfl)
          clear hcan hcan1 hcel hlen hl0 HST
          have hjj : (0 : Int) ≤ (j : Int) := by omega
          have hc3 : (decide (0 < k) = false) ∨ (decide (0 < k) = true ∧ decide (zj < la) = false ∧ (zj == la) = false) ∨ (decide (0 < k) = true ∧ decide (zj < la) = false ∧ (zj == la) = true ∧ decide ((j : Int) ≤ ls) = false) := by
            rcases hcase with h | ⟨h1, h2, h3⟩ | ⟨h1, h2, h3⟩
            · left; simp; omega
            · right; left; exact ⟨by simp; omega, by simp; omega, h3⟩
            · right; right; exact ⟨by simp; omega, by simp; omega, by simp; omega, by simp; omega⟩
          clear hcase
          refine wp_region_lexH (fun wx => wx.cell? ⟨b9, 0, none⟩ = some (.int .u64 zj) ∧ wx.cell? ⟨b9, 1, none⟩ = some (.int .u64 (j : Int)) ∧ wx.cell? ⟨b9, 2, none⟩ = some (.int .i64 (j : Int)) ∧ wx.cell? ⟨bl, 0, none⟩ = some (.int .u64 la) ∧ wx.cell? ⟨bl, 1, none⟩ = some (.int .u64 ls) ∧ wx.cell? ⟨b, off + j, none⟩ = some (.int .u64 zj)) 43 (Array.replicate 43 false) (by kernel_rfl) (by kernel_rfl) ?_
          rcases hc3 with q1 | ⟨q1, q2, q3⟩ | ⟨q1, q2, q3, q4⟩
          all_goals
            refine wpAnyH_seg 0 30 _ (Array.replicate 30 true ++ Array.replicate 13 false) 13 (by kernel_rfl) noPanic_put h0 (by kernel_rfl) ?_
            simp only [List.take_succ_cons, List.take_zero, List.drop_zero]
            repeat (first
              | (refine wpSegH_no (by rfl) ?_; simp only [Act.put, List.setIfInBounds_toArray, List.set_cons_zero, List.set_cons_succ])
              | (refine wpSegH_yes (by rfl) ?_; apply Exists.intro; apply And.intro; (· (intro wx hS; (try dsimp only at hS); go_simp; first | done | with_reducible rfl)); simp only [Act.put, List.setIfInBounds_toArray, List.set_cons_zero, List.set_cons_succ]))
            refine wpSegH_nil ?_
            refine wpAnyH_one 30 _ (Array.replicate 31 true ++ Array.replicate 12 false) 12 (by kernel_rfl) (fun K hK => ?_)
            have HK := Lib.hid hK
            clear hK
            simp only [List.drop_succ_cons, List.drop_zero]
            refine headH_mk (by rfl) ?_
            go_simp
            refine HCAN.out.mono ?_
            rintro r w3 ⟨rfl, i, hi, hs, h3⟩
            have H3 := Lib.hid h3
            have HI := Lib.hid hi
            have HSQ := Lib.hid hs
            have h1 := HCEL.out _ _ h3
            clear h3 hi hs h0
            refine HK.out _ _ h1 ?_
            clear HK K
            refine wpAnyH_seg 31 12 _ (Array.replicate 43 true) 0 (by kernel_rfl) noPanic_put h1 (by kernel_rfl) ?_
            simp only [List.take_succ_cons, List.take_zero, List.drop_succ_cons, List.drop_zero]
            repeat (first
              | (refine wpSegH_no (by rfl) ?_; simp only [Act.put, List.setIfInBounds_toArray, List.set_cons_zero, List.set_cons_succ])
              | (refine wpSegH_yes (by rfl) ?_; apply Exists.intro; apply And.intro; (· (intro wx hS; (try dsimp only at hS); go_simp; first | done | with_reducible rfl)); simp only [Act.put, List.setIfInBounds_toArray, List.set_cons_zero, List.set_cons_succ]))
            refine wpSegH_nil ?_
            refine wpAnyH_done (by kernel_rfl) (NoPanic.normal ?_) _
            obtain ⟨F, ⟨hF, hmap⟩, -⟩ := H3.out.fact 3 rfl
            have hkey : keyOf Try.prog 3 (.int .i64 (j : Int)) = some (.int .i64 (j : Int)) := keyOf_int_mk Try.underlying3 (wf_j (by omega))
            obtain ⟨h10, h11, h12, -⟩ := h1
            clear hF F
            have HMAP := Lib.hid hmap
            have HKEY := Lib.hid hkey
            clear hmap hkey
            go_wp2_with (first
              | (at_lookup; refine wpList_lookup_own_int _ rfl _ _ 51 rfl 3 3 .i64 law_int Try.underlying51 Try.underlying3 (zero_int _) bm k _ rfl HMAP.out _ _ rfl HKEY.out ?_; intro c hat hwc; clear hat)
              | (at_mapUpdate; refine wpList_mapUpdate_own _ rfl _ _ _ 51 rfl 3 3 law_int Try.underlying51 _ bm k _ rfl HMAP.out (by unfold maxLen; omega) _ _ _ rfl rfl HKEY.out _ [] (plainElem_int Try.underlying3 (wrap64_wf _)) ?_; intro w4 hown1 hgrow1
                 have c4 : Chg [bm] w3 w4 := grownBy_chg hgrow1
                 have hO4 := Own.turn (As := [MapA bm k D]) (As' := [MapA bm (k + 1) _]) (H3.out.pick 3 rfl) (fun F hF => by
                   obtain ⟨rfl, -⟩ := sep_one.1 hF
                   exact ⟨[bm], sep_one.2 ⟨rfl, hown1⟩, c4, fun x hx => .inl hx⟩)
                 have HO4 := Lib.hid hO4
                 obtain ⟨e0, -⟩ := hO4.cel 2 rfl 0 _ rfl
                 obtain ⟨e1, -⟩ := hO4.cel 2 rfl 1 _ rfl
                 obtain ⟨e2, -⟩ := hO4.cel 2 rfl 2 _ rfl
                 obtain ⟨f0, g0⟩ := hO4.cel 3 rfl 0 _ rfl
                 obtain ⟨f1, g1⟩ := hO4.cel 3 rfl 1 _ rfl
                 obtain ⟨f2, g2⟩ := hO4.cel 3 rfl 2 _ rfl
                 clear c4 hO4 hown1 hgrow1 HMAP))
            have hO5 := ((((((((HO4.out.setAt 3 rfl 0 (.int .u64 zj)).setAt 3 rfl 1 (.int .u64 (j : Int))).setAt 3 rfl 2 (.int .i64 (j : Int))).pick 2 rfl).drop.pick 1 rfl).pick 2 rfl).pick 1 rfl))
            exact ⟨⟨k + 1, _, _, zj, (j : Int), (j : Int), by omega, by go_num, Lib.hid ⟨hO5, HNEXT.out i _ HI.out HSQ.out⟩⟩, by simp [intOf]; omega⟩
        · obtain rfl : m = k := by omega
          have hl0 : l.length = 0 := by have := hr.out.2.len; omega
          obtain ⟨S, done, -, -, hd1, hd2, -⟩ := hr.out.2
          have hsz : Maps.size D = m := by rw [hd2.size, hd1]
          obtain ⟨F, ⟨-, hmap⟩, -⟩ := hr.out.1.fact 2 rfl
          have hml := hmap.len Try.underlying51 3
          rw [hsz] at hml
          have hln := own_len hr.out.1
          rw [hl0] at hln
          have HLN := Lib.hid hln
          have HBEL := Lib.hid (below_on B1.out hr.out.1.bel)
          clear hmap hsz hd1 hd2 hln hl0
          go_wp2_with (go_at_call 15; refine HLN.out.mono ?_; rintro e wq ⟨rfl, rfl⟩)
          trace_state
          go_ret
          exact ⟨rfl, HBEL.out⟩
end Go.Proofs.Ytljdckipnbdknaa.heapSorts
