/-
  The walk of the law HeapCancels.
-/
import Derived.Test.YtdohopkhnpbolaaWHeap6
import Derived.Test.YtdohopkhnpbolaaHeapL
import Derived.Test.YtdohopkhnpbolaaInts
import Derived.Test.YtdohopkhnpbolaaInArgs
import Derived.OpenShut
import Derived.LoopTactic
open Go Go.RowKit
set_option linter.unusedVariables false
namespace Go.Proofs.Ytdohopkhnpbolaa.heapCancels
/-- In the midst of the cancelling. -/
def CSt (z : Nat → Int) (gone : Nat → Bool) (m i left : Nat) (l : List It) : Prop :=
  ∃ S : List Nat, Has z l S ∧ (S.length + i = m + left ∧ left ≤ i) ∧ (∀ j ∈ S, j < m ∧ (j < i → gone j = false)) ∧ ∀ j, i ≤ j → j < m → j ∈ S
theorem CSt.stay {z : Nat → Int} {gone : Nat → Bool} {m i left : Nat} {l : List It} (h : CSt z gone m i left l) (hi : i < m) (hg : gone i = false) : CSt z gone m (i + 1) (left + 1) l := by
  obtain ⟨S, h1, h2, h3, h4⟩ := h
  exact ⟨S, h1, ⟨by omega, by omega⟩, fun j hj => ⟨(h3 j hj).1, fun hlt => by
    by_cases e : j = i
    · subst e; exact hg
    · exact (h3 j hj).2 (by omega)⟩, fun j hj hm => h4 j (by omega) hm⟩
theorem CSt.go {z : Nat → Int} {gone : Nat → Bool} {m i left : Nat} {l : List It} (h : CSt z gone m i left l) (hi : i < m) {k : Nat} (hk : k < l.length) (hs : (gI l k).seq = (i : Int)) :
    CSt z gone m (i + 1) left (remF l k) ∧ ∀ j, j < (remF l k).length → (gI (remF l k) j).seq ≠ (i : Int) := by
  obtain ⟨S, h1, h2, h3, h4⟩ := h
  obtain ⟨r1, r2, r3⟩ := h1.rem hk hs
  have hni : i ∉ S.erase i := fun hc => (h1.1.mem_erase_iff.1 hc).1 rfl
  refine ⟨⟨S.erase i, r3, ?_, fun j hj => ?_, fun j hj hm => ?_⟩, r3.none hni⟩
  · have := List.length_erase_of_mem r1
    have : 0 < S.length := List.length_pos_of_mem r1
    exact ⟨by omega, by omega⟩
  · obtain ⟨e1, e2⟩ := h1.1.mem_erase_iff.1 hj
    exact ⟨(h3 j e2).1, fun hlt => (h3 j e2).2 (by omega)⟩
  · exact h1.1.mem_erase_iff.2 ⟨by omega, h4 j (by omega) hm⟩
theorem CSt.has {z : Nat → Int} {gone : Nat → Bool} {m i left : Nat} {l : List It} (h : CSt z gone m i left l) (hi : i < m) : ∃ k, k < l.length ∧ (gI l k).seq = (i : Int) := by
  obtain ⟨S, h1, h2, h3, h4⟩ := h; exact h1.find (h4 i (Nat.le_refl _) hi)
theorem CSt.len {z : Nat → Int} {gone : Nat → Bool} {m i left : Nat} {l : List It} (h : CSt z gone m i left l) (hi : i ≤ m) : l.length ≤ m := by
  obtain ⟨S, h1, h2, h3, h4⟩ := h
  rw [h1.len]; omega
/-- Those that wake: each item's number, time and that it isn't gone; in order. -/
theorem CSt.woken {z : Nat → Int} {gone : Nat → Bool} {m left : Nat} {l : List It} {now : Int} (h : CSt z gone m m left l) (hz : ∀ j, j < m → z j ≤ now) :
    (wakes l now).2 = [] ∧ (wakes l now).1.length = left ∧ ∀ i, i < (wakes l now).1.length → ∃ j, gI (wakes l now).1 i = itZ z j ∧ j < m ∧ gone j = false ∧
      (0 < i → (gI (wakes l now).1 (i - 1)).at_ < z j ∨ ((gI (wakes l now).1 (i - 1)).at_ = z j ∧ (gI (wakes l now).1 (i - 1)).seq < (j : Int))) := by
  obtain ⟨S, h1, h2, h3, h4⟩ := h
  obtain ⟨k1, k2, k3, k4, k5⟩ := wakes_all _ l now rfl h1.2.2
  have hr : (wakes l now).2 = [] := by
    cases hc : (wakes l now).2 with
    | nil => rfl
    | cons x t =>
      rw [hc] at k1 k3
      have hx : x ∈ S.map (itZ z) := h1.2.1.subset (k1.subset (by simp))
      obtain ⟨j, hj, rfl⟩ := List.mem_map.1 hx
      have := k3 (itZ z j) (by simp)
      have := hz j (h3 j hj).1
      simp only [itZ] at *
      omega
  rw [hr, List.append_nil] at k1
  have hp := k1.trans h1.2.1
  refine ⟨hr, by have := hp.length_eq; simp at this; omega, fun i hi => ?_⟩
  have hm : gI (wakes l now).1 i ∈ S.map (itZ z) := hp.subset (by rw [gI_of hi]; exact List.getElem_mem _)
  obtain ⟨j, hj, e⟩ := List.mem_map.1 hm
  refine ⟨j, e.symm, (h3 j hj).1, (h3 j hj).2 (h3 j hj).1, fun h0 => ?_⟩
  have := sorted_strict h1.1 hp k2 i hi h0
  rw [← e] at this
  exact this
theorem wf_u64 {n : Int} (h : (Lit.int .u64 n).wf = true) : 0 ≤ n ∧ n ≤ 18446744073709551615 := by
  have := bounds_u64 h; omega
set_option maxRecDepth 100000 in
set_option maxHeartbeats 4000000 in
theorem walk (a0 : Option Addr) (len0 cap0 : Nat) (z0 : List Int) (a1 : Option Addr) (len1 cap1 : Nat) (l1 : List Bool) (w : World) (w0 : IsRow .u64 w a0 len0 cap0 z0) (w1' : IsBools w a1 len1 cap1 l1) :
    Calls Try.prog 5 #[.slice a0 len0 cap0, .slice a1 len1 cap1] w fun e w' => e = .returned (.bool true) ∧ Below w.heap.size w w' := by
  obtain ⟨hlc, hcm, hzl, hcells⟩ := w0.cells
  obtain ⟨hl1, hlc1, hcm1, hbools⟩ := w1'
  clear w0
  generalize List.take len0 z0 = zs at hzl hcells
  unfold maxLen at hcm hcm1
  obtain ⟨m, hm⟩ : ∃ m : Nat, m = min len0 60 := ⟨_, rfl⟩
  have hmc : (m = len0 ∧ len0 ≤ 60) ∨ (m = 60 ∧ ¬ len0 ≤ 60) := by omega
  have hml : m ≤ len0 := by omega
  have hm60 : m ≤ 60 := by omega
  clear hm
  -- the numbers and the truths, as functions
  obtain ⟨z, hz⟩ : ∃ z : Nat → Int, z = fun j => zs.getD j 0 := ⟨_, rfl⟩
  obtain ⟨gone, hg⟩ : ∃ gone : Nat → Bool, gone = fun j => l1.getD j false := ⟨_, rfl⟩
  have hzc : ∀ j, j < len0 → ∃ b off, a0 = some ⟨b, off, none⟩ ∧ w.cell? ⟨b, off + j, none⟩ = some (.int .u64 (z j)) ∧ z j ≤ 18446744073709551615 := fun j hj => by
    obtain ⟨b, off, e1, e2, e3⟩ := hcells j (by omega)
    have e : z j = zs[j]'(by omega) := by rw [hz]; simp only [List.getD_eq_getElem?_getD]; rw [List.getElem?_eq_getElem (by omega)]; rfl
    rw [e]; exact ⟨b, off, e1, e2, (wf_u64 e3).2⟩
  have hgc : ∀ j, j < len1 → ∃ b off, a1 = some ⟨b, off, none⟩ ∧ w.cell? ⟨b, off + j, none⟩ = some (.bool (gone j)) := fun j hj => by
    obtain ⟨b, off, e1, e2⟩ := hbools j (by omega)
    have e : gone j = l1[j]'(by omega) := by rw [hg]; simp only [List.getD_eq_getElem?_getD]; rw [List.getElem?_eq_getElem (by omega)]; rfl
    rw [e]; exact ⟨b, off, e1, e2⟩
  have hgn : ∀ j, ¬ j < len1 → gone j = false := fun j hj => by
    rw [hg]; simp only [List.getD_eq_getElem?_getD]; rw [List.getElem?_eq_none (by omega)]; rfl
  have HZC := Lib.hid hzc
  have HGC := Lib.hid hgc
  have HGN := Lib.hid hgn
  clear hzc hgc hgn hz hg hzl hcells hl1 hbools hcm hcm1 hlc hlc1
  go_enter Try.func5, Try.ntmps5
  go_wp2_with fail
  refine (awake9_any _).mono ?_
  rintro e w1 ⟨rfl, hb1⟩
  have B1 := Lib.hid hb1; clear hb1
  have hnew := HS.new (w0 := w1) (Below.refl _ w1) 27 rfl
  have HNEW := Lib.hid hnew; clear hnew
  go_upto_region 4 with fail
  obtain ⟨p, hp⟩ : ∃ p, p = w1.heap.size := ⟨_, rfl⟩
  rw [← hp] at HNEW ⊢
  clear hp
  go_cut [6] (fun s6 wx => s6 = .int .i64 (m : Int) ∧ Hid (HS w1 wx p [] 0))
  case first =>
    rcases hmc with ⟨rfl, h⟩ | ⟨rfl, h⟩
    all_goals
      go_wp2_with fail
      go_meet
      exact ⟨rfl, HNEW.out⟩
  obtain ⟨rfl, hcut⟩ := hcut
  clear HNEW
  go_wp2_with fail
  go_loopw [19] (fun c wr => ∃ i : Nat, i ≤ m ∧ c = .int .i64 i ∧ Hid (HS w1 wr p (plist z i) i)) (fun c _ => m - (intOf c).toNat)
  case atStart => exact ⟨0, by omega, rfl, hcut⟩
  case round =>
    obtain ⟨i, hi, rfl, hr⟩ := hrel
    by_cases hlt : i < m
    · obtain ⟨b, off, rfl, c1, -⟩ := HZC.out i (by omega)
      have c2 := cell_below c1 (below_on B1.out hr.out.bel)
      have hli : (i : Int) < (m : Int) := by omega
      have hll : (i : Int) < (len0 : Int) := by omega
      clear c1
      go_wp2_with fail
      refine (hs_push hr.out (z i) i (by rw [plist_len]; omega) (by omega)).mono ?_
      rintro r w2 ⟨rfl, h2⟩
      have H2 : Hid (HS w1 w2 p (plist z (i + 1)) (i + 1)) := h2
      clear h2
      go_wp2
      exact ⟨⟨i + 1, by omega, by go_num, H2⟩, by simp [intOf]; omega⟩
    · obtain rfl : m = i := by omega
      have hst : CSt z gone m 0 0 (plist z m) := ⟨List.range m, Has.all m, ⟨by simp, by omega⟩, fun j hj => ⟨List.mem_range.1 hj, fun h => by omega⟩, fun j _ hj => List.mem_range.2 hj⟩
      have HST : Hid (HS w1 wr p (plist z m) m ∧ CSt z gone m 0 0 (plist z m)) := ⟨hr.out, hst⟩
      clear hst hr hlt hi hcut
      go_wp2_with fail
      go_loopw [7, 30] (fun t7 c wx => ∃ i left : Nat, ∃ l : List It, i ≤ m ∧ left ≤ 60 ∧ c = .int .i64 i ∧ t7 = .int .i64 left ∧ Hid (HS w1 wx p l m ∧ CSt z gone m i left l)) (fun _ c _ => m - (intOf c).toNat)
      case atStart => exact ⟨0, 0, _, by omega, by omega, rfl, rfl, HST⟩
      case round =>
        obtain ⟨i, left, l, hi, hle, rfl, rfl, hr⟩ := hrel
        have hll := hr.out.2.len hi
        by_cases hlt : i < m
        · have hli : (i : Int) < (m : Int) := by omega
          have hwi : IntKind.u64.wrap (i : Int) = (i : Int) := by rw [IntKind.wrap_u64]; omega
          have hcase : (i < len1 ∧ gone i = true) ∨ (i < len1 ∧ gone i = false) ∨ (¬ i < len1 ∧ gone i = false) := by
            by_cases h1 : i < len1
            · cases hg : gone i with
              | true => exact .inl ⟨h1, rfl⟩
              | false => exact .inr (.inl ⟨h1, rfl⟩)
            · exact .inr (.inr ⟨h1, HGN.out i h1⟩)
          have hlb : left ≤ i := by obtain ⟨S, _, ⟨_, h⟩, _⟩ := hr.out.2; exact h
          rcases hcase with ⟨h1, hg⟩ | ⟨h1, hg⟩ | ⟨h1, hg⟩
          · obtain ⟨b, off, rfl, c1⟩ := HGC.out i h1
            rw [hg] at c1
            have c2 := cell_below c1 (below_on B1.out hr.out.1.bel)
            have h1' : (i : Int) < (len1 : Int) := by omega
            clear c1 hg
            go_wp2_with fail
            refine (hs_yes hr.out.1 i (by omega) (hr.out.2.has hlt)).mono ?_
            rintro r w2 ⟨rfl, k, k1, k2, k3⟩
            have k4 := hr.out.2.go hlt k1 k2
            have hlr := remF_len k1
            have K3 := Lib.hid k3
            have K4 := Lib.hid k4
            clear k3 k4 k2
            go_wp2_with fail
            refine (hs_no K3.out i (by omega) K4.out.2).mono ?_
            rintro r w3 ⟨rfl, h3⟩
            have H3 : Hid (HS w1 w3 p (remF l k) m ∧ CSt z gone m (i + 1) left (remF l k)) := ⟨h3, K4.out.1⟩
            clear h3 hlr
            go_wp2
            exact ⟨⟨i + 1, left, _, by omega, by omega, by go_num, rfl, H3⟩, by simp [intOf]; omega⟩
          · obtain ⟨b, off, rfl, c1⟩ := HGC.out i h1
            rw [hg] at c1
            have c2 := cell_below c1 (below_on B1.out hr.out.1.bel)
            have h1' : (i : Int) < (len1 : Int) := by omega
            have H3 : Hid (HS w1 wr p l m ∧ CSt z gone m (i + 1) (left + 1) l) := ⟨hr.out.1, hr.out.2.stay hlt hg⟩
            clear c1 hg
            go_wp2
            exact ⟨⟨i + 1, left + 1, _, by omega, by omega, by go_num, by go_num, H3⟩, by simp [intOf]; omega⟩
          · have h1' : ¬ (i : Int) < (len1 : Int) := by omega
            have H3 : Hid (HS w1 wr p l m ∧ CSt z gone m (i + 1) (left + 1) l) := ⟨hr.out.1, hr.out.2.stay hlt hg⟩
            clear hg
            go_wp2
            exact ⟨⟨i + 1, left + 1, _, by omega, by omega, by go_num, by go_num, H3⟩, by simp [intOf]; omega⟩
        · obtain rfl : m = i := by omega
          have hwk := hr.out.2.woken (now := 18446744073709551615) (fun j hj => by obtain ⟨_, _, _, _, h⟩ := HZC.out j (by omega); exact h)
          have hw := hs_wake hr.out.1 18446744073709551615 (by omega)
          generalize wakes l 18446744073709551615 = T at hwk hw
          have HW := Lib.hid hw
          have HK := Lib.hid hwk
          clear hw hwk HST
          go_wp2_with fail
          refine HW.out.mono ?_
          rintro r w5 ⟨v5, rfl, k1, k2, k3⟩
          obtain ⟨a5, c5, rfl, -⟩ := k1.slice
          obtain ⟨hT2, hT1, hT⟩ := HK.out
          rw [hT2] at k3
          rw [hT1] at hT
          have hcell : ∀ w', Below w5.heap.size w5 w' → ∀ i, i < T.1.length → ∃ g, a5 = some ⟨g, 0, none⟩ ∧ w'.cell? ⟨g, i * 3, none⟩ = some (.int .u64 (gI T.1 i).at_) ∧ w'.cell? ⟨g, i * 3 + 1, none⟩ = some (.int .u64 (gI T.1 i).seq) ∧ w'.cell? ⟨g, i * 3 + 2, none⟩ = some (.int .i64 (gI T.1 i).id) := fun w' hb i hi => by
            obtain ⟨g, cap', hv, _⟩ := k1.form (by omega)
            simp only [Value.slice.injEq, true_and] at hv
            obtain ⟨rfl, rfl⟩ := hv
            exact ⟨g, rfl, (k1.below hb).cell i hi⟩
          rw [hT1] at hcell ⊢
          have HCELL := Lib.hid hcell
          have HT := Lib.hid hT
          have K3 := Lib.hid k3
          have HB5 : Hid (Below w.heap.size w w5) := Lib.hid (below_on B1.out k3.bel)
          have hZ : ∀ w', Below w5.heap.size w5 w' → ∀ j, j < m → ∃ b off, a0 = some ⟨b, off, none⟩ ∧ w'.cell? ⟨b, off + j, none⟩ = some (.int .u64 (z j)) := fun w' hb j hj => by
            obtain ⟨b, off, e1, e2, _⟩ := HZC.out j (by omega)
            exact ⟨b, off, e1, cell_below e2 (below_on HB5.out hb)⟩
          have hG : ∀ w', Below w5.heap.size w5 w' → ∀ j, j < len1 → ∃ b off, a1 = some ⟨b, off, none⟩ ∧ w'.cell? ⟨b, off + j, none⟩ = some (.bool (gone j)) := fun w' hb j hj => by
            obtain ⟨b, off, e1, e2⟩ := HGC.out j hj
            exact ⟨b, off, e1, cell_below e2 (below_on HB5.out hb)⟩
          have HZ := Lib.hid hZ
          have HG := Lib.hid hG
          clear hcell hT k1 k2 k3 hT1 hT2 hZ hG hr HW HK
          go_wp2_with fail
          go_loopw [58] (fun c wx => ∃ i : Nat, i ≤ left ∧ c = .int .i64 i ∧ Hid (Below w5.heap.size w5 wx)) (fun c _ => left - (intOf c).toNat)
          case atStart => exact ⟨0, by omega, rfl, Below.refl _ _⟩
          case round =>
            obtain ⟨i, hi, rfl, hr⟩ := hrel
            by_cases hlt : i < left
            · obtain ⟨j, hj, hjm, hgj, hord⟩ := HT.out i hlt
              obtain ⟨g, rfl, c1, c2, c3⟩ := HCELL.out _ hr.out i hlt
              rw [hj] at c1 c2 c3
              simp only [itZ] at c1 c2 c3
              obtain ⟨b, off, rfl, d1⟩ := HZ.out _ hr.out j hjm
              have hli : (i : Int) < (left : Int) := by omega
              have hjl : (j : Int) < (len0 : Int) := by omega
              have hj0 : (0 : Int) ≤ (j : Int) := by omega
              have hwj : IntKind.u64.wrap (j : Int) = (j : Int) := by rw [IntKind.wrap_u64]; omega
              have hnx : ∀ w', Below wr.heap.size wr w' → Below w5.heap.size w5 w' := fun w' hb => below_on hr.out hb
              have HNX := Lib.hid hnx
              have d2 : ∀ o, (wr.alloc o).cell? ⟨b, off + j, none⟩ = some (.int .u64 (z j)) := fun o => cell_below d1 (below_alloc1 _ _)
              have hne0 : ((j : Int) != (j : Int)) = false := by simp
              have hne1 : (z j != z j) = false := by simp
              have hgo : (j < len1 ∧ ∃ b1 o1, a1 = some ⟨b1, o1, none⟩ ∧ ∀ o, (wr.alloc o).cell? ⟨b1, o1 + j, none⟩ = some (.bool false)) ∨ ¬ j < len1 := by
                by_cases h1 : j < len1
                · obtain ⟨b1, o1, e1, e2⟩ := HG.out _ hr.out j h1
                  rw [hgj] at e2
                  exact .inl ⟨h1, b1, o1, e1, fun o => cell_below e2 (below_alloc1 _ _)⟩
                · exact .inr h1
              have hprev : i = 0 ∨ ∃ i' ya ys, i = i' + 1 ∧ (∀ o, (wr.alloc o).cell? ⟨g, i' * 3, none⟩ = some (.int .u64 ya)) ∧ (∀ o, (wr.alloc o).cell? ⟨g, i' * 3 + 1, none⟩ = some (.int .u64 ys)) ∧ ((ya < z j ∧ (z j == ya) = false) ∨ (ya = z j ∧ ys < (j : Int))) := by
                cases i with
                | zero => exact .inl rfl
                | succ i' =>
                  obtain ⟨g', hg', e1, e2, e3⟩ := HCELL.out _ hr.out i' (by omega)
                  cases hg'
                  refine .inr ⟨i', _, _, rfl, fun o => cell_below e1 (below_alloc1 _ _), fun o => cell_below e2 (below_alloc1 _ _), ?_⟩
                  rcases hord (by omega) with h | ⟨h, h'⟩
                  · left; rw [Nat.add_sub_cancel] at h; exact ⟨h, by rw [beq_eq_false_iff_ne]; omega⟩
                  · right; rw [Nat.add_sub_cancel] at h h'; exact ⟨h, h'⟩
              have hi60 : i ≤ 60 := by omega
              have HR := Lib.hid hr.out
              obtain ⟨zj, hzj⟩ : ∃ zj, zj = z j := ⟨_, rfl⟩
              rw [← hzj] at c1 hord d2 hprev
              clear hord hj d1 hgj hnx HCELL HZ HZC HT HG HGC HGN HNX hr hll hle HB5 K3 hzj hne1 B1 hmc hml
              go_wp2_with fail
              have hx : ∀ W8, W8 = wr.alloc (.cells #[.int .u64 zj, .int .u64 (j : Int), .int .i64 (j : Int)] 43) → W8.cell? ⟨wr.heap.size, 0, none⟩ = some (.int .u64 zj) ∧ W8.cell? ⟨wr.heap.size, 1, none⟩ = some (.int .u64 (j : Int)) ∧ W8.cell? ⟨wr.heap.size, 2, none⟩ = some (.int .i64 (j : Int)) ∧ W8.cell? ⟨b, off + j, none⟩ = some (.int .u64 zj) ∧ Hid (Below w5.heap.size w5 W8) := fun W8 e => by
                subst e
                have hB := Blk.mk wr [.int .u64 zj, .int .u64 (j : Int), .int .i64 (j : Int)] 43 _ rfl
                exact ⟨(hB 0 _ rfl).1, (hB 1 _ rfl).1, (hB 2 _ rfl).1, d2 _, below_on HR.out (below_alloc1 _ _)⟩
              obtain ⟨x1, x2, x3, x4, HB8⟩ := hx _ rfl
              have hgo2 : (j < len1 ∧ ∃ b1 o1, a1 = some ⟨b1, o1, none⟩ ∧ (wr.alloc (.cells #[.int .u64 zj, .int .u64 (j : Int), .int .i64 (j : Int)] 43)).cell? ⟨b1, o1 + j, none⟩ = some (.bool false)) ∨ ¬ j < len1 := by
                rcases hgo with ⟨h1, b1, o1, e1, e2⟩ | h1
                · exact .inl ⟨h1, b1, o1, e1, e2 _⟩
                · exact .inr h1
              have hprev2 : i = 0 ∨ ∃ i' ya ys, i = i' + 1 ∧ (wr.alloc (.cells #[.int .u64 zj, .int .u64 (j : Int), .int .i64 (j : Int)] 43)).cell? ⟨g, i' * 3, none⟩ = some (.int .u64 ya) ∧ (wr.alloc (.cells #[.int .u64 zj, .int .u64 (j : Int), .int .i64 (j : Int)] 43)).cell? ⟨g, i' * 3 + 1, none⟩ = some (.int .u64 ys) ∧ ((ya < zj ∧ (zj == ya) = false) ∨ (ya = zj ∧ ys < (j : Int))) := by
                rcases hprev with h | ⟨i', ya, ys, h, p1, p2, p3⟩
                · exact .inl h
                · exact .inr ⟨i', ya, ys, h, p1 _, p2 _, p3⟩
              clear hx hgo hprev d2 c1 c2 c3 hne0 HR
              generalize wr.alloc (.cells #[.int .u64 zj, .int .u64 (j : Int), .int .i64 (j : Int)] 43) = W8 at *
              generalize wr.heap.size = s8 at *
              rcases hgo2 with ⟨h1, b1, o1, rfl, e1⟩ | h1
              · have h1' : (j : Int) < (len1 : Int) := by omega
                rcases hprev2 with rfl | ⟨i', ya, ys, rfl, p1, p2, ⟨q1, q2⟩ | ⟨rfl, q2⟩⟩
                · refine wp_region_quiet_lit (by kernel_rfl) (by kernel_rfl) ?_
                  simp only [List.append]
                  repeat (go_big_quiet_step (fail))
                  refine wpQuiet_nil ?_
                  intro _ hw'
                  obtain ⟨nq, hw''⟩ := hw'
                  subst hw''
                  go_wp2
                  exact ⟨⟨1, by omega, rfl, below_drewN HB8 _⟩, by simp [intOf]; omega⟩
                · have q3 : ¬ zj < ya := by omega
                  refine wp_region_quiet_lit (by kernel_rfl) (by kernel_rfl) ?_
                  simp only [List.append]
                  repeat (go_big_quiet_step (fail))
                  refine wpQuiet_nil ?_
                  intro _ hw'
                  obtain ⟨nq, hw''⟩ := hw'
                  subst hw''
                  go_wp2
                  exact ⟨⟨i' + 2, by omega, by go_num, below_drewN HB8 _⟩, by simp [intOf]; omega⟩
                · have q3 : ¬ (j : Int) ≤ ys := by omega
                  refine wp_region_quiet_lit (by kernel_rfl) (by kernel_rfl) ?_
                  simp only [List.append]
                  repeat (go_big_quiet_step (fail))
                  refine wpQuiet_nil ?_
                  intro _ hw'
                  obtain ⟨nq, hw''⟩ := hw'
                  subst hw''
                  go_wp2
                  exact ⟨⟨i' + 2, by omega, by go_num, below_drewN HB8 _⟩, by simp [intOf]; omega⟩
              · have h1' : ¬ (j : Int) < (len1 : Int) := by omega
                rcases hprev2 with rfl | ⟨i', ya, ys, rfl, p1, p2, ⟨q1, q2⟩ | ⟨rfl, q2⟩⟩
                · refine wp_region_quiet_lit (by kernel_rfl) (by kernel_rfl) ?_
                  simp only [List.append]
                  repeat (go_big_quiet_step (fail))
                  refine wpQuiet_nil ?_
                  intro _ hw'
                  obtain ⟨nq, hw''⟩ := hw'
                  subst hw''
                  go_wp2
                  exact ⟨⟨1, by omega, rfl, below_drewN HB8 _⟩, by simp [intOf]; omega⟩
                · have q3 : ¬ zj < ya := by omega
                  refine wp_region_quiet_lit (by kernel_rfl) (by kernel_rfl) ?_
                  simp only [List.append]
                  repeat (go_big_quiet_step (fail))
                  refine wpQuiet_nil ?_
                  intro _ hw'
                  obtain ⟨nq, hw''⟩ := hw'
                  subst hw''
                  go_wp2
                  exact ⟨⟨i' + 2, by omega, by go_num, below_drewN HB8 _⟩, by simp [intOf]; omega⟩
                · have q3 : ¬ (j : Int) ≤ ys := by omega
                  refine wp_region_quiet_lit (by kernel_rfl) (by kernel_rfl) ?_
                  simp only [List.append]
                  repeat (go_big_quiet_step (fail))
                  refine wpQuiet_nil ?_
                  intro _ hw'
                  obtain ⟨nq, hw''⟩ := hw'
                  subst hw''
                  go_wp2
                  exact ⟨⟨i' + 2, by omega, by go_num, below_drewN HB8 _⟩, by simp [intOf]; omega⟩
            · obtain rfl : left = i := by omega
              go_wp2_with fail
              refine (hs_len (K3.out.step hr.out)).mono ?_
              rw [show (([] : List It).length : Int) = 0 from rfl]
              rintro r w6 ⟨rfl, rfl⟩
              have HF := Lib.hid (below_on HB5.out hr.out)
              go_wp2
              go_ret
              exact ⟨rfl, HF.out⟩
end Go.Proofs.Ytdohopkhnpbolaa.heapCancels
