/-
  The walks of a heap's calls: who goes out, who comes in, who is first.
-/
import Derived.Test.YtljdckipnbdknaaWHeap2
open Go Go.RowKit
set_option linter.unusedVariables false
namespace Go.Proofs.Ytljdckipnbdknaa
theorem info_item : (Try.prog.info? 43).map (fun i => (i.zero, i.size, i.bytes)) = some (some (.agg #[.int .u64 0, .int .u64 0, .int .i64 0]), 3, 24) := by kernel_rfl
theorem size_item : ∀ w, (sizeOf (Try.prog.elem 24)).run Try.prog w = .ok 3 w := by
  obtain ⟨i0, hi, hz0, hz1, hz2⟩ := info_parts info_item
  intro w
  have e : Try.prog.elem 24 = 43 := by kernel_rfl
  rw [e]; simp [sizeOf, typeInfo, hi, hz1]
theorem under_items : Try.prog.underlying 24 = some (.slice (Try.prog.elem 24)) := by
  have e : Try.prog.elem 24 = 43 := by kernel_rfl
  rw [e]; exact Try.underlying24
theorem ItemsAt.cut {w : World} {a : Option Addr} {n cap : Nat} {l : List It} (h : ItemsAt w (.slice a n cap) l) (hn : n = l.length) (m : Nat) (hm : m ≤ n) : ItemsAt w (.slice a m cap) (l.take m) := by
  subst hn
  unfold ItemsAt at h ⊢
  rw [List.length_take, Nat.min_eq_left hm, icells_take]
  exact owns_takeK h m hm
set_option maxRecDepth 100000 in
set_option maxHeartbeats 2000000 in
theorem remove_any (w : World) (p : Nat) (v : Value) (l : List It) (nx k : Nat) (h : HeapAt w p v l nx) (hk : k < l.length) (hl : l.length ≤ 1000000) :
    Calls Try.prog 19 #[.pointer (some ⟨p, 0, none⟩), .int .i64 (k : Int)] w fun r w' => ∃ v', r = .returned (.tuple #[]) ∧ HeapAt w' p v' (remF l k) nx ∧ v'.ownBlock = v.ownBlock ∧ Chg (foot p v) w w' := by
  obtain ⟨h1, h2, h3⟩ := h
  obtain ⟨g, cap, hv, hcap⟩ := h2.form (by omega)
  obtain ⟨n, hn⟩ : ∃ n, n = l.length := ⟨_, rfl⟩
  rw [← hn] at hv hk hl hcap
  subst hv
  have hgp : g ≠ p := h3 g (by simp [Value.ownBlock])
  obtain ⟨c0, -⟩ := h1 0 _ rfl
  obtain ⟨m, rfl⟩ : ∃ m, n = m + 1 := ⟨n - 1, by omega⟩
  have hsw : Calls Try.prog 24 #[.pointer (some ⟨p, 0, none⟩), .int .i64 (k : Int), .int .i64 (m : Int)] w fun r w' => r = .returned (.tuple #[]) ∧ HeapAt w' p (.slice (some ⟨g, 0, none⟩) (m + 1) cap) (swI l k m) nx ∧ Chg [p, g] w w' := swap_any w p _ l nx k m ⟨h1, h2, h3⟩ (by omega) (by omega) (by omega)
  have HN := Lib.hid hn; clear hn
  have hs0 : ∀ w', (Instr.slice 24 (.slice (some ⟨g, 0, none⟩) (m + 1) cap) none (some (.int .i64 (m : Int))) none).run Try.prog w' = .ok (.slice (some ⟨g, 0, none⟩) m cap) w' := fun w' => slice_head w' under_items size_item (some ⟨g, 0, none⟩) (m + 1) cap m (by omega)
  change Calls Try.prog 19 #[.pointer (some ⟨p, 0, none⟩), .int .i64 (k : Int)] w fun r w' => ∃ v', r = .returned (.tuple #[]) ∧ HeapAt w' p v' (remF l k) nx ∧ v'.ownBlock = some g ∧ Chg [p, g] w w'
  have hstep : ∀ w1, HeapAt w1 p (.slice (some ⟨g, 0, none⟩) (m + 1) cap) (swI l k m) nx ∧ Chg [p, g] w w1 → (HeapAt (w1.setCell ⟨p, 0, none⟩ (.slice (some ⟨g, 0, none⟩) m cap)) p (.slice (some ⟨g, 0, none⟩) m cap) ((swI l k m).take m) nx ∧ Chg [p, g] w (w1.setCell ⟨p, 0, none⟩ (.slice (some ⟨g, 0, none⟩) m cap))) := fun w1 ⟨k1, k2⟩ => by
    have cs : Chg [p] w1 (w1.setCell ⟨p, 0, none⟩ (.slice (some ⟨g, 0, none⟩) m cap)) := (Chg.refl _ _).setCell _ (.inl (by simp))
    refine ⟨⟨k1.1.set 0 _, (k1.2.1.cut (by rw [swI_len]; exact HN.out) m (by omega)).chg cs (fun x hx => by simp [Value.ownBlock] at hx; subst hx; simp; omega), fun x hx => by simp [Value.ownBlock] at hx; subst hx; exact hgp⟩, k2.trans cs (fun x hx => .inl (by simp at hx; simp [hx]))⟩
  have hlen : ((swI l k m).take m).length = m := by rw [List.length_take, swI_len, ← HN.out]; omega
  have hlast : k = m → (swI l k m).take m = remF l k := fun e => by
    subst e
    unfold remF
    rw [← HN.out, Nat.add_sub_cancel, if_pos rfl]
    apply List.ext_getElem (by simp [swI_len])
    intro i i1 i2
    have e1 : gI ((swI l k k).take k) i = gI (l.take k) i := by
      rw [gI_take (by simp at i2; omega), gI_take (by simp at i2; omega), gI_sw (by have := HN.out; omega) (by have := HN.out; omega)]
      split
      · subst_vars; rfl
      · rfl
    rwa [gI_of i1, gI_of i2] at e1
  have hrem : k ≠ m → sinkF (riseF ((swI l k m).take m) k) k = remF l k := fun e => by
    unfold remF
    rw [← HN.out, Nat.add_sub_cancel, if_neg e]
  generalize (swI l k m).take m = L at *
  generalize remF l k = R at *
  have HSW := Lib.hid hsw
  have HSTEP := Lib.hid hstep
  have HLEN := Lib.hid hlen
  have HLAST := Lib.hid hlast
  have HREM := Lib.hid hrem
  clear h1 h2 h3 hsw hstep hlen hlast hrem hcap
  go_enter Try.func19, Try.ntmps19
  go_wp2_with fail
  refine HSW.out.mono ?_
  rintro r w1 ⟨rfl, h1⟩
  have H1 := Lib.hid h1
  obtain ⟨c1, f1⟩ := h1.1.1 0 _ rfl
  clear h1 c0
  by_cases hkm : k = m
  · have hb : ((k : Int) == (m : Int)) = true := by rw [beq_iff_eq]; omega
    have h2 := HSTEP.out _ H1.out
    rw [HLAST.out hkm] at h2
    have HE := Lib.hid h2; clear h2 hkm
    go_wp2
    refine bodyPost_ret (results_none rfl _ _ _) rfl ?_
    exact ⟨_, rfl, HE.out.1, rfl, HE.out.2⟩
  · have hb : ((k : Int) == (m : Int)) = false := by rw [beq_eq_false_iff_ne]; omega
    have hkl : k < m := by omega
    have H2 := Lib.hid (HSTEP.out _ H1.out)
    go_wp2_with fail
    refine (rise_any _ p _ L nx k H2.out.1 (by rw [HLEN.out]; exact hkl) (by rw [HLEN.out]; omega)).mono ?_
    rintro r w2 ⟨rfl, k1, k2⟩
    have H3 := Lib.hid k1
    have C3 := Lib.hid (H2.out.2.trans0 k2)
    clear k1 k2
    go_wp2_with fail
    refine (sink_any _ p _ _ nx k H3.out (by rw [riseF_len (by rw [HLEN.out]; exact hkl), HLEN.out]; exact hkl) (by rw [riseF_len (by rw [HLEN.out]; exact hkl), HLEN.out]; omega)).mono ?_
    rintro r w3 ⟨rfl, k1, k2⟩
    rw [HREM.out hkm] at k1
    have H4 := Lib.hid k1
    have C4 := Lib.hid (C3.out.trans0 k2)
    clear k1 k2
    go_wp2
    go_end0
    exact ⟨_, rfl, H4.out, rfl, C4.out⟩
theorem three_new (w : World) (x y z : Value) (t : TypeId) {b : Nat} (hb : b = w.heap.size) : ∀ j u, [x, y, z][j]? = some u → (w.alloc (.cells #[x, y, z] t)).cell? ((⟨b, 0, none⟩ : Addr).add j) = some u := fun j u hj => by
  rw [Addr.add_lit, Nat.zero_add]; exact (Blk.mk w [x, y, z] t b hb j u hj).1
set_option maxRecDepth 100000 in
set_option maxHeartbeats 2000000 in
theorem hpush_any (w : World) (p : Nat) (v : Value) (l : List It) (nx : Nat) (at_ id : Int) (h : HeapAt w p v l nx) (hl : l.length ≤ 100000) (hnx : nx ≤ 100000) :
    Calls Try.prog 6 #[.pointer (some ⟨p, 0, none⟩), .int .u64 at_, .int .i64 id] w fun r w' => ∃ v', r = .returned (.int .u64 (nx : Int)) ∧ HeapAt w' p v' (pushF l ⟨at_, nx, id⟩) (nx + 1) ∧ Chg (foot p v) w w' ∧ ∀ x ∈ foot p v', x ∈ foot p v ∨ w.heap.size ≤ x := by
  have hlt := h.lt
  obtain ⟨h1, h2, h3⟩ := h
  obtain ⟨a0, cap, rfl, hcap⟩ := h2.slice
  obtain ⟨n, hn⟩ : ∃ n, n = l.length := ⟨_, rfl⟩
  rw [← hn] at h1 h2 h3 hcap hl hlt ⊢
  obtain ⟨c0, f0⟩ := h1 0 _ rfl
  obtain ⟨c1, f1⟩ := h1 1 _ rfl
  have hp := hlt.1
  have H1 := Lib.hid h1
  have H2 := Lib.hid h2
  have H3 := Lib.hid h3
  have HLT := Lib.hid hlt
  have HN := Lib.hid hn
  have hwn : IntKind.u64.wrap ((nx : Int) + 1) = (nx : Int) + 1 := by rw [IntKind.wrap_u64]; omega
  obtain ⟨i0, hi0, hz0, hz1, hz2⟩ := info_parts info_item
  have Hi := Lib.hid hi0; clear hi0
  have Hz0 := Lib.hid hz0; clear hz0
  have Hz1 := Lib.hid hz1; clear hz1
  have Hz2 := Lib.hid hz2; clear hz2
  clear h1 h2 h3 hlt hn
  go_enter Try.func6, Try.ntmps6
  have hst0 : ∀ u, ItemsAt (w.setCell ⟨p, 1, none⟩ u) (.slice a0 n cap) l ∧ Blk (w.setCell ⟨p, 1, none⟩ u) p [.slice a0 n cap, u] ∧ Chg [p] w (w.setCell ⟨p, 1, none⟩ u) ∧ (w.setCell ⟨p, 1, none⟩ u).heap.size = w.heap.size := fun u => by
    have cs : Chg [p] w (w.setCell ⟨p, 1, none⟩ u) := (Chg.refl _ _).setCell _ (.inl (by simp))
    exact ⟨H2.out.chg cs (fun x hx => by have := H3.out x hx; simp [this]), H1.out.set 1 u, cs, World.size_setCell _ _ _⟩
  have HST0 := Lib.hid (hst0 (.int .u64 ((nx : Int) + 1)))
  clear hst0
  go_upto_region 3 with fail
  generalize w.setCell ⟨p, 1, none⟩ (.int .u64 ((nx : Int) + 1)) = W at *
  clear c0 f0 c1 f1
  obtain ⟨c0, f0⟩ := HST0.out.2.1 0 _ rfl
  have hW : W.heap.size = w.heap.size := HST0.out.2.2.2
  have HW := Lib.hid hW; clear hW
  have hown0 : ∀ o, (W.alloc o).ownsRow 0 43 3 (.slice a0 n cap) n (icells l) := fun o => by have h := HST0.out.1.below (below_alloc1 W o); unfold ItemsAt at h; rw [← HN.out] at h; exact h
  have HOWN := Lib.hid hown0; clear hown0
  go_wp2_with (at_builtin; go_loud (refine wpList_append_lies _ rfl _ _ 24 rfl 0 43 i0 _ 3 24 Try.underlying24 Hi.out Hz0.out Hz1.out Hz2.out rfl (by decide) _ n (icells l) rfl (HOWN.out _) ⟨W.heap.size, 0, none⟩ 1 1 [.int .u64 at_, .int .u64 (nx : Int), .int .i64 id] rfl rfl (three_new _ _ _ _ _ rfl) (by simp [Value.oneCell']) (by omega) (by unfold maxLen; omega) (by omega) (Nat.zero_le _) (W.heap.size + 1) (by simp) ?_))
  intro g c2 w1 hown hgr hat hlt
  -- the heap with one more at the end
  have hgp : g ≠ p := by
    rcases hat with h | h
    · exact H3.out g (by rw [h]; simp)
    · have := HW.out; omega
  have hpb : p ∉ (Value.slice a0 n cap).ownBlock.toList := fun hx => H3.out p hx rfl
  have hc1 : Chg ((Value.slice a0 n cap).ownBlock.toList) W w1 := (Chg.of_below (below_alloc1 _ _)).trans (grownBy_chg hgr) (fun x hx => .inl hx)
  have hB1 := HST0.out.2.1.chg hc1 hpb
  obtain ⟨c1, f1⟩ := hB1 0 _ rfl
  have hfin : HeapAt (w1.setCell ⟨p, 0, none⟩ (.slice (some ⟨g, 0, none⟩) (n + 1) c2)) p (.slice (some ⟨g, 0, none⟩) (n + 1) c2) (l ++ [⟨at_, nx, id⟩]) (nx + 1) ∧ Chg (foot p (.slice a0 n cap)) w (w1.setCell ⟨p, 0, none⟩ (.slice (some ⟨g, 0, none⟩) (n + 1) c2)) ∧ (g ∈ foot p (.slice a0 n cap) ∨ w.heap.size ≤ g) := by
    have cs : Chg [p] w1 (w1.setCell ⟨p, 0, none⟩ (.slice (some ⟨g, 0, none⟩) (n + 1) c2)) := (Chg.refl _ _).setCell _ (.inl (by simp))
    have hI : ItemsAt w1 (.slice (some ⟨g, 0, none⟩) (n + 1) c2) (l ++ [⟨at_, nx, id⟩]) := by
      unfold ItemsAt
      rw [List.length_append, ← HN.out, icells_app]; exact hown
    refine ⟨⟨hB1.set 0 _, hI.chg cs (fun x hx => by simp [Value.ownBlock] at hx; subst hx; simp [hgp]), fun x hx => by simp [Value.ownBlock] at hx; subst hx; exact hgp⟩,
      ((HST0.out.2.2.1.mono (fun x hx => by simp at hx; simp [hx])).trans (hc1.mono (fun x hx => by simp [foot]; right; simpa using hx)) (fun x hx => .inl hx)).trans (cs.mono (fun x hx => by simp at hx; simp [foot, hx])) (fun x hx => .inl hx), ?_⟩
    rcases hat with h | h
    · left; simp [foot, h]
    · right; have := HW.out; omega
  have HFIN := Lib.hid hfin
  clear hfin hB1 hc1 hown hgr hat hlt hgp hpb
  have hlen : (l ++ [(⟨at_, nx, id⟩ : It)]).length = n + 1 := by rw [List.length_append, ← HN.out]; rfl
  have HLEN := Lib.hid hlen; clear hlen
  go_wp2_with fail
  have hc := rise_any _ p _ _ (nx + 1) n HFIN.out.1 (by rw [HLEN.out]; omega) (by rw [HLEN.out]; omega)
  rw [show riseF (l ++ [⟨at_, (nx : Int), id⟩]) n = pushF l ⟨at_, nx, id⟩ by unfold pushF; rw [HN.out]] at hc
  refine hc.mono ?_
  rintro r w2 ⟨rfl, k1, k2⟩
  have hend : HeapAt w2 p (.slice (some ⟨g, 0, none⟩) (n + 1) c2) (pushF l ⟨at_, nx, id⟩) (nx + 1) ∧ Chg (foot p (.slice a0 n cap)) w w2 ∧ ∀ x ∈ foot p (.slice (some ⟨g, 0, none⟩) (n + 1) c2), x ∈ foot p (.slice a0 n cap) ∨ w.heap.size ≤ x := by
    refine ⟨k1, HFIN.out.2.1.trans k2 (fun x hx => ?_), fun x hx => ?_⟩
    all_goals
      simp only [foot, Value.ownBlock, Option.toList, List.mem_cons, List.not_mem_nil, or_false] at hx
      rcases hx with rfl | rfl
      · left; simp [foot]
      · exact HFIN.out.2.2
  have HEND := Lib.hid hend
  clear hend k1 k2 hc
  go_wp2
  go_ret
  exact ⟨_, rfl, HEND.out⟩
end Go.Proofs.Ytljdckipnbdknaa
