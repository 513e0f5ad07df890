/-
  The walk of Own: the program's value of the document's.
-/
import Derived.Test.YtjanangcfgmdeaaDoorWCRow
import Derived.Test.YtjanangcfgmdeaaDoorSegH
import Derived.Deep.AppendLies
import Derived.Deep.RegionLawGrows
open Go Go.RowKit
set_option linter.unusedVariables false
namespace Go.Proofs.YtjanangcfgmdeaaDoor
theorem info_ci : (Tryd.prog.info? 53).map (fun i => (i.zero, i.size, i.bytes)) = some (some (.agg #[.int .i64 0, .int .i64 0, .int .i64 0, .int .i64 0]), 4, 32) := by kernel_rfl
theorem info_cc : (Tryd.prog.info? 56).map (fun i => (i.zero, i.size, i.bytes)) = some (some (.agg #[.int .i64 0, .int .i64 0, .int .i64 0]), 3, 24) := by kernel_rfl
theorem info_sl : (Tryd.prog.info? 54).map (fun i => (i.zero, i.size, i.bytes)) = some (some (.slice none 0 0), 1, 24) := by kernel_rfl
theorem info_in : (Tryd.prog.info? 3).map (fun i => (i.zero, i.size, i.bytes)) = some (some (.int .i64 0), 1, 8) := by kernel_rfl
section
variable {P : Program} {Q : Exit → Act → World → Prop} {S : World → Prop}
/-- Two that may come up next. -/
theorem wpAnyH_two {l : List Oper} (k k' : Nat) (listed listed' listed'' : Array Bool) (fuel : Nat) {a : Act} {w : World} (hB : (decide (Region.ready .any l.toArray listed = [k, k']) && (listed.setIfInBounds k true == listed') && (listed.setIfInBounds k' true == listed'')) = true)
    (h1 : ∀ K : Act → World → Prop, (∀ a' w', S w' → wpAnyH P .any l.toArray Q S fuel listed' a' w' → K a' w') → headH P l.toArray Q K a w (l.drop k))
    (h2 : ∀ K : Act → World → Prop, (∀ a' w', S w' → wpAnyH P .any l.toArray Q S fuel listed'' a' w' → K a' w') → headH P l.toArray Q K a w (l.drop k')) : wpAnyH P .any l.toArray Q S (fuel + 1) listed a w := by
  simp only [Bool.and_eq_true, decide_eq_true_eq, beq_iff_eq] at hB
  obtain ⟨⟨hr, rfl⟩, rfl⟩ := hB
  refine wpAnyH_all hr (by simp) (fun i hi => ?_)
  have h : ∀ K : Act → World → Prop, (∀ a' w', S w' → wpAnyH P .any l.toArray Q S fuel (listed.setIfInBounds i true) a' w' → K a' w') → headH P l.toArray Q K a w (l.drop i) := by
    have hik : i = k ∨ i = k' := by simpa using hi
    rcases hik with rfl | rfl
    · exact h1
    · exact h2
  have h1 := h (fun a' w' => S w' ∧ wpAnyH P .any l.toArray Q S fuel (listed.setIfInBounds i true) a' w') (fun a' w' h2 h3 => ⟨h2, h3⟩)
  cases hd : l.drop i with
  | nil => rw [hd] at h1; exact h1.elim
  | cons o r =>
    rw [hd] at h1
    have h0 : l.toArray[i]? = some o := by
      have : (l.drop i)[0]? = some o := by rw [hd]; rfl
      rw [List.getElem?_drop] at this
      simpa using this
    unfold wpOp
    simp only [h0]
    rw [if_pos h1.1]
    exact .inl h1.2
end
theorem wp_append_row {P : Program} {w : World} {o : Oper} {ac : Act} {K : Act → World → Prop} {Q : Exit → Act → World → Prop} (sl x : Operand) (t : TypeId)
    (ho : o.op = .call { callee := .builtin .append, args := #[sl, x], argTypes := #[t, t] }) (e : TypeId) (i : TypeInfo) (z : Value) (ht : P.underlying t = some (.slice e)) (hi : P.info? e = some i) (hz : i.zero = some z) (hsize : i.size = 1) (hby : i.bytes = 8) (hzs : z.cells.size = 1)
    {a b : Option Addr} {cap c n k : Nat} {l m : List Int} (hs : ac.eval sl = .slice a n cap) (hx : ac.eval x = .slice b k c) (hn : n = l.length) (hk : k = m.length) (ha : RowAt w a cap l) (hb : IntsAt w b m) (h47 : l.length + m.length ≤ 1000000000)
    (h : ∀ a' cap' w', RowAt w' a' cap' (l ++ m) → Chg (blk a) w w' → (∀ x ∈ blk a', x ∈ blk a ∨ w.heap.size ≤ x) → K (ac.put o.dst (.slice a' (n + k) cap')) w') : Oper.wp P o ac w K Q := by
  subst hn hk
  obtain ⟨a', cap', w', hr, h2, h3, h4⟩ := append_row (P := P) (w := w) t o.type e i z ht hi hz hsize hby hzs ha (c := c) hb h47
  unfold Oper.wp execOp
  simp only [ho, resolve, invoke, builtin, Sem.run_bind, Sem.run_pure, Result.andThen_ok, List.map_toArray, List.map_cons, List.map_nil, hs, hx, hr]
  exact h a' cap' w' h2 h3 h4
/-- Behind the first region of Own. -/
def OwnC (W : World) (S nc : Nat) (lk : Int) (cs : List Int) (s : Value) (wx : World) : Prop := ∃ B a' c', s = .pointer (some ⟨B, 0, none⟩) ∧ Blk wx B [.slice none 0 0, .slice a' nc c', .int .i64 lk, .slice none 0 0] ∧ RowAt wx a' c' cs ∧ (∀ x ∈ blk a', x ≠ B ∧ S ≤ x) ∧ S ≤ B ∧ Below S W wx
theorem OwnC.a {W w3 : World} {S nc : Nat} {lk : Int} {cs : List Int} (hS : S = W.heap.size) {a' : Option Addr} {c' : Nat} {t : TypeId} (hr : RowAt w3 a' c' cs) (hge : ∀ x ∈ blk a', W.heap.size ≤ x) (bw : Below W.heap.size W w3) :
    OwnC W S nc lk cs (.pointer (some ⟨w3.heap.size, 0, none⟩)) (w3.alloc (.cells #[.slice none 0 0, .slice a' nc c', .int .i64 lk, .slice none 0 0] t)) := by
  subst hS
  exact ⟨_, a', c', rfl, Blk.mk w3 [.slice none 0 0, .slice a' nc c', .int .i64 lk, .slice none 0 0] t _ rfl, hr.below (below_alloc1 _ _), fun x hx => ⟨by have := hr.lt x hx; omega, hge x hx⟩, bw.size, below_on bw (below_alloc1 _ _)⟩
theorem OwnC.b {W w3 : World} {S nc b : Nat} {lk : Int} {cs : List Int} (hS : S = W.heap.size) {a' : Option Addr} {c' : Nat} (hz : Blk w3 b [.slice none 0 0, .slice none 0 0, .int .i64 0, .slice none 0 0]) (hr : RowAt w3 a' c' cs) (hge : ∀ x ∈ blk a', W.heap.size ≤ x) (hne : ∀ x ∈ blk a', x ≠ b) (hb : W.heap.size ≤ b) (bw : Below W.heap.size W w3) :
    OwnC W S nc lk cs (.pointer (some ⟨b, 0, none⟩)) ((((w3.setCell ⟨b, 0, none⟩ (.slice none 0 0)).setCell ⟨b, 1, none⟩ (.slice a' nc c')).setCell ⟨b, 2, none⟩ (.int .i64 lk)).setCell ⟨b, 3, none⟩ (.slice none 0 0)) := by
  subst hS
  have hc : Chg [b] w3 ((((w3.setCell ⟨b, 0, none⟩ (.slice none 0 0)).setCell ⟨b, 1, none⟩ (.slice a' nc c')).setCell ⟨b, 2, none⟩ (.int .i64 lk)).setCell ⟨b, 3, none⟩ (.slice none 0 0)) := ((((Chg.refl [b] w3).setCell _ (.inl (by simp))).setCell _ (.inl (by simp))).setCell _ (.inl (by simp))).setCell _ (.inl (by simp))
  exact ⟨b, a', c', rfl, (((hz.set 0 _).set 1 _).set 2 _).set 3 _, hr.chg hc (fun x hx => by simpa using hne x hx), fun x hx => ⟨hne x hx, hge x hx⟩, hb, Chg.below bw hc (fun x hx => by simp at hx; omega)⟩
theorem OwnC.bel {W wx : World} {S nc : Nat} {lk : Int} {cs : List Int} {s : Value} (h : OwnC W S nc lk cs s wx) : Below S W wx := by
  obtain ⟨_, _, _, _, _, _, _, _, h⟩ := h; exact h
theorem RowAt.zero {w : World} {b : Nat} (hb : b < w.heap.size) : RowAt w (some ⟨b, 0, none⟩) 0 [] := ⟨by simp, by simp, .inr ⟨b, 0, rfl, hb, fun j hj => by omega, fun j v hj => by simp [intc] at hj⟩⟩
theorem Own.add2 {w0 w w' : World} {As : List Asr} (h : Own w0 w As) (hb : Below w.heap.size w w') {A B : Asr} {F G : List Nat} (hA : A.at_ w' F) (hB : B.at_ w' G) (hF : ∀ x ∈ F, w.heap.size ≤ x) (hG : ∀ x ∈ G, w.heap.size ≤ x) (hFG : ∀ x ∈ F, x ∉ G) : Own w0 w' (A :: B :: As) := by
  obtain ⟨h1, F2, h2, h3⟩ := h
  refine ⟨below_on h1 hb, F ++ (G ++ F2), ⟨F, G ++ F2, rfl, hA, fun x hx hc => ?_, G, F2, rfl, hB, fun x hx hc => ?_, h2.chg (Chg.of_below (F := []) hb) (fun _ _ => by simp)⟩, fun x hx => ?_⟩
  · rcases List.mem_append.1 hc with hc | hc
    · exact hFG x hx hc
    · have := h2.lt x hc; have := hF x hx; omega
  · have := h2.lt x hc; have := hG x hx; omega
  · rcases List.mem_append.1 hx with h | h
    · exact Nat.le_trans h1.size (hF x h)
    · rcases List.mem_append.1 h with h | h
      · exact Nat.le_trans h1.size (hG x h)
      · exact h3 x h
theorem prog_get {w : World} {b : Nat} {fa : Option Addr} {nf fc : Nat} {ca : Option Addr} {nc cc : Nat} {lk : Int} {ka : Option Addr} {nk kc : Nat} (h : Blk w b [.slice fa nf fc, .slice ca nc cc, .int .i64 lk, .slice ka nk kc]) : (loadVar 36 ⟨b, 0, none⟩).run Tryd.prog w = .ok (.agg #[.slice fa nf fc, .slice ca nc cc, .int .i64 lk, .slice ka nk kc]) w := by
  have e0 := (h 0 _ rfl).1
  have e1 := (h 1 _ rfl).1
  have e2 := (h 2 _ rfl).1
  have e3 := (h 3 _ rfl).1
  simp [go_sem, e0, e1, e2, e3]
set_option maxRecDepth 100000 in
set_option maxHeartbeats 8000000 in
theorem own_any (fa : Option Addr) (fc : Nat) (ca : Option Addr) (cc : Nat) (ka : Option Addr) (kc : Nat) (d : PD) (w : World) (hp : PAt w fa ca ka d) (hl1 : d.fs.length ≤ 2000000) (hl2 : ∀ f ∈ d.fs, f.length ≤ 2000000) (hl3 : d.cs.length ≤ 2000000) (hl4 : d.ks.length ≤ 2000000) :
    Calls Tryd.prog 7 #[pv fa d.fs.length fc ca d.cs.length cc d.lk ka d.ks.length kc] w
      fun e w' => ∃ fa' fc' ca' cc' ka' kc', e = .returned (pv fa' d.fs.length fc' ca' d.cs.length cc' d.lk ka' d.ks.length kc') ∧ PAt w' fa' ca' ka' d ∧ Below w.heap.size w w' := by
  obtain ⟨fs, cs, lk, ks⟩ := d
  obtain ⟨hf, hc, hk⟩ := hp
  simp only at hf hc hk hl1 hl2 hl3 hl4 ⊢
  obtain ⟨nf, hnf⟩ : ∃ n, fs.length = n := ⟨_, rfl⟩
  obtain ⟨nc, hn⟩ : ∃ n, cs.length = n := ⟨_, rfl⟩
  obtain ⟨nk, hm⟩ : ∃ n, ks.length = n := ⟨_, rfl⟩
  rw [hnf] at hl1
  rw [hn] at hl3
  rw [hm] at hl4
  have hgoal : ∀ fa' fc' ca' cc' ka' kc' (w' : World), FunAt w' fa' fs → IntsAt w' ca' cs → CasAt w' ka' ks → Below w.heap.size w w' → ∃ fa2 fc2 ca2 cc2 ka2 kc2, Ending.returned (pv fa' nf fc' ca' nc cc' lk ka' nk kc') = .returned (pv fa2 nf fc2 ca2 nc cc2 lk ka2 nk kc2) ∧ PAt w' fa2 ca2 ka2 ⟨fs, cs, lk, ks⟩ ∧ Below w.heap.size w w' :=
    fun fa' fc' ca' cc' ka' kc' w' h1 h2 h3 h4 => ⟨fa', fc', ca', cc', ka', kc', rfl, ⟨h1, h2, h3⟩, h4⟩
  rw [hnf, hn, hm]
  have HG := Lib.hid hgoal
  unfold pv at *
  obtain ⟨i0, hi0, hz0, hz1, hz2⟩ := info_parts info_in
  have Hi := Lib.hid hi0; clear hi0
  have Hz0 := Lib.hid hz0; clear hz0
  have Hz1 := Lib.hid hz1; clear hz1
  have Hz2 := Lib.hid hz2; clear hz2
  have HNF := Lib.hid hnf
  have HN := Lib.hid hn
  have HM := Lib.hid hm
  have HL2 := Lib.hid hl2
  have HF := Lib.hid hf
  have HC := Lib.hid hc
  have HK := Lib.hid hk
  obtain ⟨s0, hs0⟩ : ∃ s0, s0 = w.heap.size := ⟨_, rfl⟩
  have HW := Lib.hid hs0
  have hO : Own w ((w.alloc (.cells #[.slice fa nf fc, .slice ca nc cc, .int .i64 lk, .slice ka nk kc] 26)).alloc (.cells #[.slice none 0 0, .slice none 0 0, .int .i64 0, .slice none 0 0] 36)) [CelA (s0 + 1) [.slice none 0 0, .slice none 0 0, .int .i64 0, .slice none 0 0], CelA s0 [.slice fa nf fc, .slice ca nc cc, .int .i64 lk, .slice ka nk kc]] :=
    ((Own.nil (Below.refl _ _)).alloc [.slice fa nf fc, .slice ca nc cc, .int .i64 lk, .slice ka nk kc] _ hs0).alloc [.slice none 0 0, .slice none 0 0, .int .i64 0, .slice none 0 0] _ (by simp [hs0])
  have HO := Lib.hid hO
  clear hO hf hc hk hnf hn hm hl2 hgoal
  go_enter Tryd.func7, Tryd.ntmps7
  go_upto_region 1 with fail
  rw [← hs0]
  clear hs0
  generalize ((w.alloc (.cells #[.slice fa nf fc, .slice ca nc cc, .int .i64 lk, .slice ka nk kc] 26)).alloc (.cells #[.slice none 0 0, .slice none 0 0, .int .i64 0, .slice none 0 0] 36)) = W at *
  obtain ⟨p1, -⟩ := HO.out.cel 1 rfl 1 _ rfl
  obtain ⟨p2, -⟩ := HO.out.cel 1 rfl 2 _ rfl
  have h47 : nc ≤ 1000000000 := by omega
  obtain ⟨S, hS⟩ : ∃ S, S = W.heap.size := ⟨_, rfl⟩
  go_cut [3] (fun s wx => OwnC W S nc lk cs s wx)
  · have hci : ∀ wx, Below W.heap.size W wx → IntsAt wx ca cs := fun wx hb => HC.out.below (below_on HO.out.bel hb)
    have HCI := Lib.hid hci
    clear hci
    have hpp : ∀ wx, Below W.heap.size W wx → wx.cell? ⟨s0, 1, none⟩ = some (.slice ca nc cc) ∧ wx.cell? ⟨s0, 2, none⟩ = some (.int .i64 lk) := fun wx hb => ⟨cell_below p1 hb, cell_below p2 hb⟩
    have HPP := Lib.hid hpp
    have hsl : s0 < W.heap.size := World.block_lt_of_cell? W _ p1
    clear hpp
    refine wp_region_lexH (fun wx => wx.cell? ⟨s0, 1, none⟩ = some (.slice ca nc cc) ∧ wx.cell? ⟨s0, 2, none⟩ = some (.int .i64 lk)) 9 (Array.replicate 9 false) (by kernel_rfl) (by kernel_rfl) ?_
    refine wpAnyH_seg 1 2 _ #[false, true, true, false, false, false, false, false, false] 7 (by kernel_rfl) noPanic_put (HPP.out _ (below_drew1 W)) (by kernel_rfl) ?_
    simp only [List.take_succ_cons, List.take_zero, List.drop_succ_cons, List.drop_zero]
    repeat (first
        | (refine wpSegH_no (by rfl) ?_; simp only [Act.put, List.setIfInBounds_toArray, List.set_cons_zero, List.set_cons_succ])
        | (refine wpSegH_yes (by rfl) ?_; apply Exists.intro; apply And.intro; (· (intro wx hS; (try dsimp only at hS); go_simp; first | done | with_reducible rfl)); simp only [Act.put, List.setIfInBounds_toArray, List.set_cons_zero, List.set_cons_succ]))
    refine wpSegH_nil ?_
    refine wpAnyH_seg 4 2 _ #[false, true, true, false, true, true, false, false, false] 5 (by kernel_rfl) noPanic_put (HPP.out _ (below_drew1 W)) (by kernel_rfl) ?_
    simp only [List.take_succ_cons, List.take_zero, List.drop_succ_cons, List.drop_zero]
    repeat (first
        | (refine wpSegH_no (by rfl) ?_; simp only [Act.put, List.setIfInBounds_toArray, List.set_cons_zero, List.set_cons_succ])
        | (refine wpSegH_yes (by rfl) ?_; apply Exists.intro; apply And.intro; (· (intro wx hS; (try dsimp only at hS); go_simp; first | done | with_reducible rfl)); simp only [Act.put, List.setIfInBounds_toArray, List.set_cons_zero, List.set_cons_succ]))
    refine wpSegH_nil ?_
    refine wpAnyH_two 0 7 _ #[true, true, true, false, true, true, false, false, false] #[false, true, true, false, true, true, false, true, false] 4 (by kernel_rfl) (fun K hK => ?_) (fun K hK => ?_)
    · have HKK := Lib.hid hK
      clear hK
      simp only [List.drop_zero]
      refine headH_mk (by rfl) ?_
      go_simp
      refine HKK.out _ _ (HPP.out _ (by repeat (first | exact Below.refl _ _ | refine Below.drew ?_ | refine below_drewN ?_ _ | refine Below.alloc ?_ (by first | (simp; done) | (simp; omega)) _))) ?_
      clear HKK K
      refine wpAnyH_two 3 7 _ #[true, true, true, true, true, true, false, false, false] #[true, true, true, false, true, true, false, true, false] 3 (by kernel_rfl) (fun K hK => ?_) (fun K hK => ?_)
      · have HKK := Lib.hid hK
        clear hK
        simp only [List.drop_succ_cons, List.drop_zero]
        refine headH_mk (by rfl) ?_
        refine wp_append_row (l := []) (m := cs) _ _ 23 (by rfl) 3 i0 _ Tryd.underlying23 Hi.out Hz0.out Hz1.out Hz2.out rfl (by rfl) (by rfl) (by rfl) HN.out.symm (RowAt.zero (by first | (simp; done) | (simp; omega))) (HCI.out _ (by repeat (first | exact Below.refl _ _ | refine Below.drew ?_ | refine below_drewN ?_ _ | refine Below.alloc ?_ (by first | (simp; done) | (simp; omega)) _))) (by simpa [HN.out] using h47) ?_
        intro a' c' w3 hr hc hd
        have bw := Chg.below (w0 := W) (by repeat (first | exact Below.refl _ _ | refine Below.drew ?_ | refine below_drewN ?_ _ | refine Below.alloc ?_ (by first | (simp; done) | (simp; omega)) _)) hc (by simp [blk])
        have hsz := bw.size
        have h3s : s0 < w3.heap.size := Nat.lt_of_lt_of_le hsl hsz
        have hrr : RowAt w3 a' c' cs := hr
        have hge : ∀ x ∈ blk a', W.heap.size ≤ x := fun x hx => by have := hd x hx; simp [blk] at this; omega
        refine HKK.out _ _ (HPP.out _ bw) ?_
        clear HKK K
        refine wpAnyH_seg 6 1 _ #[true, true, true, true, true, true, true, false, false] 2 (by kernel_rfl) noPanic_put (HPP.out _ bw) (by kernel_rfl) ?_
        simp only [List.take_succ_cons, List.take_zero, List.drop_succ_cons, List.drop_zero]
        repeat (first
            | (refine wpSegH_no (by rfl) ?_; simp only [Act.put, List.setIfInBounds_toArray, List.set_cons_zero, List.set_cons_succ])
            | (refine wpSegH_yes (by rfl) ?_; apply Exists.intro; apply And.intro; (· (intro wx hS; (try dsimp only at hS); go_simp; first | done | with_reducible rfl)); simp only [Act.put, List.setIfInBounds_toArray, List.set_cons_zero, List.set_cons_succ]))
        refine wpSegH_nil ?_
        refine wpAnyH_one 7 _ #[true, true, true, true, true, true, true, true, false] 1 (by kernel_rfl) (fun K hK => ?_)
        have HKK := Lib.hid hK
        clear hK
        simp only [List.drop_succ_cons, List.drop_zero]
        refine headH_mk (by rfl) ?_
        go_simp
        refine HKK.out _ _ (HPP.out _ (below_on bw (below_alloc1 _ _))) ?_
        clear HKK K
        refine wpAnyH_one 8 _ #[true, true, true, true, true, true, true, true, true] 0 (by kernel_rfl) (fun K hK => ?_)
        have HKK := Lib.hid hK
        clear hK
        simp only [List.drop_succ_cons, List.drop_zero]
        refine headH_mk (by rfl) ?_
        go_simp
        refine HKK.out _ _ (HPP.out _ (below_on bw (below_alloc1 _ _))) ?_
        clear HKK K
        refine wpAnyH_done (by kernel_rfl) (NoPanic.normal ?_) _
        go_wp2_with fail
        go_meet
        exact OwnC.a hS hrr hge bw
      · have HKK := Lib.hid hK
        clear hK
        simp only [List.drop_succ_cons, List.drop_zero]
        refine headH_mk (by rfl) ?_
        go_simp
        refine HKK.out _ _ (HPP.out _ (by repeat (first | exact Below.refl _ _ | refine Below.drew ?_ | refine below_drewN ?_ _ | refine Below.alloc ?_ (by first | (simp; done) | (simp; omega)) _))) ?_
        clear HKK K
        refine wpAnyH_one 3 _ #[true, true, true, true, true, true, false, true, false] 2 (by kernel_rfl) (fun K hK => ?_)
        have HKK := Lib.hid hK
        clear hK
        simp only [List.drop_succ_cons, List.drop_zero]
        refine headH_mk (by rfl) ?_
        refine wp_append_row (l := []) (m := cs) _ _ 23 (by rfl) 3 i0 _ Tryd.underlying23 Hi.out Hz0.out Hz1.out Hz2.out rfl (by rfl) (by rfl) (by rfl) HN.out.symm (RowAt.zero (by first | (simp; done) | (simp; omega))) (HCI.out _ (by repeat (first | exact Below.refl _ _ | refine Below.drew ?_ | refine below_drewN ?_ _ | refine Below.alloc ?_ (by first | (simp; done) | (simp; omega)) _))) (by simpa [HN.out] using h47) ?_
        intro a' c' w3 hr hc hd
        have bw := Chg.below (w0 := W) (by repeat (first | exact Below.refl _ _ | refine Below.drew ?_ | refine below_drewN ?_ _ | refine Below.alloc ?_ (by first | (simp; done) | (simp; omega)) _)) hc (by simp [blk])
        have hsz := bw.size
        have h3s : s0 < w3.heap.size := Nat.lt_of_lt_of_le hsl hsz
        have hrr : RowAt w3 a' c' cs := hr
        have hge : ∀ x ∈ blk a', W.heap.size ≤ x := fun x hx => by have := hd x hx; simp [blk] at this; omega
        refine HKK.out _ _ (HPP.out _ bw) ?_
        clear HKK K
        have hz : Blk w3 (W.heap.size + 1) [.slice none 0 0, .slice none 0 0, .int .i64 0, .slice none 0 0] := Blk.chg (by first | exact Blk.mk _ [.slice none 0 0, .slice none 0 0, .int .i64 0, .slice none 0 0] _ _ (by simp) | exact (Blk.mk _ [.slice none 0 0, .slice none 0 0, .int .i64 0, .slice none 0 0] _ _ (by simp)).below (below_drew1 _)) hc (by simp [blk])
        obtain ⟨y0, z0⟩ := hz 0 _ rfl
        obtain ⟨y1, z1⟩ := hz 1 _ rfl
        obtain ⟨y2, z2⟩ := hz 2 _ rfl
        obtain ⟨y3, z3⟩ := hz 3 _ rfl
        have HZ := Lib.hid hz
        clear hz
        refine wpAnyH_seg 6 1 _ #[true, true, true, true, true, true, true, true, false] 1 (by kernel_rfl) noPanic_put (HPP.out _ bw) (by kernel_rfl) ?_
        simp only [List.take_succ_cons, List.take_zero, List.drop_succ_cons, List.drop_zero]
        repeat (first
            | (refine wpSegH_no (by rfl) ?_; simp only [Act.put, List.setIfInBounds_toArray, List.set_cons_zero, List.set_cons_succ])
            | (refine wpSegH_yes (by rfl) ?_; apply Exists.intro; apply And.intro; (· (intro wx hS; (try dsimp only at hS); go_simp; first | done | with_reducible rfl)); simp only [Act.put, List.setIfInBounds_toArray, List.set_cons_zero, List.set_cons_succ]))
        refine wpSegH_nil ?_
        refine wpAnyH_one 8 _ #[true, true, true, true, true, true, true, true, true] 0 (by kernel_rfl) (fun K hK => ?_)
        have HKK := Lib.hid hK
        clear hK
        simp only [List.drop_succ_cons, List.drop_zero]
        refine headH_mk (by rfl) ?_
        have hne : ∀ x ∈ blk a', x ≠ W.heap.size + 1 := fun x hx => by have := hd x hx; simp [blk] at this; omega
        have hfin := OwnC.b (nc := nc) (lk := lk) (S := S) hS HZ.out hrr hge hne (Nat.le_succ _) bw
        have HFin := Lib.hid hfin
        have hwx := hfin.bel
        clear hfin
        go_simp
        refine HKK.out _ _ (HPP.out _ (hS ▸ hwx)) ?_
        clear HKK K
        refine wpAnyH_done (by kernel_rfl) (NoPanic.normal ?_) _
        go_wp2_with fail
        go_meet
        exact HFin.out
    · have HKK := Lib.hid hK
      clear hK
      simp only [List.drop_succ_cons, List.drop_zero]
      refine headH_mk (by rfl) ?_
      go_simp
      refine HKK.out _ _ (HPP.out _ (by repeat (first | exact Below.refl _ _ | refine Below.drew ?_ | refine below_drewN ?_ _ | refine Below.alloc ?_ (by first | (simp; done) | (simp; omega)) _))) ?_
      clear HKK K
      refine wpAnyH_one 0 _ #[true, true, true, false, true, true, false, true, false] 3 (by kernel_rfl) (fun K hK => ?_)
      have HKK := Lib.hid hK
      clear hK
      simp only [List.drop_zero]
      refine headH_mk (by rfl) ?_
      go_simp
      refine HKK.out _ _ (HPP.out _ (by repeat (first | exact Below.refl _ _ | refine Below.drew ?_ | refine below_drewN ?_ _ | refine Below.alloc ?_ (by first | (simp; done) | (simp; omega)) _))) ?_
      clear HKK K
      refine wpAnyH_one 3 _ #[true, true, true, true, true, true, false, true, false] 2 (by kernel_rfl) (fun K hK => ?_)
      have HKK := Lib.hid hK
      clear hK
      simp only [List.drop_succ_cons, List.drop_zero]
      refine headH_mk (by rfl) ?_
      refine wp_append_row (l := []) (m := cs) _ _ 23 (by rfl) 3 i0 _ Tryd.underlying23 Hi.out Hz0.out Hz1.out Hz2.out rfl (by rfl) (by rfl) (by rfl) HN.out.symm (RowAt.zero (by first | (simp; done) | (simp; omega))) (HCI.out _ (by repeat (first | exact Below.refl _ _ | refine Below.drew ?_ | refine below_drewN ?_ _ | refine Below.alloc ?_ (by first | (simp; done) | (simp; omega)) _))) (by simpa [HN.out] using h47) ?_
      intro a' c' w3 hr hc hd
      have bw := Chg.below (w0 := W) (by repeat (first | exact Below.refl _ _ | refine Below.drew ?_ | refine below_drewN ?_ _ | refine Below.alloc ?_ (by first | (simp; done) | (simp; omega)) _)) hc (by simp [blk])
      have hsz := bw.size
      have h3s : s0 < w3.heap.size := Nat.lt_of_lt_of_le hsl hsz
      have hrr : RowAt w3 a' c' cs := hr
      have hge : ∀ x ∈ blk a', W.heap.size ≤ x := fun x hx => by have := hd x hx; simp [blk] at this; omega
      refine HKK.out _ _ (HPP.out _ bw) ?_
      clear HKK K
      have hz : Blk w3 W.heap.size [.slice none 0 0, .slice none 0 0, .int .i64 0, .slice none 0 0] := Blk.chg (by first | exact (Blk.mk _ [.slice none 0 0, .slice none 0 0, .int .i64 0, .slice none 0 0] _ _ (by simp)).below (below_alloc1 _ _) | exact ((Blk.mk _ [.slice none 0 0, .slice none 0 0, .int .i64 0, .slice none 0 0] _ _ (by simp)).below (below_alloc1 _ _)).below (below_drew1 _)) hc (by simp [blk])
      obtain ⟨y0, z0⟩ := hz 0 _ rfl
      obtain ⟨y1, z1⟩ := hz 1 _ rfl
      obtain ⟨y2, z2⟩ := hz 2 _ rfl
      obtain ⟨y3, z3⟩ := hz 3 _ rfl
      have HZ := Lib.hid hz
      clear hz
      refine wpAnyH_seg 6 1 _ #[true, true, true, true, true, true, true, true, false] 1 (by kernel_rfl) noPanic_put (HPP.out _ bw) (by kernel_rfl) ?_
      simp only [List.take_succ_cons, List.take_zero, List.drop_succ_cons, List.drop_zero]
      repeat (first
          | (refine wpSegH_no (by rfl) ?_; simp only [Act.put, List.setIfInBounds_toArray, List.set_cons_zero, List.set_cons_succ])
          | (refine wpSegH_yes (by rfl) ?_; apply Exists.intro; apply And.intro; (· (intro wx hS; (try dsimp only at hS); go_simp; first | done | with_reducible rfl)); simp only [Act.put, List.setIfInBounds_toArray, List.set_cons_zero, List.set_cons_succ]))
      refine wpSegH_nil ?_
      refine wpAnyH_one 8 _ #[true, true, true, true, true, true, true, true, true] 0 (by kernel_rfl) (fun K hK => ?_)
      have HKK := Lib.hid hK
      clear hK
      simp only [List.drop_succ_cons, List.drop_zero]
      refine headH_mk (by rfl) ?_
      have hne : ∀ x ∈ blk a', x ≠ W.heap.size := fun x hx => by have := hd x hx; simp [blk] at this; omega
      have hfin := OwnC.b (nc := nc) (lk := lk) (S := S) hS HZ.out hrr hge hne (Nat.le_refl _) bw
      have HFin := Lib.hid hfin
      have hwx := hfin.bel
      clear hfin
      go_simp
      refine HKK.out _ _ (HPP.out _ (hS ▸ hwx)) ?_
      clear HKK K
      refine wpAnyH_done (by kernel_rfl) (NoPanic.normal ?_) _
      go_wp2_with fail
      go_meet
      exact HFin.out
  · obtain ⟨B, a', c', rfl, q1, q2, q3, q4, q5⟩ := hcut
    have hO2 : Own w wc [CelA B [.slice none 0 0, .slice a' nc c', .int .i64 lk, .slice none 0 0], RowA a' c' cs, CelA (s0 + 1) [.slice none 0 0, .slice none 0 0, .int .i64 0, .slice none 0 0], CelA s0 [.slice fa nf fc, .slice ca nc cc, .int .i64 lk, .slice ka nk kc]] :=
      HO.out.add2 (hS ▸ q5) (F := [B]) (G := blk a') ⟨rfl, q1.lt (by simp), q1⟩ ⟨rfl, q2⟩ (fun x hx => by simp at hx; omega) (fun x hx => by have := (q3 x hx).2; omega) (fun x hx hc => by simp at hx; subst hx; exact (q3 x hc).1 rfl)
    have HO2 : Hid (Own w wc [FunA 54 (.slice none 0 0) [] (fs.take 0), CelA B [.slice none 0 0, .slice a' nc c', .int .i64 lk, .slice none 0 0], RowA a' c' cs, CelA (s0 + 1) [.slice none 0 0, .slice none 0 0, .int .i64 0, .slice none 0 0], CelA s0 [.slice fa nf fc, .slice ca nc cc, .int .i64 lk, .slice ka nk kc]]) := Lib.hid (hO2.noFun 54)
    obtain ⟨p0, -⟩ := HO2.out.cel 4 rfl 0 _ rfl
    clear q1 q2 q3 q4 q5 hO2 p1 p2 HO hS
    obtain ⟨i1, hi1, hz0, hz1, hz2⟩ := info_parts info_ci
    have Ii := Lib.hid hi1; clear hi1
    have Iz0 := Lib.hid hz0; clear hz0
    have Iz1 := Lib.hid hz1; clear hz1
    have Iz2 := Lib.hid hz2; clear hz2
    obtain ⟨i2, hi2, hz0, hz1, hz2⟩ := info_parts info_sl
    have Ji := Lib.hid hi2; clear hi2
    have Jz0 := Lib.hid hz0; clear hz0
    have Jz1 := Lib.hid hz1; clear hz1
    have Jz2 := Lib.hid hz2; clear hz2
    obtain ⟨i3, hi3, hz0, hz1, hz2⟩ := info_parts info_cc
    have Ki := Lib.hid hi3; clear hi3
    have Kz0 := Lib.hid hz0; clear hz0
    have Kz1 := Lib.hid hz1; clear hz1
    have Kz2 := Lib.hid hz2; clear hz2
    go_wp2_with fail
    go_loopw [21] (fun s wr => ∃ i a1 c1 vs, i ≤ nf ∧ s = .int .i64 ((i : Nat) : Int) ∧ Hid (Own w wr [FunA 54 (.slice a1 i c1) vs (fs.take i), CelA B [.slice a1 i c1, .slice a' nc c', .int .i64 lk, .slice none 0 0], RowA a' c' cs, CelA (s0 + 1) [.slice none 0 0, .slice none 0 0, .int .i64 0, .slice none 0 0], CelA s0 [.slice fa nf fc, .slice ca nc cc, .int .i64 lk, .slice ka nk kc]])) (fun s _ => nf - (intOf s).toNat)
    case atStart => exact ⟨0, none, 0, [], by omega, rfl, HO2⟩
    case round =>
      obtain ⟨i, a1, c1, vs, hi, rfl, hr⟩ := hrel
      by_cases hin : i < nf
      · have hin' : (i : Int) < (nf : Int) := by omega
        have hil : i < fs.length := by rw [HNF.out]; exact hin
        obtain ⟨b, off, a2, c2, rfl, d0w, hins⟩ := HF.out i hil
        have d0 := cell_below d0w hr.out.bel
        clear d0w
        have hfl := HL2.out fs[i] (List.getElem_mem hil)
        have htake : fs.take (i + 1) = fs.take i ++ [fs[i]] := List.take_succ_eq_append_getElem hil
        obtain ⟨f, hf⟩ : ∃ f, fs[i] = f := ⟨_, rfl⟩
        rw [hf] at d0 hins hfl htake
        obtain ⟨n, hn⟩ : ∃ n, f.length = n := ⟨_, rfl⟩
        rw [hn] at d0 hfl
        have HT := Lib.hid htake
        have HLn := Lib.hid hn
        have HIns := Lib.hid hins
        obtain ⟨sr, hsr⟩ : ∃ sr, sr = wr.heap.size := ⟨_, rfl⟩
        have hO3 : Own w (wr.alloc (.cells #[] 53)) [OwnA 53 4 (.slice (some ⟨sr, 0, none⟩) 0 0) 0 (inc (f.take 0)), FunA 54 (.slice a1 i c1) vs (fs.take i), CelA B [.slice a1 i c1, .slice a' nc c', .int .i64 lk, .slice none 0 0], RowA a' c' cs, CelA (s0 + 1) [.slice none 0 0, .slice none 0 0, .int .i64 0, .slice none 0 0], CelA s0 [.slice (some ⟨b, off, none⟩) nf fc, .slice ca nc cc, .int .i64 lk, .slice ka nk kc]] := hr.out.emptyRow 53 4 hsr
        have HO3 := Lib.hid hO3
        have HSR := Lib.hid hsr
        clear hO3 hf htake hn hins hil hsr p0
        go_wp2_with fail
        rw [← HSR.out]
        go_loopw [6, 28] (fun s6 s28 wx => ∃ j a6 c6, j ≤ n ∧ s28 = .int .i64 ((j : Nat) : Int) ∧ s6 = .slice a6 j c6 ∧ Hid (Own w wx [OwnA 53 4 (.slice a6 j c6) j (inc (f.take j)), FunA 54 (.slice a1 i c1) vs (fs.take i), CelA B [.slice a1 i c1, .slice a' nc c', .int .i64 lk, .slice none 0 0], RowA a' c' cs, CelA (s0 + 1) [.slice none 0 0, .slice none 0 0, .int .i64 0, .slice none 0 0], CelA s0 [.slice (some ⟨b, off, none⟩) nf fc, .slice ca nc cc, .int .i64 lk, .slice ka nk kc]])) (fun _ s28 _ => n - (intOf s28).toNat)
        case atStart => exact ⟨0, _, _, by omega, rfl, rfl, HO3.out⟩
        case round =>
          obtain ⟨j, a6, c6, hj, rfl, rfl, hq⟩ := hrel
          by_cases hjn : j < n
          · have hjn' : (j : Int) < (n : Int) := by omega
            have hjl : j < f.length := by rw [HLn.out]; exact hjn
            obtain ⟨b2, off2, rfl, e0, e1, e2, e3⟩ := (HIns.out.below hq.out.bel) j hjl
            have htk : inc (f.take (j + 1)) = inc (f.take j) ++ inc [f[j]] := by rw [List.take_succ_eq_append_getElem hjl, inc_app]
            obtain ⟨x, hx⟩ : ∃ x, f[j] = x := ⟨_, rfl⟩
            rw [hx] at e0 e1 e2 e3 htk
            obtain ⟨o, xa, xb, xc⟩ := x
            simp only at e0 e1 e2 e3
            have htk2 : inc (f.take (j + 1)) = inc (f.take j) ++ [.int .i64 o, .int .i64 xa, .int .i64 xb, .int .i64 xc] := htk
            have HTK := Lib.hid htk2
            have hO4 := hq.out.step (below_alloc1 wr (.cells #[.int .i64 o, .int .i64 xa, .int .i64 xb, .int .i64 xc] 43))
            have HOWN : Hid (∀ q, ((wr.alloc (.cells #[.int .i64 o, .int .i64 xa, .int .i64 xb, .int .i64 xc] 43)).alloc q).ownsRow 0 53 4 (.slice a6 j c6) j (inc (f.take j))) := Lib.hid fun q => (hO4.step (below_alloc1 _ q)).owned 0 rfl
            have HO4 := Lib.hid hO4
            clear htk htk2 hx hjl hO4 hq
            go_wp2_with (at_builtin; go_loud (refine wpList_append_lies _ rfl _ _ 54 rfl 0 53 i1 _ 4 32 Tryd.underlying54 Ii.out Iz0.out Iz1.out Iz2.out rfl (by decide) _ j (inc (f.take j)) rfl (HOWN.out _) ⟨wr.heap.size + 1, 0, none⟩ 1 1 [.int .i64 o, .int .i64 xa, .int .i64 xb, .int .i64 xc] rfl rfl (fun j' u hj' => by rw [Addr.add_lit, Nat.zero_add]; exact (Blk.mk _ [.int .i64 o, .int .i64 xa, .int .i64 xb, .int .i64 xc] _ _ (by simp) j' u hj').1) (by simp [Value.oneCell']) (by omega) (by unfold maxLen; omega) (by omega) (Nat.zero_le _) (wr.heap.size + 1 + 1) (by simp) ?_))
            intro g9 c9 w2 hown hgr hlies hglt
            have hA := HO4.out.more hown hgr (by simpa using hlies)
            rw [← HTK.out] at hA
            have HFin := Lib.hid hA
            clear hA hown hgr hlies hglt
            go_wp2_with fail
            exact ⟨⟨j + 1, _, _, by omega, by go_num, rfl, HFin⟩, by simp [intOf]; omega⟩
          · have hjn2 : j = n := by omega
            subst hjn2
            have hft : f.take j = f := List.take_of_length_le (by rw [HLn.out]; exact Nat.le_refl _)
            have hli : (fs.take i).length = i := by rw [List.length_take, HNF.out]; omega
            have hq2 := hq.out
            rw [hft] at hq2
            have hO5 : Own w wr [FunA 54 (.slice a1 i c1) vs (fs.take i), OwnA 53 4 (.slice a6 j c6) j (inc f), CelA B [.slice a1 i c1, .slice a' nc c', .int .i64 lk, .slice none 0 0], RowA a' c' cs, CelA (s0 + 1) [.slice none 0 0, .slice none 0 0, .int .i64 0, .slice none 0 0], CelA s0 [.slice (some ⟨b, off, none⟩) nf fc, .slice ca nc cc, .int .i64 lk, .slice ka nk kc]] := hq2.perm (List.Perm.swap _ _ _)
            obtain ⟨y0, g0⟩ := hO5.cel 2 rfl 0 _ rfl
            have hBlt : B < wr.heap.size := World.block_lt_of_cell? wr _ y0
            have HOWN : Hid (∀ q, (wr.alloc q).ownsRow 0 54 1 (.slice a1 i c1) i vs) := Lib.hid fun q => by
              have h := (hO5.step (below_alloc1 _ q)).fun 0 rfl
              rw [hli] at h; exact h
            have HO5 := Lib.hid hO5
            have HLI := Lib.hid hli
            clear hft hli hq2 hq hO5
            go_wp2_with (at_builtin; go_loud (refine wpList_append_lies _ rfl _ _ 33 rfl 0 54 i2 _ 1 24 Tryd.underlying33 Ji.out Jz0.out Jz1.out Jz2.out rfl (by decide) _ i vs rfl (HOWN.out _) ⟨wr.heap.size, 0, none⟩ 1 1 [.slice a6 j c6] rfl rfl (fun j' u hj' => by rw [Addr.add_lit, Nat.zero_add]; exact (Blk.mk _ [.slice a6 j c6] _ _ (by simp) j' u hj').1) (by simp [Value.oneCell']) (by omega) (by unfold maxLen; omega) (by omega) (Nat.zero_le _) (wr.heap.size + 1) (by simp) ?_))
            intro g9 c9 w2 hown hgr hlies hglt
            have hA := HO5.out.addFun HLI.out.symm HLn.out.symm hown hgr (by simpa using hlies)
            rw [← HT.out] at hA
            obtain ⟨y1, g1⟩ := hA.cel 1 rfl 0 _ rfl
            have HFin := Lib.hid (hA.setAt 1 rfl 0 (.slice (some ⟨g9, 0, none⟩) (i + 1) c9))
            clear hA hown hgr hlies hglt
            go_wp2_with fail
            exact ⟨⟨i + 1, _, _, _, by omega, by go_num, HFin⟩, by simp [intOf]; omega⟩
      · have hin2 : i = nf := by omega
        subst hin2
        have hfs : fs.take i = fs := List.take_of_length_le (by rw [HNF.out]; exact Nat.le_refl _)
        have hr2 := hr.out
        rw [hfs] at hr2
        obtain ⟨p3, -⟩ := hr2.cel 4 rfl 3 _ rfl
        have HO3 : Hid (Own w wr [OwnA 56 3 (.slice none 0 0) 0 (cac (ks.take 0)), FunA 54 (.slice a1 i c1) vs fs, CelA B [.slice a1 i c1, .slice a' nc c', .int .i64 lk, .slice none 0 0], RowA a' c' cs, CelA (s0 + 1) [.slice none 0 0, .slice none 0 0, .int .i64 0, .slice none 0 0], CelA s0 [.slice fa i fc, .slice ca nc cc, .int .i64 lk, .slice ka nk kc]]) := Lib.hid (hr2.nilRow 56 3)
        clear hr hr2 hfs p0
        go_wp2_with fail
        go_loopw [55] (fun s wr => ∃ j a9 c9, j ≤ nk ∧ s = .int .i64 ((j : Nat) : Int) ∧ Hid (Own w wr [OwnA 56 3 (.slice a9 j c9) j (cac (ks.take j)), FunA 54 (.slice a1 i c1) vs fs, CelA B [.slice a1 i c1, .slice a' nc c', .int .i64 lk, .slice a9 j c9], RowA a' c' cs, CelA (s0 + 1) [.slice none 0 0, .slice none 0 0, .int .i64 0, .slice none 0 0], CelA s0 [.slice fa i fc, .slice ca nc cc, .int .i64 lk, .slice ka nk kc]])) (fun s _ => nk - (intOf s).toNat)
        case atStart => exact ⟨0, none, 0, by omega, rfl, HO3⟩
        case round =>
          obtain ⟨j, a9, c9, hj, rfl, hq⟩ := hrel
          by_cases hjn : j < nk
          · have hjn' : (j : Int) < (nk : Int) := by omega
            have hjl : j < ks.length := by rw [HM.out]; exact hjn
            obtain ⟨b2, off2, rfl, e0, e1, e2⟩ := (HK.out.below hq.out.bel) j hjl
            have htk : cac (ks.take (j + 1)) = cac (ks.take j) ++ cac [ks[j]] := by rw [List.take_succ_eq_append_getElem hjl, cac_app]
            obtain ⟨x, hx⟩ : ∃ x, ks[j] = x := ⟨_, rfl⟩
            rw [hx] at e0 e1 e2 htk
            obtain ⟨xa, xb, xc⟩ := x
            simp only at e0 e1 e2
            have htk2 : cac (ks.take (j + 1)) = cac (ks.take j) ++ [.int .i64 xa, .int .i64 xb, .int .i64 xc] := htk
            have HTK := Lib.hid htk2
            have hO4 := hq.out.step (below_alloc1 wr (.cells #[.int .i64 xa, .int .i64 xb, .int .i64 xc] 49))
            obtain ⟨y0, g0⟩ := hq.out.cel 2 rfl 3 _ rfl
            have hBlt : B < wr.heap.size := World.block_lt_of_cell? wr _ y0
            have HOWN : Hid (∀ q, ((wr.alloc (.cells #[.int .i64 xa, .int .i64 xb, .int .i64 xc] 49)).alloc q).ownsRow 0 56 3 (.slice a9 j c9) j (cac (ks.take j))) := Lib.hid fun q => (hO4.step (below_alloc1 _ q)).owned 0 rfl
            have HO4 := Lib.hid hO4
            clear htk htk2 hx hjl hO4 hq
            go_wp2_with (at_builtin; go_loud (refine wpList_append_lies _ rfl _ _ 34 rfl 0 56 i3 _ 3 24 Tryd.underlying34 Ki.out Kz0.out Kz1.out Kz2.out rfl (by decide) _ j (cac (ks.take j)) rfl (HOWN.out _) ⟨wr.heap.size + 1, 0, none⟩ 1 1 [.int .i64 xa, .int .i64 xb, .int .i64 xc] rfl rfl (fun j' u hj' => by rw [Addr.add_lit, Nat.zero_add]; exact (Blk.mk _ [.int .i64 xa, .int .i64 xb, .int .i64 xc] _ _ (by simp) j' u hj').1) (by simp [Value.oneCell']) (by omega) (by unfold maxLen; omega) (by omega) (Nat.zero_le _) (wr.heap.size + 1 + 1) (by simp) ?_))
            intro g9 c9' w2 hown hgr hlies hglt
            have hA := HO4.out.more hown hgr (by simpa using hlies)
            rw [← HTK.out] at hA
            obtain ⟨y1, g1⟩ := hA.cel 2 rfl 3 _ rfl
            have HFin := Lib.hid (hA.setAt 2 rfl 3 (.slice (some ⟨g9, 0, none⟩) (j + 1) c9'))
            clear hA hown hgr hlies hglt
            go_wp2_with fail
            exact ⟨⟨j + 1, _, _, by omega, by go_num, HFin⟩, by simp [intOf]; omega⟩
          · have hjn2 : j = nk := by omega
            subst hjn2
            have hks : ks.take j = ks := List.take_of_length_le (by rw [HM.out]; exact Nat.le_refl _)
            have hq2 := hq.out
            rw [hks] at hq2
            obtain ⟨y0, -⟩ := hq2.cel 2 rfl 0 _ rfl
            obtain ⟨y1, -⟩ := hq2.cel 2 rfl 1 _ rfl
            obtain ⟨y2, -⟩ := hq2.cel 2 rfl 2 _ rfl
            obtain ⟨y3, -⟩ := hq2.cel 2 rfl 3 _ rfl
            obtain ⟨x0, g0⟩ := hq2.cel 4 rfl 0 _ rfl
            obtain ⟨x1, g1⟩ := hq2.cel 4 rfl 1 _ rfl
            obtain ⟨x2, g2⟩ := hq2.cel 4 rfl 2 _ rfl
            obtain ⟨x3, g3⟩ := hq2.cel 4 rfl 3 _ rfl
            have hq3 := (((hq2.setAt 4 rfl 0 (.slice a1 i c1)).setAt 4 rfl 1 (.slice a' nc c')).setAt 4 rfl 2 (.int .i64 lk)).setAt 4 rfl 3 (.slice a9 j c9)
            have HQ := Lib.hid hq3
            clear hks hq hq2 hq3 p3
            go_wp2_with fail
            have e := prog_get (HQ.out.cel 4 rfl)
            exact bodyPost_ret (results_cell Tryd.results7 _ ⟨s0 + 1, 0, none⟩ rfl e) rfl (HG.out a1 c1 a' c' a9 c9 _ (HQ.out.funAt 1 HNF.out.symm rfl) (HQ.out.row 3 rfl).ints (CasAt.of_own (HQ.out.owned 0 rfl) HM.out.symm) HQ.out.bel)
end Go.Proofs.YtjanangcfgmdeaaDoor
