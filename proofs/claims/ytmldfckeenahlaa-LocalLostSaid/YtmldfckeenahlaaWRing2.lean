/-
  The walks of a ring's New, Take, List; of Same.
-/
import Derived.Test.YtmldfckeenahlaaWRing1
import Derived.OwnWalk
open Go Go.RowKit
set_option linter.unusedVariables false
namespace Go.Proofs.Ytmldfckeenahlaa
def roomOf (z : Int) : Nat := (max 1 (min z 1024)).toNat
theorem roomOf_le (z : Int) : 1 ≤ roomOf z ∧ roomOf z ≤ 1024 := by unfold roomOf; omega
/-- The first i of L, and noughts. -/
def fill (L : List Int) (K i : Nat) : List Int := L.take i ++ List.replicate (K - i) 0
theorem fill_len (L : List Int) (K i : Nat) (hK : K ≤ L.length) (hi : i ≤ K) : (fill L K i).length = K := by
  unfold fill; rw [List.length_append, List.length_take, List.length_replicate]; omega
theorem fill_set (L : List Int) (K i : Nat) (hK : K ≤ L.length) (hi : i < K) : (fill L K i).set i (L[i]'(by omega)) = fill L K (i + 1) := by
  unfold fill
  have hl : (L.take i).length = i := by rw [List.length_take]; omega
  have h1 : L.take (i + 1) = L.take i ++ [L[i]'(by omega)] := by rw [List.take_add_one, List.getElem?_eq_getElem (by omega)]; rfl
  rw [List.set_append_right _ _ (by omega), hl, Nat.sub_self, show K - i = (K - (i + 1)) + 1 by omega, List.replicate_succ, List.set_cons_zero, h1, List.append_assoc]
  rfl
theorem fill_end (L : List Int) (K : Nat) : fill L K K = L.take K := by unfold fill; simp
theorem fill_zero (L : List Int) (K : Nat) : fill L K 0 = List.replicate K 0 := by unfold fill; simp
theorem intc_set (l : List Int) (i : Nat) (v : Int) : intc (l.set i v) = (intc l).set i (.int .i64 v) := by unfold intc; rw [List.map_set]
theorem RowAt.of_blk {w : World} {b : Nat} {l : List Int} (h : Blk w b (intc l)) (hb : b < w.heap.size) (hl : l.length ≤ maxLen) : RowAt w (some ⟨b, 0, none⟩) l.length l := by
  refine ⟨Nat.le_refl _, hl, .inr ⟨_, 0, rfl, hb, fun j hj => ?_, fun j v hj => ?_⟩⟩
  · rw [Nat.zero_add]
    obtain ⟨h1, h2⟩ := h j _ (intc_at l j hj)
    exact ⟨by rw [h1]; rfl, h2⟩
  · rw [Nat.zero_add]; exact (h j v hj).1
theorem Blk.of_own {w : World} {base n g cap : Nat} {e : TypeId} {xs : List Value} (h : w.ownsRow base e 1 (.slice (some ⟨g, 0, none⟩) n cap) n xs) : Blk w g xs ∧ g < w.heap.size := by
  rcases h.2 with ⟨h0, _⟩ | ⟨g', cap', cur, hv, hb, hg, h1, h2, h3, h4⟩
  · cases h0
  · simp only [Value.slice.injEq, Option.some.injEq, Addr.mk.injEq, and_true, true_and] at hv
    obtain ⟨rfl, rfl⟩ := hv
    refine ⟨fun j v hj => ?_, (Array.getElem?_eq_some_iff.1 hg).1⟩
    rw [cell_of_row w g j cur e (0, 0) hg]
    refine ⟨?_, frozen_of_row w g j cur e hg⟩
    rw [← h4, List.getElem?_take] at hj
    split at hj
    · simpa using hj
    · cases hj
theorem make_ints (w : World) (n : Nat) (hn : n ≤ 1000000) : ∃ w1, (Instr.makeSlice 35 (.int .i64 (n : Int)) (.int .i64 (n : Int))).run Try.prog w = .ok (.slice (some ⟨w.heap.size, 0, none⟩) n n) w1 ∧ w1.ownsRow 0 3 1 (.slice (some ⟨w.heap.size, 0, none⟩) n n) n (intc (List.replicate n 0)) ∧ w.grownBy w1 none := by
  obtain ⟨i0, hi, hz0, hz1, hz2⟩ := info_parts info_int
  obtain ⟨w1, h1, h2, h3⟩ := run_make_full (P := Try.prog) w 0 35 3 i0 _ 1 Try.underlying35 hi hz0 hz1 .i64 .i64 n (by rw [hz2]; omega) (by unfold maxLen; omega) (Nat.zero_le _)
  rw [show (Value.int .i64 0).cells = #[Value.int .i64 0] from rfl, made_ints] at h2
  exact ⟨w1, h1, h2, h3⟩
theorem RingAt.new (w : World) (p g N : Nat) (h1 : 1 ≤ N) (h2 : N ≤ 1024) (hne : g ≠ p) (hg : Blk w g (intc (List.replicate N 0))) (hp : Blk w p [.slice (some ⟨g, 0, none⟩) N N, .int .i64 0, .int .i64 0]) (hpl : Plain w p) : RingAt w p 0 g N 0 [] := by
  refine ⟨h1, h2, by simp, by omega, hne, (hp 0 _ rfl).1, (hp 1 _ rfl).1, (hp 2 _ rfl).1, (hp 1 _ rfl).2, (hp 2 _ rfl).2, hpl, _, ?_, hg, fun i hi => by simp at hi⟩
  rw [intc_len, List.length_replicate]
set_option maxRecDepth 100000 in
set_option maxHeartbeats 1000000 in
theorem rnew_any (z : Int) (w : World) : Calls Try.prog 34 #[.int .i64 z] w fun r w' => ∃ p g, r = .returned (.pointer (some ⟨p, 0, none⟩)) ∧ RingAt w' p 0 g (roomOf z) 0 [] ∧ w.heap.size ≤ p ∧ w.heap.size ≤ g ∧ Below w.heap.size w w' := by
  obtain ⟨N, hN⟩ : ∃ N, N = roomOf z := ⟨_, rfl⟩
  obtain ⟨h1, h2⟩ := roomOf_le z
  have hm : min (max z 1) 1024 = (N : Int) := by rw [hN]; unfold roomOf; omega
  rw [← hN] at h1 h2 ⊢
  clear hN
  obtain ⟨w1, hmk, hown, hgrow⟩ := make_ints w N (by omega)
  have hb1 : Below w.heap.size w w1 := (grownBy_chg hgrow).to_below0
  obtain ⟨hblk, hlt⟩ := Blk.of_own hown
  obtain ⟨g, hg⟩ : ∃ g, g = w.heap.size := ⟨_, rfl⟩
  have hpg : g < w1.heap.size := by omega
  rw [← hg] at hmk hblk
  have HB := Lib.hid hblk; clear hblk hown hgrow
  have HB1 := Lib.hid hb1; clear hb1
  have HG := Lib.hid hg; clear hg hlt
  have HP := Lib.hid hpg; clear hpg
  have hend : ∀ cs, cs = [Value.slice (some ⟨g, 0, none⟩) N N, .int .i64 0, .int .i64 0] → RingAt (w1.alloc (.cells cs.toArray 66)) w1.heap.size 0 g N 0 [] ∧ w.heap.size ≤ w1.heap.size ∧ w.heap.size ≤ g ∧ Below w.heap.size w (w1.alloc (.cells cs.toArray 66)) := fun cs hcs => by
    subst hcs
    have hs := HB1.out.size
    have hg := HG.out
    exact ⟨RingAt.new _ _ _ _ h1 h2 (by have := HP.out; omega) (HB.out.alloc _) (Blk.mk _ _ _ _ rfl) (Plain.new _ _ _ rfl), hs, by omega, HB1.out.alloc hs _⟩
  have HE := Lib.hid hend; clear hend
  have hV : (N : Int) = 1 ∧ z < 1 ∨ (N : Int) = z ∧ 1 ≤ z ∧ z ≤ 1024 ∨ (N : Int) = 1024 ∧ 1024 < z := by omega
  rcases hV with ⟨hV, hz⟩ | ⟨hV, hz, hz'⟩ | ⟨hV, hz⟩
  all_goals
    rw [hV] at hmk
    have HV := Lib.hid hV; clear hV hm
    go_enter Try.func34, Try.ntmps34
    go_wp2
    go_ret
    exact ⟨_, g, rfl, HE.out _ rfl⟩
/-- So many are taken. -/
def takes (k : Int) (n : Nat) : Nat := min k.toNat n
theorem takes_le (k : Int) (n : Nat) : takes k n ≤ n := by unfold takes; omega
set_option maxRecDepth 100000 in
set_option maxHeartbeats 1000000 in
theorem rtake_any (w : World) (p o g N e : Nat) (l : List Int) (k : Int) (h : RingAt w p o g N e l) :
    Calls Try.prog 38 #[.pointer (some ⟨p, o, none⟩), .int .i64 k] w fun r w' => ∃ q e', r = .returned (.slice (some ⟨q, 0, none⟩) (takes k l.length) (takes k l.length)) ∧ w.heap.size ≤ q ∧ RowAt w' (some ⟨q, 0, none⟩) (takes k l.length) (l.take (takes k l.length)) ∧
      RingAt w' p o g N e' (l.drop (takes k l.length)) ∧ RChg p o g w w' := by
  obtain ⟨K, hK⟩ : ∃ K, K = takes k l.length := ⟨_, rfl⟩
  have hKl := takes_le k l.length
  have hKn : K = min k.toNat l.length := by rw [hK]; rfl
  have ll := h.ll
  have n2 := h.n2
  have c2 := h.c2
  have ne := h.ne
  obtain ⟨hpl, hgl⟩ := h.lt
  rw [← hK] at hKl ⊢
  have hV : ((K : Int) = 0 ∧ k < 0) ∨ ((K : Int) = k ∧ 0 ≤ k ∧ k ≤ (l.length : Int)) ∨ ((K : Int) = (l.length : Int) ∧ 0 ≤ k ∧ (l.length : Int) < k) := by omega
  clear hK hKn
  obtain ⟨w1, hmk, hown, hgrow⟩ := make_ints w K (by omega)
  have hb1 : Below w.heap.size w w1 := (grownBy_chg hgrow).to_below0
  obtain ⟨hblk, hlt⟩ := Blk.of_own hown
  obtain ⟨q, hq⟩ : ∃ q, q = w.heap.size := ⟨_, rfl⟩
  have hlt' : q < w1.heap.size := by omega
  rw [← hq] at hmk hblk
  have hst : RingAt w1 p o g N ((e + 0) % N) (l.drop 0) ∧ RChg p o g w w1 ∧ Blk w1 q (intc (fill l K 0)) ∧ q < w1.heap.size := ⟨by rw [Nat.add_zero, Nat.mod_eq_of_lt h.el]; exact h.below hb1, RChg.of_below hpl hb1, by rw [fill_zero]; exact hblk, hlt'⟩
  have HST := Lib.hid hst
  have HQ : Hid (q = w.heap.size ∧ q ≠ p ∧ q ≠ g ∧ g ≠ p) := Lib.hid ⟨hq, by omega, by omega, ne⟩
  have hstep : ∀ (i : Nat) (w2 w3 : World) (hi : i < K), RChg p o g w w2 → Blk w2 q (intc (fill l K i)) → q < w2.heap.size → RingAt w3 p o g N ((e + (i + 1)) % N) (l.drop (i + 1)) → RChg p o g w2 w3 →
      (w3.cell? ⟨q, i, none⟩).isSome = true ∧ w3.frozen? ⟨q, i, none⟩ = false ∧ (RingAt (w3.setCell ⟨q, i, none⟩ (.int .i64 (l[i]'(by omega)))) p o g N ((e + (i + 1)) % N) (l.drop (i + 1)) ∧ RChg p o g w (w3.setCell ⟨q, i, none⟩ (.int .i64 (l[i]'(by omega)))) ∧
        Blk (w3.setCell ⟨q, i, none⟩ (.int .i64 (l[i]'(by omega)))) q (intc (fill l K (i + 1))) ∧ q < (w3.setCell ⟨q, i, none⟩ (.int .i64 (l[i]'(by omega)))).heap.size) := fun i w2 w3 hi r2 b2 q2 r3 c3 => by
    obtain ⟨e1, e2, e3, e4⟩ := HQ.out
    have b3 := b2.chg c3.chg (by simp <;> omega)
    obtain ⟨s1, s2⟩ := b3.at i (by rw [intc_len, fill_len l K i hKl (by omega)]; exact hi)
    have cs : Chg [q] w3 (w3.setCell ⟨q, i, none⟩ (.int .i64 (l[i]'(by omega)))) := (Chg.refl _ _).setCell _ (.inl (by simp))
    have r13 := r2.trans c3
    refine ⟨by rw [s1]; rfl, s2, r3.chg cs (by simp <;> omega) (by simp <;> omega), ⟨r13.chg.trans cs (fun x hx => .inr (by simp at hx; omega)), fun j hj => ?_⟩, ?_, by rw [World.size_setCell]; exact Nat.lt_of_lt_of_le q2 c3.chg.size⟩
    · rw [World.cell?_setCell_other _ _ _ _ (by simp <;> omega), World.frozen?_setCell]; exact r13.far j hj
    · rw [← fill_set l K i hKl hi, intc_set]
      exact b3.set i _
  have HSP := Lib.hid hstep
  clear hst hstep hb1 hblk hlt hlt' hown hgrow h hgl hpl ne
  obtain ⟨n, hn⟩ : ∃ n, n = l.length := ⟨_, rfl⟩
  have hKl2 := hKl
  rw [← hn] at c2 hV hKl2 ll
  have HN := Lib.hid hn; clear hn
  clear hq
  rcases hV with ⟨hV, hz⟩ | ⟨hV, hz, hz'⟩ | ⟨hV, hz, hz'⟩
  all_goals
    rw [hV] at hmk
    have HV := Lib.hid hV; clear hV
    go_enter Try.func38, Try.ntmps38
    go_wp2_with fail
    go_loopw [17] (fun iv wr => ∃ i : Nat, i ≤ K ∧ iv = .int .i64 i ∧ Hid (RingAt wr p o g N ((e + i) % N) (l.drop i) ∧ RChg p o g w wr ∧ Blk wr q (intc (fill l K i)) ∧ q < wr.heap.size)) (fun iv _ => K - (intOf iv).toNat)
    case atStart => exact ⟨0, by omega, rfl, HST.out⟩
    case round =>
      obtain ⟨i, hi, rfl, hr⟩ := hrel
      by_cases hlt : i < K
      · have hil : i < l.length := by have := HN.out; omega
        have hring : RingAt wr p o g N ((e + i) % N) (l[i] :: l.drop (i + 1)) := by
          rw [← List.drop_eq_getElem_cons hil]; exact hr.out.1
        have HR := Lib.hid hring; clear hring
        go_wp2_with fail
        refine (pop_any wr p o g N _ _ _ HR.out).mono ?_
        rintro r w3 ⟨rfl, r3, c3⟩
        rw [Nat.mod_add_mod, Nat.add_assoc] at r3
        obtain ⟨s1, s2, s3⟩ := HSP.out i wr w3 hlt hr.out.2.1 hr.out.2.2.1 hr.out.2.2.2 r3 c3
        obtain ⟨v0, s1⟩ := Option.isSome_iff_exists.1 s1
        have S3 := Lib.hid s3; clear s3 r3 c3
        have hli : (i : Int) < (K : Int) := by omega
        go_wp2
        exact ⟨⟨i + 1, by omega, by go_num, S3⟩, by simp [intOf]; omega⟩
      · obtain rfl : i = K := by omega
        go_wp2
        go_ret
        obtain ⟨t1, t2, t3, t4⟩ := hr.out
        rw [fill_end] at t3
        have t5 := RowAt.of_blk t3 t4 (by rw [List.length_take]; unfold maxLen; omega)
        rw [List.length_take, Nat.min_eq_left (by have := HN.out; omega)] at t5
        exact ⟨q, _, rfl, by have := HQ.out.1; omega, t5, t1, t2⟩
set_option maxRecDepth 100000 in
set_option maxHeartbeats 1000000 in
theorem rlist_any (w : World) (p o g N e : Nat) (l : List Int) (h : RingAt w p o g N e l) :
    Calls Try.prog 32 #[.pointer (some ⟨p, o, none⟩)] w fun r w' => ∃ q, r = .returned (.slice (some ⟨q, 0, none⟩) l.length l.length) ∧ w.heap.size ≤ q ∧ RowAt w' (some ⟨q, 0, none⟩) l.length l ∧ Below w.heap.size w w' := by
  obtain ⟨K, hK⟩ : ∃ K, K = l.length := ⟨_, rfl⟩
  have ll := h.ll
  have n2 := h.n2
  have n1 := h.n1
  have c0 := h.c0
  have c2 := h.c2
  rw [← hK] at c2 ll ⊢
  obtain ⟨w1, hmk, hown, hgrow⟩ := make_ints w K (by omega)
  have hb1 : Below w.heap.size w w1 := (grownBy_chg hgrow).to_below0
  obtain ⟨hblk, hlt⟩ := Blk.of_own hown
  obtain ⟨q, hq⟩ : ∃ q, q = w.heap.size := ⟨_, rfl⟩
  have hlt' : q < w1.heap.size := by omega
  rw [← hq] at hmk hblk
  have hst : Below w.heap.size w w1 ∧ Blk w1 q (intc (fill l K 0)) ∧ q < w1.heap.size := ⟨hb1, by rw [fill_zero]; exact hblk, hlt'⟩
  have HST := Lib.hid hst
  have HQ := Lib.hid hq
  have hKl : K ≤ l.length := by omega
  have HK := Lib.hid hK; clear hK
  have hstep : ∀ (i : Nat) (w2 w3 : World) (hi : i < K), Below w.heap.size w w2 → Blk w2 q (intc (fill l K i)) → q < w2.heap.size → Below w2.heap.size w2 w3 →
      Below w.heap.size w (w3.setCell ⟨q, i, none⟩ (.int .i64 (l[i]'(by omega)))) ∧ Blk (w3.setCell ⟨q, i, none⟩ (.int .i64 (l[i]'(by omega)))) q (intc (fill l K (i + 1))) ∧ q < (w3.setCell ⟨q, i, none⟩ (.int .i64 (l[i]'(by omega)))).heap.size := fun i w2 w3 hi r2 b2 q2 c3 => by
    have b3 := b2.below c3
    refine ⟨(below_on r2 c3).setCell (by show w.heap.size ≤ q; have := HQ.out; omega) _, ?_, by rw [World.size_setCell]; exact Nat.lt_of_lt_of_le q2 c3.size⟩
    rw [← fill_set l K i (by omega) hi, intc_set]
    exact b3.set i _
  have HSP := Lib.hid hstep
  have H := Lib.hid h
  clear hst hstep hb1 hblk hlt hlt' hown hgrow h hq
  go_enter Try.func32, Try.ntmps32
  go_wp2_with fail
  go_loopw [12] (fun iv wr => ∃ i : Nat, i ≤ K ∧ iv = .int .i64 i ∧ Hid (Below w.heap.size w wr ∧ Blk wr q (intc (fill l K i)) ∧ q < wr.heap.size)) (fun iv _ => K - (intOf iv).toNat)
  case atStart => exact ⟨0, by omega, rfl, HST.out⟩
  case round =>
    obtain ⟨i, hi, rfl, hr⟩ := hrel
    by_cases hlt : i < K
    · have hring := H.out.below hr.out.1
      have hx := hring.cell i (by have := HK.out; omega)
      have HR := Lib.hid hring; clear hring
      have hm : (((e + i) % N : Nat) : Int) < (N : Int) := by have := Nat.mod_lt (e + i) (show 0 < N by omega); omega
      obtain ⟨k, hk⟩ : ∃ k, k = (e + i) % N := ⟨_, rfl⟩
      rw [← hk] at hx hm
      have HKK := Lib.hid hk; clear hk
      have c0' := HR.out.c0
      obtain ⟨s1, s2⟩ := hr.out.2.1.at i (by rw [intc_len, fill_len l K i (by have := HK.out; omega) (by omega)]; exact hlt)
      have hli : (i : Int) < (K : Int) := by omega
      have hsp := HSP.out i wr
      have HSQ : Hid (∀ w3, Below wr.heap.size wr w3 → _) := Lib.hid (fun w3 hb => HSP.out i wr w3 hlt hr.out.1 hr.out.2.1 hr.out.2.2 hb)
      clear hsp
      go_wp2_with fail
      go_region_with (go_at_call 43; refine (place_any _ p o g N e l (drewN_ring HR.out _) i (by omega)).mono ?_; rintro r w1 ⟨rfl, mq, rfl⟩; rw [← HKK.out])
      all_goals
        go_wp2
        exact ⟨⟨i + 1, by omega, by go_num, Lib.hid (HSQ.out _ (below_drewN (Below.refl _ _) _))⟩, by simp [intOf]; omega⟩
    · obtain rfl : i = K := by omega
      go_wp2
      go_ret
      obtain ⟨t1, t2, t3⟩ := hr.out
      rw [fill_end, List.take_of_length_le (by have := HK.out; omega)] at t2
      have t5 := RowAt.of_blk t2 t3 (by unfold maxLen; have := HK.out; omega)
      rw [← HK.out] at t5
      exact ⟨q, rfl, by have := HQ.out; omega, t5, t1⟩
/-- Same. -/
def sameI (l m : List Int) : Int := if l = m then 0 else -1
theorem sameI_self (l : List Int) : sameI l l = 0 := by simp [sameI]
set_option maxRecDepth 100000 in
set_option maxHeartbeats 1000000 in
/-- Of lists that are the same. -/
theorem same_any (w : World) (a b : Option Addr) (c d : Nat) (l : List Int) (h : IntsAt w a l) (k : IntsAt w b l) (hl : l.length ≤ maxLen) :
    Calls Try.prog 30 #[.slice a l.length c, .slice b l.length d] w fun r w' => r = .returned (.int .i64 0) ∧ ∃ m, w' = w.drewN m := by
  obtain ⟨K, hK⟩ : ∃ K, K = l.length := ⟨_, rfl⟩
  rw [← hK] at hl ⊢
  unfold maxLen at hl
  have H := Lib.hid h; clear h
  have J := Lib.hid k; clear k
  have HK := Lib.hid hK; clear hK
  go_enter Try.func30, Try.ntmps30
  go_wp2_with fail
  go_loopw [13] (fun iv wr => ∃ i m : Nat, i ≤ K ∧ iv = .int .i64 i ∧ wr = w.drewN m) (fun iv _ => K - (intOf iv).toNat)
  case atStart => exact ⟨0, 0, by omega, rfl, rfl⟩
  case round =>
    obtain ⟨i, m, hi, rfl, rfl⟩ := hrel
    by_cases hlt : i < K
    · obtain ⟨b1, o1, rfl, g1⟩ := H.out i (by have := HK.out; omega)
      obtain ⟨b2, o2, rfl, g2⟩ := J.out i (by have := HK.out; omega)
      have hli : (i : Int) < (K : Int) := by omega
      go_wp2_with fail
      go_quiet (fail)
      go_wp2
      exact ⟨⟨i + 1, _, by omega, by go_num, rfl⟩, by simp [intOf]; omega⟩
    · obtain rfl : i = K := by omega
      go_wp2
      go_ret
      exact ⟨rfl, _, rfl⟩
end Go.Proofs.Ytmldfckeenahlaa
