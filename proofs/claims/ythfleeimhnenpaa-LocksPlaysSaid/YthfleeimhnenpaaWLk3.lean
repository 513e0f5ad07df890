/-
  Locks: Waits, Clone; the document's Take and Give.
-/
import Derived.Test.YthfleeimhnenpaaWLk2
import Derived.Test.YthfleeimhnenpaaPool
open Go Go.RowKit
set_option linter.unusedVariables false
namespace Go.Proofs.Ythfleeimhnenpaa
set_option maxRecDepth 100000 in
set_option maxHeartbeats 1000000 in
theorem kwaits_any (w : World) (p : Nat) (L : List Int) (F : List Nat) (h : LockAt w p L F) (hl : L.length ≤ 1000000) :
    Calls Try.prog 44 #[.pointer (some ⟨p, 0, none⟩)] w fun r w' => ∃ a' c', r = .returned (.slice a' L.tail.length c') ∧ RowAt w' a' c' L.tail ∧ (∀ x ∈ blk a', w.heap.size ≤ x) ∧ Below w.heap.size w w' := by
  obtain ⟨a, cap, rfl, h2, h3, h4⟩ := h
  obtain ⟨g2, f2⟩ := h3 2 _ rfl
  have hc := clone_any w a L.tail.length cap L.tail h4.ints rfl (by rw [List.length_tail]; omega) h4.none0
  have HC := Lib.hid hc
  clear hc h2 h3 h4 f2
  generalize L.tail.length = n at *
  go_enter Try.func44, Try.ntmps44
  go_wp2_with fail
  refine HC.out.mono ?_
  rintro r w1 ⟨a', c', rfl, k⟩
  have K := Lib.hid k; clear k
  go_wp2
  go_ret
  exact ⟨a', c', rfl, K.out⟩
theorem keep_2 {W w' : World} {b : Nat} {x y z : Value} (h : Hid (Blk W b [x, y, z])) (hb : Below W.heap.size W w') :
    w'.cell? ⟨b, 0, none⟩ = some x ∧ w'.cell? ⟨b, 1, none⟩ = some y ∧ Below W.heap.size W w' := ⟨cell_below (h.out 0 _ rfl).1 hb, cell_below (h.out 1 _ rfl).1 hb, hb⟩
set_option maxRecDepth 100000 in
set_option maxHeartbeats 1000000 in
theorem kclone_any (w : World) (p : Nat) (L : List Int) (F : List Nat) (h : LockAt w p L F) (hl : L.length ≤ 1000000) :
    Calls Try.prog 26 #[.pointer (some ⟨p, 0, none⟩)] w fun r w' => ∃ q F', r = .returned (.pointer (some ⟨q, 0, none⟩)) ∧ LockAt w' q L F' ∧ (∀ x ∈ F', w.heap.size ≤ x) ∧ Below w.heap.size w w' := by
  have H := Lib.hid h
  obtain ⟨a, cap, rfl, h2, h3, h4⟩ := h
  have H3 := Lib.hid h3
  generalize hb : (!L.isEmpty) = tk at *
  generalize ho : L.headD 0 = ow at *
  obtain ⟨n, hn⟩ : ∃ n, n = L.tail.length := ⟨_, rfl⟩
  have HN := Lib.hid hn
  have HB := Lib.hid hb
  have HO := Lib.hid ho
  clear h2 h3 h4 hn hb ho
  go_enter Try.func26, Try.ntmps26
  go_wp2_with fail
  go_region_held3 (fun w' => w'.cell? ⟨p, 0, none⟩ = some (.bool tk) ∧ w'.cell? ⟨p, 1, none⟩ = some (.int .i64 ow) ∧ Below w.heap.size w w')
    ((refine keep_2 H3 ?_; repeat (first | exact Below.refl _ _ | assumption | exact lim2 (by assumption) | exact below_drew1 _ | refine below_on ?_ (below_alloc1 _ _) | refine below_on ?_ b1)))
    ((go_at_call 44; refine (kwaits_any _ p L _ (H.out.chg (Chg.of_below (F := []) (lim2 (by assumption))) (by simp)) hl).mono ?_; rw [← HN.out]; rintro r w1 ⟨a1, c1, rfl, k1, k2, b1⟩))
  all_goals
    have hw : Below w.heap.size w w1 := by first | exact b1 | exact below_on (below_drew1 _) b1
    have hn1 : w.heap.size ≤ w1.heap.size := hw.size
    have hx : ∀ x ∈ blk a1, w.heap.size ≤ x := k2
    have hB := Blk.mk w1 [.bool tk, .int .i64 ow, .slice a1 n c1] 97 _ rfl
    have hf : LockAt (w1.alloc (.cells #[.bool tk, .int .i64 ow, .slice a1 n c1] 97)) w1.heap.size L (w1.heap.size :: blk a1) ∧ (∀ x ∈ w1.heap.size :: blk a1, w.heap.size ≤ x) ∧ Below w.heap.size w (w1.alloc (.cells #[.bool tk, .int .i64 ow, .slice a1 n c1] 97)) := by
      refine ⟨⟨a1, c1, rfl, fun hx => by have := k1.lt _ hx; omega, ?_, k1.below (below_alloc1 _ _)⟩, fun x hx' => ?_, below_on hw (below_alloc1 _ _)⟩
      · rw [HB.out, HO.out, ← HN.out]; exact hB
      · simp at hx'
        rcases hx' with rfl | h
        · exact hn1
        · exact hx x h
    have HF := Lib.hid hf
    rename_i hHeld
    clear hf hB hx hn1 hw k1 k2 b1 hHeld
    go_wp2
    go_ret
    exact ⟨_, _, rfl, HF.out⟩
/-- The document's lock as a value. -/
def zv (a : Option Addr) (n c : Nat) : Value := .agg #[.slice a n c]
theorem keep_1 {W w' : World} {b : Nat} {x : Value} (h : Hid (Blk W b [x])) (hb : Below W.heap.size W w') : w'.cell? ⟨b, 0, none⟩ = some x ∧ Below W.heap.size W w' := ⟨cell_below (h.out 0 _ rfl).1 hb, hb⟩
theorem nil_iff (L : List Int) (n : Nat) (hn : n = L.length) : ((n : Int) == 0) = L.isEmpty := by
  subst hn; cases L with
  | nil => rfl
  | cons x t => simp; omega
set_option maxRecDepth 100000 in
set_option maxHeartbeats 4000000 in
theorem ztake_any (w : World) (a : Option Addr) (n c : Nat) (L : List Int) (g : Int) (hn : n = L.length) (h : IntsAt w a L) (hl : L.length ≤ 1000000) :
    Calls Try.prog 27 #[zv a n c, .int .i64 g] w fun r w' => ∃ a' c', r = .returned (.tuple #[zv a' (n + 1) c', .bool L.isEmpty]) ∧ RowAt w' a' c' (L ++ [g]) ∧ (∀ x ∈ blk a', w.heap.size ≤ x) ∧ Below w.heap.size w w' := by
  obtain ⟨i0, hi0, hz0, hz1, hz2⟩ := info_parts info_int
  have Hi := Lib.hid hi0; clear hi0
  have Hz0 := Lib.hid hz0; clear hz0
  have Hz1 := Lib.hid hz1; clear hz1
  have Hz2 := Lib.hid hz2; clear hz2
  unfold zv
  have hb := nil_iff L n hn
  generalize L.isEmpty = em at *
  obtain ⟨s0, hs0⟩ : ∃ s0, s0 = w.heap.size := ⟨_, rfl⟩
  have hO : Own w ((w.alloc (.cells #[.slice a n c] 63)).alloc (.cells #[.slice none 0 0] 63)) [CelA (s0 + 1) [.slice none 0 0], CelA s0 [.slice a n c]] :=
    ((Own.nil (Below.refl _ _)).alloc [.slice a n c] _ hs0).alloc [.slice none 0 0] _ (by simp [hs0])
  have H := Lib.hid (h.below hO.bel)
  have HO := Lib.hid hO
  have HN := Lib.hid hn
  have HS := Lib.hid hs0
  have hsz : s0 + 1 < ((w.alloc (.cells #[.slice a n c] 63)).alloc (.cells #[.slice none 0 0] 63)).heap.size := by simp [hs0]
  clear h hn hO
  go_enter Try.func27, Try.ntmps27
  go_upto_region 1 with fail
  rw [← hs0]
  generalize hW : (w.alloc (.cells #[.slice a n c] 63)).alloc (.cells #[.slice none 0 0] 63) = W at *
  clear hW hs0
  obtain ⟨g0, f0⟩ := HO.out.cel 1 rfl 0 _ rfl
  have HST : Hid (CR (s0 + 1) 1 W W) := Lib.hid (CR.start (Room.of_blk (cs := [.slice none 0 0]) (HO.out.cel 0 rfl) hsz))
  have HK := Lib.hid (CR.loads (b := s0 + 1) (n := 1) g0 (by omega))
  have HSZ := Lib.hid hsz
  clear g0 f0 hsz
  go_wp2_with fail
  go_region_held3 (fun w' => w'.cell? ⟨s0, 0, none⟩ = some (.slice a n c) ∧ CR (s0 + 1) 1 W w')
    ((refine HK.out _ ?_; repeat (first | exact HST.out | exact cr2 | exact cr1 | exact lim1 (by assumption) | refine CR.drew ?_ | refine CR.drewN ?_ _ | refine CR.set ?_ _ _ | refine CR.step ?_ (below_alloc1 _ _))))
    (first
    | (refine step_append_row (l := []) (m := L) (by rfl) _ _ 59 (by rfl) 3 i0 _ Try.underlying59 Hi.out Hz0.out Hz1.out Hz2.out rfl (by rfl) (by rfl) (by rfl) HN.out (RowAt.zero' (by simp <;> omega)) (H.out.below (by repeat (first | exact Below.refl _ _ | refine Below.drew ?_ | refine below_drewN ?_ _ | refine Below.alloc ?_ (by simp) _))) (by simp only [List.length_nil]; omega) ?_; intro a1 c1 w1 k1 ch1 fr1
       have cr1 : CR (s0 + 1) 1 W w1 := CR.more ch1 (by repeat (first | exact HST.out | refine CR.drew ?_ | refine CR.drewN ?_ _ | refine CR.step ?_ (below_alloc1 _ _))) (by have := HSZ.out; simp [blk]; omega) (by have := HSZ.out; simp [blk])
       have fa1 : ∀ x ∈ blk a1, W.heap.size ≤ x := fun x hx => by
         rcases fr1 x hx with h | h
         · simp [blk] at h; omega
         · first | omega | (simp at h; omega))
    | (refine step_append_row (l := L) (m := [g]) (by rfl) _ _ 59 (by rfl) 3 i0 _ Try.underlying59 Hi.out Hz0.out Hz1.out Hz2.out rfl (by rfl) (by rfl) (by simp [HN.out]) (by rfl) (by first | exact k1 | exact k1.below (below_alloc1 _ _)) (by first
        | exact (RowAt.one _ _ _ rfl).ints
        | exact (((RowAt.one (W.alloc (.cells #[] 3)) g 3 (b := W.heap.size + 1) (by simp)).below (by repeat (first | exact Below.refl _ _ | refine Below.drew ?_ | refine Below.alloc ?_ (by simp) _))).chg ch1 (by simp [blk])).ints
        | exact (((RowAt.one W g 3 (b := W.heap.size) rfl).below (by repeat (first | exact Below.refl _ _ | refine Below.drew ?_ | refine Below.alloc ?_ (by simp) _))).chg ch1 (by simp [blk])).ints) (by simp only [List.length_singleton]; omega) ?_; intro a2 c2 w2 k2 ch2 fr2
       have cr2 : CR (s0 + 1) 1 W w2 := CR.more ch2 (by repeat (first | exact cr1 | refine CR.drew ?_ | refine CR.drewN ?_ _ | refine CR.step ?_ (below_alloc1 _ _))) (fun hx => by have := fa1 _ hx; have := HSZ.out; omega) fa1
       have fa2 : ∀ x ∈ blk a2, W.heap.size ≤ x := fun x hx => by
         rcases fr2 x hx with h | h
         · exact fa1 x h
         · have := cr1.1.size; first | omega | (simp at h; omega)
       obtain ⟨v9, e9, m9⟩ := cr2.2.at 0 (by omega)))
  all_goals
    have hE : RowAt (w2.setCell ⟨s0 + 1, 0, none⟩ (.slice a2 (n + 1) c2)) a2 c2 (L ++ [g]) ∧ (∀ x ∈ blk a2, w.heap.size ≤ x) ∧ Below w.heap.size w (w2.setCell ⟨s0 + 1, 0, none⟩ (.slice a2 (n + 1) c2)) := by
      have hc : Chg [s0 + 1] w2 (w2.setCell ⟨s0 + 1, 0, none⟩ (.slice a2 (n + 1) c2)) := (Chg.refl _ _).setCell _ (.inl (by simp))
      have h1 := HSZ.out
      have h2 := HS.out
      exact ⟨k2.chg hc (fun x hx => by have := fa2 x hx; simp; omega), fun x hx => by have := fa2 x hx; omega, CR.bel (cr2.set 0 _) HO.out.bel (by omega)⟩
    have HE := Lib.hid hE
    rename_i hHeld
    clear hE hHeld k1 ch1 fr1 k2 ch2 fr2 cr1 cr2 fa1 fa2
    go_wp2
    exact bodyPost_ret (v := .tuple #[.agg #[.slice a2 (n + 1) c2], .bool em]) (by simp [results, Try.results27, go_sem, e9]) rfl ⟨a2, c2, rfl, HE.out⟩
set_option maxRecDepth 100000 in
set_option maxHeartbeats 4000000 in
theorem zgive_any (w : World) (a : Option Addr) (n c : Nat) (L : List Int) (g : Int) (hn : n = L.length) (h : RowAt w a c L) (hl : L.length ≤ 1000000) :
    Calls Try.prog 29 #[zv a n c, .int .i64 g] w fun r w' => ∃ a' n' c', r = .returned (.tuple #[zv a' n' c', .int .i64 (gaveR L g).1, .int .i64 (gaveR L g).2]) ∧ n' = (gaveL L g).length ∧ RowAt w' a' c' (gaveL L g) ∧ (∀ x ∈ blk a', x ∈ blk a ∨ w.heap.size ≤ x) ∧ Below w.heap.size w w' := by
  unfold zv
  have h0 : ∀ w', Below w.heap.size w w' → RowAt w' a c L ∧ (∀ x ∈ blk a, x ∈ blk a ∨ w.heap.size ≤ x) ∧ Below w.heap.size w w' := fun w' hb => ⟨h.below hb, fun x hx => .inl hx, hb⟩
  have H0 := Lib.hid h0
  cases L with
  | nil =>
    unfold gaveR gaveL
    obtain rfl : n = 0 := hn
    clear h h0
    go_enter Try.func29, Try.ntmps29
    go_wp2
    exact bodyPost_ret (v := .tuple #[.agg #[.slice a 0 c], .int .i64 (-1), .int .i64 5]) (by simp [results, Try.results29, go_sem]) rfl ⟨a, 0, c, rfl, rfl, H0.out _ (by repeat (first | exact Below.refl _ _ | refine Below.setCell ?_ (by simp) _ | refine Below.alloc ?_ (by simp) _))⟩
  | cons x t =>
    obtain ⟨b, off, rfl, e1⟩ := h.ints 0 (by simp)
    simp only [List.getElem_cons_zero, Nat.add_zero, List.length_cons] at e1 hn
    have hbl : b < w.heap.size := World.block_lt_of_cell? w _ e1
    have e1a : ∀ o p, ((w.alloc o).alloc p).cell? ⟨b, off, none⟩ = some (.int .i64 x) := fun o p => cell_below e1 (below_alloc2 _ _ _)
    unfold gaveR gaveL
    by_cases hx : x = g
    · subst hx
      simp only [if_true]
      cases t with
      | nil =>
        obtain rfl : n = 1 := hn
        clear h h0 H0
        go_enter Try.func29, Try.ntmps29
        go_wp2
        exact bodyPost_ret (v := .tuple #[.agg #[.slice none 0 0], .int .i64 (-1), .int .i64 0]) (by simp [results, Try.results29, go_sem]) rfl ⟨none, 0, 0, rfl, rfl, RowAt.nil _, fun x hx => by simp [blk] at hx, by repeat (first | exact Below.refl _ _ | refine Below.setCell ?_ (by simp) _ | refine Below.alloc ?_ (by simp) _)⟩
      | cons y t =>
        obtain ⟨i0, hi0, hz0, hz1, hz2⟩ := info_parts info_int
        have Hi := Lib.hid hi0; clear hi0
        have Hz0 := Lib.hid hz0; clear hz0
        have Hz1 := Lib.hid hz1; clear hz1
        have Hz2 := Lib.hid hz2; clear hz2
        simp only [List.length_cons] at hn hl
        obtain ⟨a', hsl, hrow, hbl2⟩ := slice_from under_ints size_int h 1 (by simp)
        simp only [List.length_cons, List.drop_succ_cons, List.drop_zero] at hsl hrow
        rw [← hn] at hsl
        have hsl2 : ∀ w, (Instr.slice 59 (.slice (some ⟨b, off, none⟩) n c) (some (.int .i64 1)) none none).run Try.prog w = .ok (.slice a' (n - 1) (c - 1)) w := hsl
        obtain ⟨b2, off2, hbo, e2⟩ := h.ints 1 (by simp)
        simp only [Option.some.injEq, Addr.mk.injEq, and_true] at hbo
        obtain ⟨rfl, rfl⟩ := hbo
        simp only [List.getElem_cons_succ, List.getElem_cons_zero] at e2
        obtain ⟨s0, hs0⟩ : ∃ s0, s0 = w.heap.size := ⟨_, rfl⟩
        have hO : Own w ((w.alloc (.cells #[.slice (some ⟨b, off, none⟩) n c] 63)).alloc (.cells #[.slice none 0 0] 63)) [CelA (s0 + 1) [.slice none 0 0], CelA s0 [.slice (some ⟨b, off, none⟩) n c]] :=
          ((Own.nil (Below.refl _ _)).alloc [.slice (some ⟨b, off, none⟩) n c] _ hs0).alloc [.slice none 0 0] _ (by simp [hs0])
        have H := Lib.hid (hrow.ints.below hO.bel)
        have HO := Lib.hid hO
        have hn1 : ((n : Int) == 1) = false := by rw [beq_eq_false_iff_ne]; omega
        have hn0 : ((n : Int) == 0) = false := by rw [beq_eq_false_iff_ne]; omega
        have hnt : n - 1 = (y :: t).length := by rw [List.length_cons]; omega
        have hlt1 : (1 : Int) < (n : Int) := by omega
        have hlt0 : 0 < n := by omega
        have HNT := Lib.hid hnt
        have HS := Lib.hid hs0
        have hsz : s0 + 1 < ((w.alloc (.cells #[.slice (some ⟨b, off, none⟩) n c] 63)).alloc (.cells #[.slice none 0 0] 63)).heap.size := by simp [hs0]
        have hl2 : (y :: t).length ≤ 1000000 := by rw [List.length_cons]; omega
        have HL := Lib.hid hl2
        have hb0 : b < s0 := by omega
        clear h h0 H0 hn hO hsl hrow hbl2 hnt hl hl2
        go_enter Try.func29, Try.ntmps29
        go_upto_region 5 with fail
        have e2a := fun o p => cell_below e2 (below_alloc2 w o p)
        rw [← hs0]
        generalize hW : (w.alloc (.cells #[.slice (some ⟨b, off, none⟩) n c] 63)).alloc (.cells #[.slice none 0 0] 63) = W at *
        have e3 : W.cell? ⟨b, off + 1, none⟩ = some (.int .i64 y) := by rw [← hW]; exact e2a _ _
        clear hW hs0 e1 e1a e2 e2a hbl
        obtain ⟨g0, f0⟩ := HO.out.cel 1 rfl 0 _ rfl
        have HST : Hid (CR (s0 + 1) 1 W W) := Lib.hid (CR.start (Room.of_blk (cs := [.slice none 0 0]) (HO.out.cel 0 rfl) hsz))
        have HK : Hid (∀ w', CR (s0 + 1) 1 W w' → w'.cell? ⟨s0, 0, none⟩ = some (.slice (some ⟨b, off, none⟩) n c) ∧ w'.cell? ⟨b, off + 1, none⟩ = some (.int .i64 y) ∧ CR (s0 + 1) 1 W w') := Lib.hid fun w' h => ⟨cell_chg g0 h.1 (by simp), cell_chg e3 h.1 (by simp; omega), h⟩
        have HSZ := Lib.hid hsz
        clear g0 f0 hsz e3
        go_wp2_with fail
        go_region_held3 (fun w' => w'.cell? ⟨s0, 0, none⟩ = some (.slice (some ⟨b, off, none⟩) n c) ∧ w'.cell? ⟨b, off + 1, none⟩ = some (.int .i64 y) ∧ CR (s0 + 1) 1 W w')
          ((refine HK.out _ ?_; repeat (first | exact HST.out | exact cr1 | exact lim2 (by assumption) | refine CR.drew ?_ | refine CR.drewN ?_ _ | refine CR.set ?_ _ _ | refine CR.step ?_ (below_alloc1 _ _))))
          ((refine step_append_row (l := []) (m := y :: t) (by rfl) _ _ 59 (by rfl) 3 i0 _ Try.underlying59 Hi.out Hz0.out Hz1.out Hz2.out rfl (by rfl) (by rfl) (by rfl) HNT.out (RowAt.zero' (by simp <;> omega)) (H.out.below (by repeat (first | exact Below.refl _ _ | refine Below.drew ?_ | refine below_drewN ?_ _ | refine Below.alloc ?_ (by simp) _))) (by rw [List.length_nil]; have := HL.out; omega) ?_; intro a1 c1 w1 k1 ch1 fr1
            have cr1 : CR (s0 + 1) 1 W w1 := CR.more ch1 (by repeat (first | exact HST.out | refine CR.drew ?_ | refine CR.drewN ?_ _ | refine CR.step ?_ (below_alloc1 _ _))) (by have := HSZ.out; simp [blk]; omega) (by have := HSZ.out; simp [blk])
            have fa1 : ∀ x ∈ blk a1, W.heap.size ≤ x := fun x hx => by
              rcases fr1 x hx with h | h
              · simp [blk] at h; omega
              · first | omega | (simp at h; omega)
            obtain ⟨v9, e9, m9⟩ := cr1.2.at 0 (by omega)))
        all_goals
          have hE : RowAt (w1.setCell ⟨s0 + 1, 0, none⟩ (.slice a1 (n - 1) c1)) a1 c1 (y :: t) ∧ (∀ x ∈ blk a1, x ∈ blk (some ⟨b, off, none⟩) ∨ w.heap.size ≤ x) ∧ Below w.heap.size w (w1.setCell ⟨s0 + 1, 0, none⟩ (.slice a1 (n - 1) c1)) := by
            have hc : Chg [s0 + 1] w1 (w1.setCell ⟨s0 + 1, 0, none⟩ (.slice a1 (n - 1) c1)) := (Chg.refl _ _).setCell _ (.inl (by simp))
            have h1 := HSZ.out
            have h2 := HS.out
            exact ⟨k1.chg hc (fun x hx => by have := fa1 x hx; simp; omega), fun x hx => by have := fa1 x hx; exact .inr (by omega), CR.bel (cr1.set 0 _) HO.out.bel (by omega)⟩
          have HE := Lib.hid hE
          rename_i hHeld
          clear hE hHeld k1 ch1 fr1 cr1 fa1
          go_wp2
          exact bodyPost_ret (v := .tuple #[.agg #[.slice a1 (n - 1) c1], .int .i64 y, .int .i64 0]) (by simp [results, Try.results29, go_sem, e9]) rfl ⟨a1, n - 1, c1, rfl, HNT.out, HE.out⟩
    · simp only [if_neg hx]
      have hne : (x == g) = false := by simpa using hx
      have hne2 : (x != g) = true := by simp [hx]
      have HX := Lib.hid hx
      have hn0 : ((n : Int) == 0) = false := by rw [beq_eq_false_iff_ne]; omega
      have hn1 : 0 < n := by omega
      have HN := Lib.hid hn
      clear h h0 hx hn
      go_enter Try.func29, Try.ntmps29
      go_wp2
      exact bodyPost_ret (v := .tuple #[.agg #[.slice (some ⟨b, off, none⟩) n c], .int .i64 (-1), .int .i64 5]) (by simp [results, Try.results29, go_sem]) rfl ⟨_, n, c, rfl, HN.out, H0.out _ (by repeat (first | exact Below.refl _ _ | refine Below.setCell ?_ (by simp) _ | refine Below.alloc ?_ (by simp) _))⟩
end Go.Proofs.Ythfleeimhnenpaa
