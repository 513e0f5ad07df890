/-
  The walk of the document's Push.
-/
import Derived.Test.YtljdckipnbdknaaWItems
open Go Go.RowKit
set_option linter.unusedVariables false
namespace Go.Proofs.Ytljdckipnbdknaa
/-- Push, item by item. -/
def pF (l : List It) (x : It) : Nat → List It × Bool
  | 0 => ([], false)
  | i + 1 => if (pF l x i).2 = false ∧ x.at_ < (gI l i).at_ then ((pF l x i).1 ++ [x] ++ [gI l i], true) else ((pF l x i).1 ++ [gI l i], (pF l x i).2)
def xPush (l : List It) (x : It) : List It := if (pF l x l.length).2 then (pF l x l.length).1 else (pF l x l.length).1 ++ [x]
theorem pF_len (l : List It) (x : It) : ∀ i, (pF l x i).1.length = i + if (pF l x i).2 then 1 else 0
  | 0 => rfl
  | i + 1 => by
    have := pF_len l x i
    rw [pF]; split
    · rename_i h; rw [h.1] at this; simp at this ⊢; omega
    · simp only [List.length_append, List.length_singleton]; omega
/-- What a call on the document's heap answers. -/
def XH (w : World) (q : Nat) (l : List It) (r : Ending) (w' : World) : Prop :=
  ∃ v', r = .returned (xhv v' q) ∧ ItemsT 48 w' v' l ∧ (∀ y ∈ v'.ownBlock.toList, w.heap.size ≤ y) ∧ Below w.heap.size w w'
set_option maxRecDepth 100000 in
set_option maxHeartbeats 2000000 in
theorem xpush_any (w : World) (v : Value) (l : List It) (q : Nat) (at_ id : Int) (h : ItemsT 48 w v l) (hl : l.length ≤ 100000) (hq : q ≤ 100000) :
    Calls Try.prog 7 #[xhv v q, .int .u64 at_, .int .i64 id] w (XH w (q + 1) (xPush l ⟨at_, q, id⟩)) := by
  obtain ⟨a0, c0, rfl, hc0⟩ := h.slice
  obtain ⟨n, hn⟩ : ∃ n, n = l.length := ⟨_, rfl⟩
  rw [← hn] at h hl hc0 ⊢
  have H := Lib.hid h
  have HN := Lib.hid hn
  have hwq : IntKind.u64.wrap ((q : Int) + 1) = (q : Int) + 1 := by rw [IntKind.wrap_u64]; omega
  obtain ⟨X, hX⟩ : ∃ X : It, X = ⟨at_, q, id⟩ := ⟨_, rfl⟩
  have hXa : X.at_ = at_ := by rw [hX]
  rw [← hX]
  have hPL := pF_len l X
  have HPL := Lib.hid hPL
  have hstep : ∀ i, i < n → (pF l X (i + 1)) = if (pF l X i).2 = false ∧ at_ < (gI l i).at_ then ((pF l X i).1 ++ [X] ++ [gI l i], true) else ((pF l X i).1 ++ [gI l i], (pF l X i).2) := fun i _ => by rw [pF, hXa]
  have HSTEP := Lib.hid hstep
  have hend : xPush l X = if (pF l X n).2 then (pF l X n).1 else (pF l X n).1 ++ [X] := by unfold xPush; rw [hn]
  have HEND := Lib.hid hend
  have hp0 : pF l X 0 = ([], false) := rfl
  have HP0 := Lib.hid hp0
  have HX := Lib.hid hX
  clear h hn hX hXa hPL hstep hend hp0
  unfold xhv
  obtain ⟨i0, hi0, hz0, hz1, hz2⟩ := info_parts info_xitem
  have Hi := Lib.hid hi0; clear hi0
  have Hz0 := Lib.hid hz0; clear hz0
  have Hz1 := Lib.hid hz1; clear hz1
  have Hz2 := Lib.hid hz2; clear hz2
  obtain ⟨s0, hs0⟩ : ∃ s0, s0 = w.heap.size := ⟨_, rfl⟩
  have hO : Own w ((((w.alloc (.cells #[.slice a0 n c0, .int .u64 (q : Int)] 30)).alloc (.cells #[.slice none 0 0, .int .u64 0] 30)).alloc (.cells #[] 48)).alloc (.cells #[.int .u64 at_, .int .u64 (q : Int), .int .i64 id] 48)) [CelA (s0 + 1 + 1 + 1) [.int .u64 at_, .int .u64 (q : Int), .int .i64 id], ItA 48 (.slice (some ⟨s0 + 1 + 1, 0, none⟩) 0 0) [], CelA (s0 + 1) [.slice none 0 0, .int .u64 0], CelA s0 [.slice a0 n c0, .int .u64 (q : Int)]] :=
    ((((Own.nil (Below.refl _ _)).alloc [.slice a0 n c0, .int .u64 (q : Int)] _ hs0).alloc [.slice none 0 0, .int .u64 0] _ (by simp [hs0])).noItems _ (by simp [hs0])).alloc [.int .u64 at_, .int .u64 (q : Int), .int .i64 id] _ (by simp [hs0])
  have HO := Lib.hid (hO.pick 1 rfl)
  have HS := Lib.hid hs0
  clear hO
  go_enter Try.func7, Try.ntmps7
  go_upto_region 3 with fail
  rw [← hs0]
  clear hs0
  generalize (((w.alloc (.cells #[.slice a0 n c0, .int .u64 (q : Int)] 30)).alloc (.cells #[.slice none 0 0, .int .u64 0] 30)).alloc (.cells #[] 48)).alloc (.cells #[.int .u64 at_, .int .u64 (q : Int), .int .i64 id] 48) = W at *
  obtain ⟨g0, -⟩ := HO.out.cel 3 rfl 0 _ rfl
  go_wp2_with fail
  go_loopw [7, 9, 21] (fun t7 t9 c wr => ∃ i : Nat, ∃ a7 n7 c7 d, i ≤ n ∧ n7 ≤ i + 1 ∧ c = .int .i64 i ∧ t9 = .bool d ∧ t7 = .slice a7 n7 c7 ∧ Hid (d = (pF l X i).2 ∧ n7 = (pF l X i).1.length ∧ Own w wr [ItA 48 (.slice a7 n7 c7) (pF l X i).1, CelA (s0 + 1 + 1 + 1) [.int .u64 at_, .int .u64 (q : Int), .int .i64 id], CelA (s0 + 1) [.slice none 0 0, .int .u64 0], CelA s0 [.slice a0 n c0, .int .u64 (q : Int)]])) (fun _ _ c _ => n - (intOf c).toNat)
  case atStart => exact ⟨0, _, _, _, false, by omega, by omega, rfl, rfl, rfl, rfl, rfl, HO.out⟩
  case round =>
    obtain ⟨i, a7, n7, c7, d, hi, hn7, rfl, rfl, rfl, hr⟩ := hrel
    obtain ⟨x0, -⟩ := hr.out.2.2.cel 1 rfl 0 _ rfl
    obtain ⟨x1, -⟩ := hr.out.2.2.cel 1 rfl 1 _ rfl
    obtain ⟨x2, -⟩ := hr.out.2.2.cel 1 rfl 2 _ rfl
    by_cases hlt : i < n
    · obtain ⟨g, rfl, d1, d2, d3⟩ := (H.out.below hr.out.2.2.bel).cells i (by have := HN.out; omega)
      have hst := HSTEP.out i hlt
      have hpl := HPL.out (i + 1)
      have hli : (i : Int) < (n : Int) := by omega
      obtain ⟨y, hy⟩ : ∃ y, y = gI l i := ⟨_, rfl⟩
      rw [← hy] at d1 d2 d3 hst
      obtain ⟨ya, ys, yi⟩ := y
      simp only at d1 d2 d3 hst
      clear hy g0
      obtain ⟨P, hP⟩ : ∃ P, P = pF l X i := ⟨_, rfl⟩
      rw [← hP] at hst hr
      have hO2 : Own w (wr.alloc (.cells #[.int .u64 ya, .int .u64 ys, .int .i64 yi] 48)) [ItA 48 (.slice a7 n7 c7) P.1, CelA wr.heap.size [.int .u64 ya, .int .u64 ys, .int .i64 yi], CelA (s0 + 1 + 1 + 1) [.int .u64 at_, .int .u64 (q : Int), .int .i64 id], CelA (s0 + 1) [.slice none 0 0, .int .u64 0], CelA s0 [.slice (some ⟨g, 0, none⟩) n c0, .int .u64 (q : Int)]] := (hr.out.2.2.alloc [.int .u64 ya, .int .u64 ys, .int .i64 yi] 48 rfl).pick 1 rfl
      have hown0 : ∀ o, ((wr.alloc (.cells #[.int .u64 ya, .int .u64 ys, .int .i64 yi] 48)).alloc o).ownsRow 0 48 3 (.slice a7 n7 c7) n7 (icells P.1) := fun o => by
        have h := (hO2.step (below_alloc1 _ o)).items 0 rfl
        unfold ItemsT at h
        rw [← hr.out.2.1] at h; exact h
      have HOWN := Lib.hid hown0
      have HO2 := Lib.hid hO2
      have HN7 := Lib.hid hr.out.2.1
      have hdP := hr.out.1
      have hx0 : ∀ o, (wr.alloc o).cell? ⟨s0 + 1 + 1 + 1, 0, none⟩ = some (.int .u64 at_) := fun o => cell_below x0 (below_alloc1 _ _)
      have hx1 : ∀ o, (wr.alloc o).cell? ⟨s0 + 1 + 1 + 1, 1, none⟩ = some (.int .u64 (q : Int)) := fun o => cell_below x1 (below_alloc1 _ _)
      have hx2 : ∀ o, (wr.alloc o).cell? ⟨s0 + 1 + 1 + 1, 2, none⟩ = some (.int .i64 id) := fun o => cell_below x2 (below_alloc1 _ _)
      have hcase : (P.2 = false ∧ at_ < ya ∧ pF l X (i + 1) = (P.1 ++ [X] ++ [⟨ya, ys, yi⟩], true)) ∨ (P.2 = false ∧ ¬ at_ < ya ∧ pF l X (i + 1) = (P.1 ++ [⟨ya, ys, yi⟩], P.2)) ∨ (P.2 = true ∧ pF l X (i + 1) = (P.1 ++ [⟨ya, ys, yi⟩], P.2)) := by
        cases hp : P.2 with
        | false =>
          by_cases hc : at_ < ya
          · exact .inl ⟨rfl, hc, by rw [hst, if_pos ⟨hp, hc⟩]⟩
          · exact .inr (.inl ⟨rfl, hc, by rw [hst, if_neg (fun h => hc h.2), hp]⟩)
        | true => exact .inr (.inr ⟨rfl, by rw [hst, if_neg (fun h => by rw [hp] at h; cases h.1), hp]⟩)
      clear hown0 hO2 hst hpl hr x0 x1 x2 hP
      rcases hcase with ⟨p1, p2, p3⟩ | ⟨p1, p2, p3⟩ | ⟨p1, p3⟩
      · rw [p1] at hdP
        subst hdP
        have HNX := Lib.hid p3
        clear p3 p1
        go_wp2_with (at_builtin; go_loud (refine wpList_append_lies _ rfl _ _ 28 rfl 0 48 i0 _ 3 24 Try.underlying28 Hi.out Hz0.out Hz1.out Hz2.out rfl (by decide) _ n7 (icells P.1) rfl (HOWN.out _) ⟨wr.heap.size + 1, 0, none⟩ 1 1 [.int .u64 at_, .int .u64 (q : Int), .int .i64 id] rfl rfl (three_new _ _ _ _ _ (by simp)) (by simp [Value.oneCell']) (by omega) (by unfold maxLen; omega) (by omega) (Nat.zero_le _) (wr.heap.size + 1 + 1) (by simp) ?_))
        intro g9 c9 w2 hown hgr hlies hglt
        have hA := (HO2.out.appItem HN7.out (x := ⟨at_, q, id⟩) hown hgr (by simpa using hlies))
        rw [← HX.out] at hA
        obtain ⟨j0, -⟩ := hA.cel 1 rfl 0 _ rfl
        obtain ⟨j1, -⟩ := hA.cel 1 rfl 1 _ rfl
        obtain ⟨j2, -⟩ := hA.cel 1 rfl 2 _ rfl
        have hn8 : n7 + 1 = (P.1 ++ [X]).length := by rw [List.length_append, ← HN7.out]; rfl
        have HN8 := Lib.hid hn8
        have hown1 : ∀ o, (w2.alloc o).ownsRow 0 48 3 (.slice (some ⟨g9, 0, none⟩) (n7 + 1) c9) (n7 + 1) (icells (P.1 ++ [X])) := fun o => by
          have h := (hA.step (below_alloc1 _ o)).items 0 rfl
          unfold ItemsT at h
          rw [← hn8] at h; exact h
        have HOWN1 := Lib.hid hown1
        have HA := Lib.hid hA
        clear hA hn8 hown1 hown hgr hlies hglt hx0 hx1 hx2
        go_wp2_with (at_builtin; go_loud (refine wpList_append_lies _ rfl _ _ 28 rfl 0 48 i0 _ 3 24 Try.underlying28 Hi.out Hz0.out Hz1.out Hz2.out rfl (by decide) _ (n7 + 1) (icells (P.1 ++ [X])) rfl (HOWN1.out _) ⟨w2.heap.size, 0, none⟩ 1 1 [.int .u64 ya, .int .u64 ys, .int .i64 yi] rfl rfl (three_new _ _ _ _ _ (by simp)) (by simp [Value.oneCell']) (by omega) (by unfold maxLen; omega) (by omega) (Nat.zero_le _) (w2.heap.size + 1) (by simp) ?_))
        intro g8 c8 w3 hown hgr hlies hglt
        have hA3 := (HA.out.appItem HN8.out (x := ⟨ya, ys, yi⟩) hown hgr (by simpa using hlies))
        have hA2 : Own w w3 [ItA 48 (.slice (some ⟨g8, 0, none⟩) (n7 + 1 + 1) c8) (P.1 ++ [X] ++ [⟨ya, ys, yi⟩]), CelA (s0 + 1 + 1 + 1) [.int .u64 at_, .int .u64 (q : Int), .int .i64 id], CelA (s0 + 1) [.slice none 0 0, .int .u64 0], CelA s0 [.slice (some ⟨g, 0, none⟩) n c0, .int .u64 (q : Int)]] := (hA3.pick 1 rfl).drop
        have HF : Hid (true = (pF l X (i + 1)).2 ∧ n7 + 1 + 1 = (pF l X (i + 1)).1.length ∧ Own w w3 [ItA 48 (.slice (some ⟨g8, 0, none⟩) (n7 + 1 + 1) c8) (pF l X (i + 1)).1, CelA (s0 + 1 + 1 + 1) [.int .u64 at_, .int .u64 (q : Int), .int .i64 id], CelA (s0 + 1) [.slice none 0 0, .int .u64 0], CelA s0 [.slice (some ⟨g, 0, none⟩) n c0, .int .u64 (q : Int)]]) := by
          rw [HNX.out]; exact ⟨rfl, by rw [List.length_append, ← HN8.out]; rfl, hA2⟩
        have hn9 : n7 + 1 + 1 ≤ i + 1 + 1 := by
          have h1 := HPL.out (i + 1)
          rw [← HF.out.2.1, ← HF.out.1] at h1
          simp at h1; omega
        clear hA3 hA2 hown hgr hlies hglt j0 j1 j2
        go_wp2
        exact ⟨⟨i + 1, _, _, _, true, by omega, hn9, by go_num, rfl, rfl, HF⟩, by simp [intOf]; omega⟩
      · rw [p1] at hdP p3
        subst hdP
        have HNX := Lib.hid p3
        clear p3 p1
        go_wp2_with (at_builtin; go_loud (refine wpList_append_lies _ rfl _ _ 28 rfl 0 48 i0 _ 3 24 Try.underlying28 Hi.out Hz0.out Hz1.out Hz2.out rfl (by decide) _ n7 (icells P.1) rfl (HOWN.out _) ⟨wr.heap.size + 1, 0, none⟩ 1 1 [.int .u64 ya, .int .u64 ys, .int .i64 yi] rfl rfl (three_new _ _ _ _ _ (by simp)) (by simp [Value.oneCell']) (by omega) (by unfold maxLen; omega) (by omega) (Nat.zero_le _) (wr.heap.size + 1 + 1) (by simp) ?_))
        intro g9 c9 w2 hown hgr hlies hglt
        have hA := (HO2.out.appItem HN7.out (x := ⟨ya, ys, yi⟩) hown hgr (by simpa using hlies))
        have hA2 : Own w w2 [ItA 48 (.slice (some ⟨g9, 0, none⟩) (n7 + 1) c9) (P.1 ++ [⟨ya, ys, yi⟩]), CelA (s0 + 1 + 1 + 1) [.int .u64 at_, .int .u64 (q : Int), .int .i64 id], CelA (s0 + 1) [.slice none 0 0, .int .u64 0], CelA s0 [.slice (some ⟨g, 0, none⟩) n c0, .int .u64 (q : Int)]] := (hA.pick 1 rfl).drop
        have HF : Hid (false = (pF l X (i + 1)).2 ∧ n7 + 1 = (pF l X (i + 1)).1.length ∧ Own w w2 [ItA 48 (.slice (some ⟨g9, 0, none⟩) (n7 + 1) c9) (pF l X (i + 1)).1, CelA (s0 + 1 + 1 + 1) [.int .u64 at_, .int .u64 (q : Int), .int .i64 id], CelA (s0 + 1) [.slice none 0 0, .int .u64 0], CelA s0 [.slice (some ⟨g, 0, none⟩) n c0, .int .u64 (q : Int)]]) := by
          rw [HNX.out]; exact ⟨rfl, by rw [List.length_append, ← HN7.out]; rfl, hA2⟩
        clear hA hA2 hown hgr hlies hglt
        go_wp2
        exact ⟨⟨i + 1, _, _, _, false, by omega, by omega, by go_num, rfl, rfl, HF⟩, by simp [intOf]; omega⟩
      · rw [p1] at hdP p3
        subst hdP
        have HNX := Lib.hid p3
        clear p3 p1
        go_wp2_with (at_builtin; go_loud (refine wpList_append_lies _ rfl _ _ 28 rfl 0 48 i0 _ 3 24 Try.underlying28 Hi.out Hz0.out Hz1.out Hz2.out rfl (by decide) _ n7 (icells P.1) rfl (HOWN.out _) ⟨wr.heap.size + 1, 0, none⟩ 1 1 [.int .u64 ya, .int .u64 ys, .int .i64 yi] rfl rfl (three_new _ _ _ _ _ (by simp)) (by simp [Value.oneCell']) (by omega) (by unfold maxLen; omega) (by omega) (Nat.zero_le _) (wr.heap.size + 1 + 1) (by simp) ?_))
        intro g9 c9 w2 hown hgr hlies hglt
        have hA := (HO2.out.appItem HN7.out (x := ⟨ya, ys, yi⟩) hown hgr (by simpa using hlies))
        have hA2 : Own w w2 [ItA 48 (.slice (some ⟨g9, 0, none⟩) (n7 + 1) c9) (P.1 ++ [⟨ya, ys, yi⟩]), CelA (s0 + 1 + 1 + 1) [.int .u64 at_, .int .u64 (q : Int), .int .i64 id], CelA (s0 + 1) [.slice none 0 0, .int .u64 0], CelA s0 [.slice (some ⟨g, 0, none⟩) n c0, .int .u64 (q : Int)]] := (hA.pick 1 rfl).drop
        have HF : Hid (true = (pF l X (i + 1)).2 ∧ n7 + 1 = (pF l X (i + 1)).1.length ∧ Own w w2 [ItA 48 (.slice (some ⟨g9, 0, none⟩) (n7 + 1) c9) (pF l X (i + 1)).1, CelA (s0 + 1 + 1 + 1) [.int .u64 at_, .int .u64 (q : Int), .int .i64 id], CelA (s0 + 1) [.slice none 0 0, .int .u64 0], CelA s0 [.slice (some ⟨g, 0, none⟩) n c0, .int .u64 (q : Int)]]) := by
          rw [HNX.out]; exact ⟨rfl, by rw [List.length_append, ← HN7.out]; rfl, hA2⟩
        clear hA hA2 hown hgr hlies hglt
        go_wp2
        exact ⟨⟨i + 1, _, _, _, true, by omega, by omega, by go_num, rfl, rfl, HF⟩, by simp [intOf]; omega⟩
    · obtain rfl : n = i := by omega
      obtain ⟨P, hP⟩ : ∃ P, P = pF l X n := ⟨_, rfl⟩
      rw [← hP] at hr HEND
      have HN7 := Lib.hid hr.out.2.1
      have HOK := Lib.hid hr.out.2.2
      have hd := hr.out.1
      clear hr hP g0
      cases d with
      | true =>
        have HF := HOK
        have hPd : (if P.2 = true then P.1 else P.1 ++ [X]) = P.1 := if_pos hd.symm
        have HPD := Lib.hid hPd
        clear hd hPd x0 x1 x2
        have hend : ∀ v0 v1, (fun W => ItemsT 48 W (.slice a7 n7 c7) (xPush l X) ∧ (∀ y ∈ (Value.slice a7 n7 c7).ownBlock.toList, w.heap.size ≤ y) ∧ Below w.heap.size w W) ((wr.setCell ⟨s0 + 1, 0, none⟩ v0).setCell ⟨s0 + 1, 1, none⟩ v1) := fun v0 v1 => by
          have hO3 := (HF.out.setAt 2 rfl 0 v0).setAt 2 rfl 1 v1
          obtain ⟨F, ⟨hF, h1⟩, h2⟩ := hO3.fact 0 rfl
          subst hF
          rw [HEND.out, HPD.out]
          exact ⟨h1, h2, hO3.bel⟩
        obtain ⟨k1, -⟩ := HF.out.cel 3 rfl 1 _ rfl
        obtain ⟨r0, t0⟩ := HF.out.cel 2 rfl 0 _ rfl
        obtain ⟨r1, t1⟩ := HF.out.cel 2 rfl 1 _ rfl
        have HE := Lib.hid hend
        clear hend
        go_wp2
        exact bodyPost_ret (v := .agg #[.slice a7 n7 c7, .int .u64 ((q : Int) + 1)]) (by simp [results, Try.results7, go_sem, r0, r1]) rfl (show XH _ _ _ _ _ from ⟨.slice a7 n7 c7, by simp [xhv], HE.out _ _⟩)
      | false =>
        have hPd : (if P.2 = true then P.1 else P.1 ++ [X]) = P.1 ++ [X] := if_neg (by rw [← hd]; simp)
        have HPD := Lib.hid hPd
        have hown0 : ∀ o, (wr.alloc o).ownsRow 0 48 3 (.slice a7 n7 c7) n7 (icells P.1) := fun o => by
          have h := (HOK.out.step (below_alloc1 _ o)).items 0 rfl
          unfold ItemsT at h
          rw [← HN7.out] at h; exact h
        have HOWN := Lib.hid hown0
        clear hd hPd hown0
        go_wp2_with (at_builtin; go_loud (refine wpList_append_lies _ rfl _ _ 28 rfl 0 48 i0 _ 3 24 Try.underlying28 Hi.out Hz0.out Hz1.out Hz2.out rfl (by decide) _ n7 (icells P.1) rfl (HOWN.out _) ⟨wr.heap.size, 0, none⟩ 1 1 [.int .u64 at_, .int .u64 (q : Int), .int .i64 id] rfl rfl (three_new _ _ _ _ _ (by simp)) (by simp [Value.oneCell']) (by omega) (by unfold maxLen; omega) (by omega) (Nat.zero_le _) (wr.heap.size + 1) (by simp) ?_))
        intro g9 c9 w2 hown hgr hlies hglt
        have hA := (HOK.out.appItem HN7.out (x := ⟨at_, q, id⟩) hown hgr (by simpa using hlies))
        rw [← HX.out] at hA
        have HF := Lib.hid hA
        clear hA hown hgr hlies hglt x0 x1 x2
        have hend : ∀ v0 v1, (fun W => ItemsT 48 W (.slice (some ⟨g9, 0, none⟩) (n7 + 1) c9) (xPush l X) ∧ (∀ y ∈ (Value.slice (some ⟨g9, 0, none⟩) (n7 + 1) c9).ownBlock.toList, w.heap.size ≤ y) ∧ Below w.heap.size w W) ((w2.setCell ⟨s0 + 1, 0, none⟩ v0).setCell ⟨s0 + 1, 1, none⟩ v1) := fun v0 v1 => by
          have hO3 := (HF.out.setAt 2 rfl 0 v0).setAt 2 rfl 1 v1
          obtain ⟨F, ⟨hF, h1⟩, h2⟩ := hO3.fact 0 rfl
          subst hF
          rw [HEND.out, HPD.out]
          exact ⟨h1, h2, hO3.bel⟩
        obtain ⟨k1, -⟩ := HF.out.cel 3 rfl 1 _ rfl
        obtain ⟨r0, t0⟩ := HF.out.cel 2 rfl 0 _ rfl
        obtain ⟨r1, t1⟩ := HF.out.cel 2 rfl 1 _ rfl
        have HE := Lib.hid hend
        clear hend
        go_wp2
        exact bodyPost_ret (v := .agg #[.slice (some ⟨g9, 0, none⟩) (n7 + 1) c9, .int .u64 ((q : Int) + 1)]) (by simp [results, Try.results7, go_sem, r0, r1]) rfl (show XH _ _ _ _ _ from ⟨.slice (some ⟨g9, 0, none⟩) (n7 + 1) c9, by simp [xhv], HE.out _ _⟩)
end Go.Proofs.Ytljdckipnbdknaa
