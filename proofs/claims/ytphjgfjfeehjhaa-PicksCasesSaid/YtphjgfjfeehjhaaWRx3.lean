/-
  The document's channel: Close, Drop.
-/
import Derived.Test.YtphjgfjfeehjhaaWRx2
import Derived.Test.YtphjgfjfeehjhaaWCh8
open Go Go.RowKit
set_option linter.unusedVariables false
namespace Go.Proofs.Ytphjgfjfeehjhaa
set_option maxRecDepth 100000 in
set_option maxHeartbeats 2000000 in
theorem xclose_over (w : World) (N : Nat) (buf : List Int) (S Rv : List Wt) (ba : Option Addr) (bc : Nat) (sa : Option Addr) (sc : Nat) (ra : Option Addr) (rc : Nat) :
    Calls Try.prog 24 #[xcv N ⟨buf, S, Rv, true⟩ ba bc sa sc ra rc] w fun r w' => r = .returned (.tuple #[xcv N ⟨buf, S, Rv, true⟩ ba bc sa sc ra rc, .slice none 0 0, .slice none 0 0, .int .i64 10]) ∧ Below w.heap.size w w' := by
  unfold xcv
  simp only
  generalize buf.length = n1
  generalize S.length = n2
  generalize Rv.length = n3
  go_enter Try.func24, Try.ntmps24
  go_wp2
  exact bodyPost_ret (by simp [results, Try.results24, go_sem]) rfl ⟨rfl, by repeat (first | exact Below.refl _ _ | refine Below.setCell ?_ (by first | (simp; done) | (simp; omega)) _ | refine Below.alloc ?_ (by first | (simp; done) | (simp; omega)) _)⟩
set_option maxRecDepth 100000 in
set_option maxHeartbeats 2000000 in
theorem xclose_any (w : World) (N : Nat) (buf : List Int) (S Rv : List Wt) (ba : Option Addr) (bc : Nat) (sa : Option Addr) (sc : Nat) (ra : Option Addr) (rc : Nat) :
    Calls Try.prog 24 #[xcv N ⟨buf, S, Rv, false⟩ ba bc sa sc ra rc] w fun r w' => r = .returned (.tuple #[xcv N ⟨buf, [], [], true⟩ ba bc none 0 none 0, .slice ra Rv.length rc, .slice sa S.length sc, .int .i64 0]) ∧ Below w.heap.size w w' := by
  unfold xcv
  simp only [List.length_nil]
  generalize buf.length = n1
  generalize S.length = n2
  generalize Rv.length = n3
  obtain ⟨s0, hs0⟩ : ∃ s0, s0 = w.heap.size := ⟨_, rfl⟩
  have hO : Own w ((w.alloc (.cells #[.int .i64 (N : Int), .slice ba n1 bc, .slice sa n2 sc, .slice ra n3 rc, .bool false] 53)).alloc (.cells #[.int .i64 0, .slice none 0 0, .slice none 0 0, .slice none 0 0, .bool false] 53)) [CelA (s0 + 1) [.int .i64 0, .slice none 0 0, .slice none 0 0, .slice none 0 0, .bool false], CelA s0 [.int .i64 (N : Int), .slice ba n1 bc, .slice sa n2 sc, .slice ra n3 rc, .bool false]] :=
    ((Own.nil (Below.refl _ _)).alloc [.int .i64 (N : Int), .slice ba n1 bc, .slice sa n2 sc, .slice ra n3 rc, .bool false] _ hs0).alloc [.int .i64 0, .slice none 0 0, .slice none 0 0, .slice none 0 0, .bool false] _ (by simp [hs0])
  have HO := Lib.hid hO
  have HS := Lib.hid hs0
  clear hO
  go_enter Try.func24, Try.ntmps24
  go_upto_region 1 with fail
  rw [← hs0]
  generalize hW : (w.alloc (.cells #[.int .i64 (N : Int), .slice ba n1 bc, .slice sa n2 sc, .slice ra n3 rc, .bool false] 53)).alloc (.cells #[.int .i64 0, .slice none 0 0, .slice none 0 0, .slice none 0 0, .bool false] 53) = W at *
  clear hW hs0
  obtain ⟨x0, xm0⟩ := HO.out.cel 1 rfl 0 _ rfl
  obtain ⟨x1, xm1⟩ := HO.out.cel 1 rfl 1 _ rfl
  obtain ⟨x2, xm2⟩ := HO.out.cel 1 rfl 2 _ rfl
  obtain ⟨x3, xm3⟩ := HO.out.cel 1 rfl 3 _ rfl
  obtain ⟨x4, xm4⟩ := HO.out.cel 1 rfl 4 _ rfl
  obtain ⟨y0, ym0⟩ := HO.out.cel 0 rfl 0 _ rfl
  obtain ⟨y1, ym1⟩ := HO.out.cel 0 rfl 1 _ rfl
  obtain ⟨y2, ym2⟩ := HO.out.cel 0 rfl 2 _ rfl
  obtain ⟨y3, ym3⟩ := HO.out.cel 0 rfl 3 _ rfl
  obtain ⟨y4, ym4⟩ := HO.out.cel 0 rfl 4 _ rfl
  have hl0 := World.block_lt_of_cell? W _ x0
  have hl1 := World.block_lt_of_cell? W _ y0
  have hcl : ∀ wf, Chg [s0 + 1] W wf → Below w.heap.size w wf := fun wf c => Chg.below HO.out.bel c (fun x hx => by have := HS.out; simp at hx; omega)
  have HCL := Lib.hid hcl
  clear hcl
  go_wp2_with fail
  go_region
  all_goals
    go_wp2_with fail
    refine bodyPost_ret (v := .tuple #[.agg #[.int .i64 (N : Int), .slice ba n1 bc, .slice none 0 0, .slice none 0 0, .bool true], .slice ra n3 rc, .slice sa n2 sc, .int .i64 0]) (by simp [results, Try.results24, go_sem, y0, y1, y2, y3, y4]) rfl ⟨rfl, ?_⟩
    exact HCL.out _ (by repeat (first | (with_reducible exact Chg.refl _ _) | ((with_reducible refine Chg.setIn ?_ ?_); simp) | (with_reducible refine Chg.drew ?_) | (with_reducible refine Chg.drewN ?_ _)))
set_option maxRecDepth 100000 in
set_option maxHeartbeats 4000000 in
theorem xdrop_any (w : World) (N : Nat) (C : Ch) (g : Int) (ba : Option Addr) (bc : Nat) (sa : Option Addr) (sc : Nat) (ra : Option Addr) (rc : Nat) (h : RefAt w ba bc sa sc ra rc C) (hs : C.S.length ≤ 100000) (hr : C.R.length ≤ 100000) :
    Calls Try.prog 34 #[xcv N C ba bc sa sc ra rc, .int .i64 g] w fun r w' => ∃ a' c' b' d', r = .returned (xcv N ⟨C.buf, dropW g C.S, dropW g C.R, C.cl⟩ ba bc a' c' b' d') ∧
      RowG 3 w' a' c' (dropW g C.S).length (wtc (dropW g C.S)) ∧ RowG 3 w' b' d' (dropW g C.R).length (wtc (dropW g C.R)) ∧ (∀ x ∈ blk a' ++ blk b', w.heap.size ≤ x) ∧ Below w.heap.size w w' := by
  obtain ⟨buf, S, Rv, cl⟩ := C
  simp only at hs hr
  unfold xcv
  simp only
  obtain ⟨-, hS, hR⟩ := h
  simp only at hS hR
  have HSR := Lib.hid hS
  have HRR := Lib.hid hR
  clear hS hR
  generalize buf.length = n1
  obtain ⟨n2, hn2⟩ : ∃ n, n = S.length := ⟨_, rfl⟩
  obtain ⟨n3, hn3⟩ : ∃ n, n = Rv.length := ⟨_, rfl⟩
  rw [← hn2] at hs ⊢
  rw [← hn3] at hr ⊢
  have HN2 := Lib.hid hn2
  have HN3 := Lib.hid hn3
  clear hn2 hn3
  obtain ⟨i0, hi0, hz0, hz1, hz2⟩ := info_parts info_xw
  have Hi := Lib.hid hi0; clear hi0
  have Hz0 := Lib.hid hz0; clear hz0
  have Hz1 := Lib.hid hz1; clear hz1
  have Hz2 := Lib.hid hz2; clear hz2
  obtain ⟨s0, hs0⟩ : ∃ s0, s0 = w.heap.size := ⟨_, rfl⟩
  have hO : Own w ((w.alloc (.cells #[.int .i64 (N : Int), .slice ba n1 bc, .slice sa n2 sc, .slice ra n3 rc, .bool cl] 53)).alloc (.cells #[.int .i64 0, .slice none 0 0, .slice none 0 0, .slice none 0 0, .bool false] 53)) [CelA (s0 + 1) [.int .i64 0, .slice none 0 0, .slice none 0 0, .slice none 0 0, .bool false], CelA s0 [.int .i64 (N : Int), .slice ba n1 bc, .slice sa n2 sc, .slice ra n3 rc, .bool cl]] :=
    ((Own.nil (Below.refl _ _)).alloc [.int .i64 (N : Int), .slice ba n1 bc, .slice sa n2 sc, .slice ra n3 rc, .bool cl] _ hs0).alloc [.int .i64 0, .slice none 0 0, .slice none 0 0, .slice none 0 0, .bool false] _ (by simp [hs0])
  have hO2 := (hO.add (below_alloc1 _ (.cells #[] 66)) (A := RowGA 3 (some ⟨s0 + 1 + 1, 0, none⟩) 0 0 []) (F := [s0 + 1 + 1]) ⟨rfl, RowG.zero (by simp [hs0])⟩ (fun x hx => by simp at hx; simp; omega)).add (below_alloc1 _ (.cells #[] 66)) (A := RowGA 3 (some ⟨s0 + 1 + 1 + 1, 0, none⟩) 0 0 []) (F := [s0 + 1 + 1 + 1]) ⟨rfl, RowG.zero (by simp [hs0])⟩ (fun x hx => by simp at hx; simp; omega)
  have HO := Lib.hid (hO2.pick 1 rfl)
  have HS := Lib.hid hs0
  clear hO hO2
  go_enter Try.func34, Try.ntmps34
  go_upto_region 2 with fail
  rw [← hs0]
  generalize hW : (((w.alloc (.cells #[.int .i64 (N : Int), .slice ba n1 bc, .slice sa n2 sc, .slice ra n3 rc, .bool cl] 53)).alloc (.cells #[.int .i64 0, .slice none 0 0, .slice none 0 0, .slice none 0 0, .bool false] 53)).alloc (.cells #[] 66)).alloc (.cells #[] 66) = W at *
  clear hW hs0
  obtain ⟨x2, -⟩ := HO.out.cel 3 rfl 2 _ rfl
  have HST : Hid (Own w W [RowGA 3 (some ⟨s0 + 1 + 1, 0, none⟩) 0 (dropW g (S.take 0)).length (wtc (dropW g (S.take 0))), RowGA 3 (some ⟨s0 + 1 + 1 + 1, 0, none⟩) 0 0 [], CelA (s0 + 1) [.int .i64 0, .slice none 0 0, .slice none 0 0, .slice none 0 0, .bool false], CelA s0 [.int .i64 (N : Int), .slice ba n1 bc, .slice sa n2 sc, .slice ra n3 rc, .bool cl]]) := Lib.hid HO.out
  clear HO
  go_wp2_with fail
  go_loopw [5, 16] (fun sr si wr => ∃ i : Nat, ∃ (a : Option Addr) (c : Nat), i ≤ n2 ∧ sr = .slice a (dropW g (S.take i)).length c ∧ si = .int .i64 i ∧ Hid (Own w wr [RowGA 3 a c (dropW g (S.take i)).length (wtc (dropW g (S.take i))), RowGA 3 (some ⟨s0 + 1 + 1 + 1, 0, none⟩) 0 0 [], CelA (s0 + 1) [.int .i64 0, .slice none 0 0, .slice none 0 0, .slice none 0 0, .bool false], CelA s0 [.int .i64 (N : Int), .slice ba n1 bc, .slice sa n2 sc, .slice ra n3 rc, .bool cl]])) (fun _ si _ => n2 - (intOf si).toNat)
  case atStart => exact ⟨0, some ⟨s0 + 1 + 1, 0, none⟩, 0, by omega, rfl, rfl, HST⟩
  case round =>
    obtain ⟨i, a, c, hi, rfl, rfl, hr⟩ := hrel
    by_cases hlt : i < n2
    · have hil : i < S.length := by have := HN2.out; omega
      obtain ⟨b, off, rfl, e1, e2, e3⟩ := (HSR.out.below hr.out.bel).cells.wt i hil
      have hli : (i : Int) < (n2 : Int) := by omega
      have hsn := take_snoc_w S i hil
      have hds := dropW_snoc g (S.take i) (S[i]'hil)
      rw [← hsn] at hds
      have hlen : (dropW g (S.take i)).length ≤ 100000 := by have := dropW_len g (S.take i); rw [List.length_take] at this; omega
      generalize S[i]'hil = y at *
      obtain ⟨y1, y2, y3⟩ := y
      simp only at e1 e2 e3 hds
      clear hsn hil
      by_cases hyg : y1 = g
      · rw [if_pos hyg] at hds
        have hb : (y1 != g) = false := by simp [hyg]
        have hb2 : (y1 == g) = true := by simp [hyg]
        have HZ : Hid (Own w (wr.alloc (.cells #[.int .i64 y1, .int .i64 y2, .int .i64 y3] 66)) [RowGA 3 a c (dropW g (S.take (i + 1))).length (wtc (dropW g (S.take (i + 1)))), RowGA 3 (some ⟨s0 + 1 + 1 + 1, 0, none⟩) 0 0 [], CelA (s0 + 1) [.int .i64 0, .slice none 0 0, .slice none 0 0, .slice none 0 0, .bool false], CelA s0 [.int .i64 (N : Int), .slice ba n1 bc, .slice (some ⟨b, off, none⟩) n2 sc, .slice ra n3 rc, .bool cl]]) := Lib.hid (by rw [hds]; exact hr.out.step (below_alloc1 _ _))
        have HLE : Hid ((dropW g (S.take (i + 1))).length = (dropW g (S.take i)).length) := Lib.hid (by rw [hds])
        clear hds hyg hr
        go_wp2
        exact ⟨⟨i + 1, a, c, by omega, by rw [HLE.out], by go_num, HZ⟩, by simp [intOf]; omega⟩
      · rw [if_neg hyg] at hds
        have hb : (y1 != g) = true := by simp [hyg]
        have hb2 : (y1 == g) = false := by simp [hyg]
        have H5 := Lib.hid (hr.out.step (below_alloc1 wr (.cells #[.int .i64 y1, .int .i64 y2, .int .i64 y3] 66)))
        have HDS := Lib.hid hds
        clear hds hyg hr
        obtain ⟨m, hm⟩ : ∃ m, m = (dropW g (S.take i)).length := ⟨_, rfl⟩
        rw [← hm] at H5 hlen ⊢
        have HMM := Lib.hid hm
        clear hm
        go_wp2_with (at_builtin; refine wpList_append_rowG (n := m) (m := 1) (cs := wtc (dropW g (S.take i))) (ds := wtc [(y1, y2, y3)]) rfl _ _ 51 rfl 66 i0 _ Try.underlying51 Hi.out Hz0.out Hz1.out Hz2.out rfl (by omega) (by omega) rfl rfl ((H5.out.rowG 0 rfl).below (below_alloc1 _ _)) (CellsAt.new _ (wtc [(y1, y2, y3)]) _ (by first | rfl | simp)) rfl (wtc_one _) (by omega) ?_)
        intro a5 c5 w5 k5 ch5 f5
        have h6 := Own.rowTurnC ch5 k5 (fun x hx => by have := f5 x hx; simpa using this) (H5.out.step (below_alloc1 _ _))
        rw [← wtc_app, ← HDS.out] at h6
        have hml : (dropW g (S.take (i + 1))).length = m + 1 := by
          have := (h6.rowG 0 rfl).1
          rw [wtc_len] at this; omega
        have HZ : Hid (Own w w5 [RowGA 3 a5 c5 (dropW g (S.take (i + 1))).length (wtc (dropW g (S.take (i + 1)))), RowGA 3 (some ⟨s0 + 1 + 1 + 1, 0, none⟩) 0 0 [], CelA (s0 + 1) [.int .i64 0, .slice none 0 0, .slice none 0 0, .slice none 0 0, .bool false], CelA s0 [.int .i64 (N : Int), .slice ba n1 bc, .slice (some ⟨b, off, none⟩) n2 sc, .slice ra n3 rc, .bool cl]]) := Lib.hid (by rw [hml]; exact h6)
        have HLE := Lib.hid hml
        clear h6 k5 ch5 f5 hml
        go_wp2
        exact ⟨⟨i + 1, a5, c5, by omega, by rw [HLE.out], by go_num, HZ⟩, by simp [intOf]; omega⟩
    · have hge : ¬ (i : Int) < (n2 : Int) := by omega
      have htk : S.take i = S := List.take_of_length_le (by have := HN2.out; omega)
      have HE := Lib.hid (show Own w wr [RowGA 3 a c (dropW g S).length (wtc (dropW g S)), RowGA 3 (some ⟨s0 + 1 + 1 + 1, 0, none⟩) 0 0 [], CelA (s0 + 1) [.int .i64 0, .slice none 0 0, .slice none 0 0, .slice none 0 0, .bool false], CelA s0 [.int .i64 (N : Int), .slice ba n1 bc, .slice sa n2 sc, .slice ra n3 rc, .bool cl]] from by have := hr.out; rw [htk] at this; exact this)
      have HTK : Hid ((dropW g (S.take i)).length = (dropW g S).length) := Lib.hid (by rw [htk])
      clear hr htk hlt
      obtain ⟨aS, cS, haS, hcS⟩ : ∃ aS cS, aS = a ∧ cS = c := ⟨a, c, rfl, rfl⟩
      rw [← haS, ← hcS] at HE ⊢
      obtain ⟨x3, -⟩ := HE.out.cel 3 rfl 3 _ rfl
      have HST2 : Hid (Own w wr [RowGA 3 (some ⟨s0 + 1 + 1 + 1, 0, none⟩) 0 (dropW g (Rv.take 0)).length (wtc (dropW g (Rv.take 0))), RowGA 3 aS cS (dropW g S).length (wtc (dropW g S)), CelA (s0 + 1) [.int .i64 0, .slice none 0 0, .slice none 0 0, .slice none 0 0, .bool false], CelA s0 [.int .i64 (N : Int), .slice ba n1 bc, .slice sa n2 sc, .slice ra n3 rc, .bool cl]]) := Lib.hid (HE.out.pick 1 rfl)
      obtain ⟨m2, hm2⟩ : ∃ m, m = (dropW g (S.take i)).length := ⟨_, rfl⟩
      rw [← hm2] at HTK ⊢
      have HMS := Lib.hid HTK.out
      clear HE haS hcS hm2 HTK
      go_wp2_with fail
      go_loopw [6, 32] (fun sr si wr => ∃ i : Nat, ∃ (a : Option Addr) (c : Nat), i ≤ n3 ∧ sr = .slice a (dropW g (Rv.take i)).length c ∧ si = .int .i64 i ∧ Hid (Own w wr [RowGA 3 a c (dropW g (Rv.take i)).length (wtc (dropW g (Rv.take i))), RowGA 3 aS cS (dropW g S).length (wtc (dropW g S)), CelA (s0 + 1) [.int .i64 0, .slice none 0 0, .slice none 0 0, .slice none 0 0, .bool false], CelA s0 [.int .i64 (N : Int), .slice ba n1 bc, .slice sa n2 sc, .slice ra n3 rc, .bool cl]])) (fun _ si _ => n3 - (intOf si).toNat)
      case atStart => exact ⟨0, some ⟨s0 + 1 + 1 + 1, 0, none⟩, 0, by omega, rfl, rfl, HST2⟩
      case round =>
        obtain ⟨i, a, c, hi, rfl, rfl, hr⟩ := hrel
        by_cases hlt : i < n3
        · have hil : i < Rv.length := by have := HN3.out; omega
          obtain ⟨b, off, rfl, e1, e2, e3⟩ := (HRR.out.below hr.out.bel).cells.wt i hil
          have hli : (i : Int) < (n3 : Int) := by omega
          have hsn := take_snoc_w Rv i hil
          have hds := dropW_snoc g (Rv.take i) (Rv[i]'hil)
          rw [← hsn] at hds
          have hlen : (dropW g (Rv.take i)).length ≤ 100000 := by have := dropW_len g (Rv.take i); rw [List.length_take] at this; omega
          generalize Rv[i]'hil = y at *
          obtain ⟨y1, y2, y3⟩ := y
          simp only at e1 e2 e3 hds
          clear hsn hil
          by_cases hyg : y1 = g
          · rw [if_pos hyg] at hds
            have hb : (y1 != g) = false := by simp [hyg]
            have hb2 : (y1 == g) = true := by simp [hyg]
            have HZ : Hid (Own w (wr.alloc (.cells #[.int .i64 y1, .int .i64 y2, .int .i64 y3] 66)) [RowGA 3 a c (dropW g (Rv.take (i + 1))).length (wtc (dropW g (Rv.take (i + 1)))), RowGA 3 aS cS (dropW g S).length (wtc (dropW g S)), CelA (s0 + 1) [.int .i64 0, .slice none 0 0, .slice none 0 0, .slice none 0 0, .bool false], CelA s0 [.int .i64 (N : Int), .slice ba n1 bc, .slice sa n2 sc, .slice (some ⟨b, off, none⟩) n3 rc, .bool cl]]) := Lib.hid (by rw [hds]; exact hr.out.step (below_alloc1 _ _))
            have HLE : Hid ((dropW g (Rv.take (i + 1))).length = (dropW g (Rv.take i)).length) := Lib.hid (by rw [hds])
            clear hds hyg hr
            go_wp2
            exact ⟨⟨i + 1, a, c, by omega, by rw [HLE.out], by go_num, HZ⟩, by simp [intOf]; omega⟩
          · rw [if_neg hyg] at hds
            have hb : (y1 != g) = true := by simp [hyg]
            have hb2 : (y1 == g) = false := by simp [hyg]
            have H5 := Lib.hid (hr.out.step (below_alloc1 wr (.cells #[.int .i64 y1, .int .i64 y2, .int .i64 y3] 66)))
            have HDS := Lib.hid hds
            clear hds hyg hr
            obtain ⟨m, hm⟩ : ∃ m, m = (dropW g (Rv.take i)).length := ⟨_, rfl⟩
            rw [← hm] at H5 hlen ⊢
            have HMM := Lib.hid hm
            clear hm
            go_wp2_with (at_builtin; refine wpList_append_rowG (n := m) (m := 1) (cs := wtc (dropW g (Rv.take i))) (ds := wtc [(y1, y2, y3)]) rfl _ _ 51 rfl 66 i0 _ Try.underlying51 Hi.out Hz0.out Hz1.out Hz2.out rfl (by omega) (by omega) rfl rfl ((H5.out.rowG 0 rfl).below (below_alloc1 _ _)) (CellsAt.new _ (wtc [(y1, y2, y3)]) _ (by first | rfl | simp)) rfl (wtc_one _) (by omega) ?_)
            intro a5 c5 w5 k5 ch5 f5
            have h6 := Own.rowTurnC ch5 k5 (fun x hx => by have := f5 x hx; simpa using this) (H5.out.step (below_alloc1 _ _))
            rw [← wtc_app, ← HDS.out] at h6
            have hml : (dropW g (Rv.take (i + 1))).length = m + 1 := by
              have := (h6.rowG 0 rfl).1
              rw [wtc_len] at this; omega
            have HZ : Hid (Own w w5 [RowGA 3 a5 c5 (dropW g (Rv.take (i + 1))).length (wtc (dropW g (Rv.take (i + 1)))), RowGA 3 aS cS (dropW g S).length (wtc (dropW g S)), CelA (s0 + 1) [.int .i64 0, .slice none 0 0, .slice none 0 0, .slice none 0 0, .bool false], CelA s0 [.int .i64 (N : Int), .slice ba n1 bc, .slice sa n2 sc, .slice (some ⟨b, off, none⟩) n3 rc, .bool cl]]) := Lib.hid (by rw [hml]; exact h6)
            have HLE := Lib.hid hml
            clear h6 k5 ch5 f5 hml
            go_wp2
            exact ⟨⟨i + 1, a5, c5, by omega, by rw [HLE.out], by go_num, HZ⟩, by simp [intOf]; omega⟩
        · have hge : ¬ (i : Int) < (n3 : Int) := by omega
          have htk : Rv.take i = Rv := List.take_of_length_le (by have := HN3.out; omega)
          have HE := Lib.hid (show Own w wr [RowGA 3 a c (dropW g Rv).length (wtc (dropW g Rv)), RowGA 3 aS cS (dropW g S).length (wtc (dropW g S)), CelA (s0 + 1) [.int .i64 0, .slice none 0 0, .slice none 0 0, .slice none 0 0, .bool false], CelA s0 [.int .i64 (N : Int), .slice ba n1 bc, .slice sa n2 sc, .slice ra n3 rc, .bool cl]] from by have := hr.out; rw [htk] at this; exact this)
          have HTK : Hid ((dropW g (Rv.take i)).length = (dropW g Rv).length) := Lib.hid (by rw [htk])
          clear hr htk hlt
          obtain ⟨aR, cR, haR⟩ : ∃ aR cR, aR = a ∧ cR = c := ⟨a, c, rfl, rfl⟩
          obtain ⟨z2, u2⟩ := HE.out.cel 3 rfl 2 _ rfl
          obtain ⟨z3, u3⟩ := HE.out.cel 3 rfl 3 _ rfl
          obtain ⟨z0, u0⟩ := HE.out.cel 3 rfl 0 _ rfl
          obtain ⟨z1, u1⟩ := HE.out.cel 3 rfl 1 _ rfl
          obtain ⟨z4, u4⟩ := HE.out.cel 3 rfl 4 _ rfl
          obtain ⟨y0, v0⟩ := HE.out.cel 2 rfl 0 _ rfl
          obtain ⟨y1, v1⟩ := HE.out.cel 2 rfl 1 _ rfl
          obtain ⟨y2, v2⟩ := HE.out.cel 2 rfl 2 _ rfl
          obtain ⟨y3, v3⟩ := HE.out.cel 2 rfl 3 _ rfl
          obtain ⟨y4, v4⟩ := HE.out.cel 2 rfl 4 _ rfl
          have hl0 := World.block_lt_of_cell? wr _ z0
          have hl1 := World.block_lt_of_cell? wr _ y0
          have hcl : ∀ v2 v3 t0 t1 t2 t3 t4, Own w (((((((wr.setCell ⟨s0, 2, none⟩ v2).setCell ⟨s0, 3, none⟩ v3).setCell ⟨s0 + 1, 0, none⟩ t0).setCell ⟨s0 + 1, 1, none⟩ t1).setCell ⟨s0 + 1, 2, none⟩ t2).setCell ⟨s0 + 1, 3, none⟩ t3).setCell ⟨s0 + 1, 4, none⟩ t4) [RowGA 3 a c (dropW g Rv).length (wtc (dropW g Rv)), RowGA 3 aS cS (dropW g S).length (wtc (dropW g S))] := fun v2 v3 t0 t1 t2 t3 t4 => by
            have o := ((((((HE.out.setAt 3 rfl 2 v2).setAt 3 rfl 3 v3).setAt 2 rfl 0 t0).setAt 2 rfl 1 t1).setAt 2 rfl 2 t2).setAt 2 rfl 3 t3).setAt 2 rfl 4 t4
            exact (o.pick 3 rfl).drop.pick 2 rfl |>.drop
          have HCL := Lib.hid hcl
          clear hcl HE haR
          obtain ⟨m3, hm3⟩ : ∃ m, m = (dropW g (Rv.take i)).length := ⟨_, rfl⟩
          rw [← hm3] at HTK ⊢
          clear hm3
          go_wp2
          refine bodyPost_ret (v := .agg #[.int .i64 (N : Int), .slice ba n1 bc, .slice aS m2 cS, .slice a m3 c, .bool cl]) (by simp [results, Try.results34, go_sem, y0, y1, y2, y3, y4]) rfl ⟨aS, cS, a, c, by rw [HTK.out, HMS.out], ?_⟩
          have o := HCL.out (.slice aS m2 cS) (.slice a m3 c) (.int .i64 (N : Int)) (.slice ba n1 bc) (.slice aS m2 cS) (.slice a m3 c) (.bool cl)
          obtain ⟨F1, ⟨rfl, r1⟩, g1⟩ := o.fact 0 rfl
          obtain ⟨F2, ⟨rfl, r2⟩, g2⟩ := o.fact 1 rfl
          exact ⟨r2, r1, fun x hx => by
            rcases hx with h | h
            · exact g2 x h
            · exact g1 x h, o.bel⟩
end Go.Proofs.Ytphjgfjfeehjhaa
