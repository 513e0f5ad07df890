/-
  The walks of the document's Else, Enabled.
-/
import Derived.Test.YtphjgfjfeehjhaaRfF
open Go Go.RowKit
set_option linter.unusedVariables false
namespace Go.Proofs.Ytphjgfjfeehjhaa
set_option maxRecDepth 100000 in
set_option maxHeartbeats 2000000 in
theorem xelse_any (w : World) (ka : Option Addr) (m kc : Nat) (ks : List Cs3) (hk : CellsAt w ka (c3s ks)) (hm : m = ks.length) (hm2 : m ≤ 100000) :
    Calls Try.prog 7 #[.slice ka m kc] w fun r w' => r = .returned (.int .i64 (elF 0 ks)) ∧ Below w.heap.size w w' := by
  have H := Lib.hid hk
  have HN := Lib.hid hm
  clear hk hm
  go_enter Try.func7, Try.ntmps7
  go_wp2_with fail
  go_loopw [7] (fun s wr => ∃ i : Nat, i ≤ m ∧ s = .int .i64 i ∧ Hid (Below w.heap.size w wr ∧ elF 0 ks = elF i (ks.drop i))) (fun s _ => m - (intOf s).toNat)
  case atStart => exact ⟨0, by omega, rfl, Lib.hid ⟨Below.refl _ _, rfl⟩⟩
  case round =>
    obtain ⟨i, hi, rfl, hr⟩ := hrel
    obtain ⟨r1, r2⟩ := hr.out
    by_cases hlt : i < m
    · have hil : i < ks.length := by have := HN.out; omega
      obtain ⟨b, off, rfl, q0, q1, q2⟩ := CellsAt.wt (l := ks) (H.out.below r1) i hil
      rw [elF_drop ks i hil] at r2
      obtain ⟨x, hx⟩ : ∃ x, x = ks[i] := ⟨_, rfl⟩
      rw [← hx] at q0 q1 q2 r2
      clear hx
      obtain ⟨k1, k2, k3⟩ := x
      simp only at q0 q1 q2 r2
      have hli : (i : Int) < (m : Int) := by omega
      have R1 := Lib.hid (below_on r1 (below_alloc1 wr (.cells #[.int .i64 k1, .int .i64 k2, .int .i64 k3] 33)))
      by_cases hyg : k1 = 2
      · rw [if_pos hyg] at r2
        subst hyg
        have R2 := Lib.hid r2
        clear hr r1 r2
        go_wp2
        go_ret
        exact ⟨by rw [R2.out]; rfl, R1.out⟩
      · rw [if_neg hyg] at r2
        have HZ := Lib.hid (And.intro R1.out r2)
        clear hr r1 r2
        go_wp2
        exact ⟨⟨i + 1, by omega, by go_num, HZ⟩, by simp [intOf]; omega⟩
    · have hge : ¬ (i : Int) < (m : Int) := by omega
      have hd : ks.drop i = [] := List.drop_of_length_le (by have := HN.out; omega)
      rw [hd] at r2
      have HF := Lib.hid (And.intro r1 r2)
      clear hr r1 r2 hd
      go_wp2
      go_ret
      exact ⟨by rw [HF.out.2]; rfl, HF.out.1⟩
set_option maxRecDepth 100000 in
set_option maxHeartbeats 4000000 in
theorem xenabled_any (w : World) (xa : Option Addr) (n xc : Nat) (xs : List Rf) (hx : CellsAt w xa (rfs xs)) (hn : n = xs.length) (ps : List Pl) (Cs : List Ch) (hA : Alike ps Cs xs) (ka : Option Addr) (m kc : Nat) (ks : List Cs3) (hk : CellsAt w ka (c3s ks)) (hm : m = ks.length) (hm2 : m ≤ 100000) (hok : CasOK n ks) (hL : Lim 100000 Cs) :
    Calls Try.prog 10 #[.slice ka m kc, .slice xa n xc] w fun r w' => ∃ a c, r = .returned (.slice a (enF (goesB ps Cs) 0 ks).length c) ∧ RowG 1 w' a c (enF (goesB ps Cs) 0 ks).length (intc (enF (goesB ps Cs) 0 ks)) ∧ (∀ x ∈ blk a, w.heap.size ≤ x) ∧ Below w.heap.size w w' := by
  have HX := Lib.hid hx
  have HK := Lib.hid hk
  have HN := Lib.hid hn
  have HM := Lib.hid hm
  have HO := Lib.hid hok
  have HA := Lib.hid hA
  have HL := Lib.hid hL
  clear hx hk hn hm hok hA hL
  obtain ⟨i0, hi0, hz0, hz1, hz2⟩ := info_parts info_int
  have Hi := Lib.hid hi0; clear hi0
  have Hz0 := Lib.hid hz0; clear hz0
  have Hz1 := Lib.hid hz1; clear hz1
  have Hz2 := Lib.hid hz2; clear hz2
  go_enter Try.func10, Try.ntmps10
  go_wp2_with fail
  go_loopw [5, 12] (fun s2 s8 wr => ∃ i : Nat, ∃ L : List Int, ∃ a c, i ≤ m ∧ L.length ≤ i ∧ s8 = .int .i64 i ∧ s2 = .slice a L.length c ∧ Hid (L ++ enF (goesB ps Cs) i (ks.drop i) = enF (goesB ps Cs) 0 ks ∧ RowG 1 wr a c L.length (intc L) ∧ (∀ x ∈ blk a, w.heap.size ≤ x) ∧ Below w.heap.size w wr)) (fun _ s8 _ => m - (intOf s8).toNat)
  case atStart => exact ⟨0, [], _, 0, by omega, by simp, rfl, rfl, Lib.hid ⟨rfl, RowG.zero (by simp), by simp [blk], below_alloc1 _ _⟩⟩
  case round =>
    obtain ⟨i, L, a, c, hi, hLi, rfl, rfl, hr⟩ := hrel
    obtain ⟨r1, r2, r3, r4⟩ := hr.out
    by_cases hlt : i < m
    · have hil : i < ks.length := by have := HM.out; omega
      obtain ⟨b, off, rfl, q0, q1, q2⟩ := CellsAt.wt (l := ks) (HK.out.below r4) i hil
      have hok := HO.out ks[i] (List.getElem_mem hil)
      rw [enF_drop _ ks i hil] at r1
      obtain ⟨x, hx⟩ : ∃ x, x = ks[i] := ⟨_, rfl⟩
      rw [← hx] at q0 q1 q2 hok r1
      clear hx
      obtain ⟨k1, k2, k3⟩ := x
      simp only at q0 q1 q2 hok
      obtain ⟨h0, h1, h2, -, -⟩ := hok
      obtain ⟨j, rfl⟩ : ∃ j : Nat, k2 = (j : Int) := ⟨k2.toNat, by omega⟩
      have hli : (i : Int) < (m : Int) := by omega
      have HB1 := Lib.hid (below_on r4 (below_alloc1 wr (.cells #[.int .i64 k1, .int .i64 (j : Int), .int .i64 k3] 33)))
      by_cases h22 : k1 = 2
      · subst h22
        have e : goesB ps Cs (2, (j : Int), k3) = false := by unfold goesB; split <;> simp
        rw [e] at r1
        have HR2 := Lib.hid (show L ++ enF (goesB ps Cs) (i + 1) (ks.drop (i + 1)) = enF (goesB ps Cs) 0 ks ∧ RowG 1 (wr.alloc (.cells #[.int .i64 2, .int .i64 (j : Int), .int .i64 k3] 33)) a c L.length (intc L) ∧ (∀ x ∈ blk a, w.heap.size ≤ x) ∧ Below w.heap.size w (wr.alloc (.cells #[.int .i64 2, .int .i64 (j : Int), .int .i64 k3] 33)) from ⟨by simpa using r1, r2.below (below_alloc1 _ _), r3, HB1.out⟩)
        clear hr r1 r2 r3 r4 h0 h1 h2 e
        go_wp2
        exact ⟨⟨i + 1, L, a, c, by omega, by omega, by go_num, rfl, HR2⟩, by simp [intOf]; omega⟩
      · have hjn : j < xs.length := by have := h2 h22; have := HN.out; omega
        have hjn' : (j : Int) < (n : Int) := by have := HN.out; omega
        have hxj : xs[j]? = some xs[j] := List.getElem?_eq_getElem hjn
        generalize xs[j] = X at hxj
        obtain ⟨b2, off2, rfl, x0, x1, x2, x3, x4⟩ := (HX.out.below r4).rf hxj
        have hb2l := World.block_lt_of_cell? _ _ x0
        have hgo := goesB_ref HA.out hxj k1 k3
        have hlim := HL.out X.C (List.mem_of_getElem? (HA.out.at hxj).1)
        rw [hgo] at r1
        obtain ⟨N, C, ba, bc, sa, sc, ra, rc⟩ := X
        obtain ⟨buf, S, Rv, cl⟩ := C
        simp only at x0 x1 x2 x3 x4 r1 hlim
        obtain ⟨n1, hn1⟩ : ∃ n, n = buf.length := ⟨_, rfl⟩
        obtain ⟨n2, hn2⟩ : ∃ n, n = S.length := ⟨_, rfl⟩
        obtain ⟨n3, hn3⟩ : ∃ n, n = Rv.length := ⟨_, rfl⟩
        unfold canR canS at r1
        simp only at r1
        rw [← hn1, ← hn2, ← hn3] at r1 hlim
        rw [← hn1] at x1
        rw [← hn2] at x2
        rw [← hn3] at x3
        obtain ⟨gb, hgb⟩ : ∃ gb, gb = (if k1 = 0 then (cl || (decide (0 < n2) || decide (0 < n1))) else if k1 = 1 then (cl || (decide (0 < n3) || decide (n1 < N))) else false) := ⟨_, rfl⟩
        rw [← hgb] at r1
        have HR := Lib.hid (show _ ∧ _ ∧ _ ∧ _ from ⟨r1, r2, r3, r4⟩)
        have hcase : (cl = true ∧ gb = true) ∨ (cl = false ∧ k1 = 0 ∧ gb = decide (0 < n2 + n1)) ∨ (cl = false ∧ k1 = 1 ∧ 0 < n3 ∧ gb = true) ∨ (cl = false ∧ k1 = 1 ∧ n3 = 0 ∧ gb = decide (n1 < N)) := by
          cases cl
          · rcases (by omega : k1 = 0 ∨ k1 = 1) with rfl | rfl
            · refine .inr (.inl ⟨rfl, rfl, ?_⟩)
              rw [hgb]; simp; by_cases h : 0 < n2 <;> by_cases h' : 0 < n1 <;> simp [h, h'] <;> omega
            · by_cases h : 0 < n3
              · exact .inr (.inr (.inl ⟨rfl, rfl, h, by rw [hgb]; simp [h]⟩))
              · exact .inr (.inr (.inr ⟨rfl, rfl, by omega, by rw [hgb]; simp [h]⟩))
          · refine .inl ⟨rfl, ?_⟩
            rcases (by omega : k1 = 0 ∨ k1 = 1) with rfl | rfl <;> (rw [hgb]; simp)
        clear hr r1 r2 r3 r4 h0 h1 h2 hgo hgb hn1 hn2 hn3 hxj hjn
        have HROW : Hid (∀ w', Below wr.heap.size wr w' → RowG 1 w' a c L.length (intc L) ∧ Below w.heap.size w w') := Lib.hid fun w' hb => ⟨HR.out.2.1.below hb, below_on HR.out.2.2.2 hb⟩
        have hcase2 : (cl = true ∧ gb = true) ∨ (cl = false ∧ k1 = 0 ∧ (0 : Int) < (n2 : Int) + (n1 : Int) ∧ gb = true) ∨ (cl = false ∧ k1 = 1 ∧ (0 : Int) < (n3 : Int) ∧ gb = true) ∨ (cl = false ∧ k1 = 1 ∧ n3 = 0 ∧ (n1 : Int) < (N : Int) ∧ gb = true) ∨ (cl = false ∧ k1 = 0 ∧ ¬ (0 : Int) < (n2 : Int) + (n1 : Int) ∧ gb = false) ∨ (cl = false ∧ k1 = 1 ∧ n3 = 0 ∧ ¬ (n1 : Int) < (N : Int) ∧ gb = false) := by
          rcases hcase with ⟨h1, h2⟩ | ⟨h1, h2, h3⟩ | ⟨h1, h2, h3, h4⟩ | ⟨h1, h2, h3, h4⟩
          · exact .inl ⟨h1, h2⟩
          · by_cases h : 0 < n2 + n1
            · exact .inr (.inl ⟨h1, h2, by omega, by rw [h3]; simpa using h⟩)
            · exact .inr (.inr (.inr (.inr (.inl ⟨h1, h2, by omega, by rw [h3]; simpa using h⟩))))
          · exact .inr (.inr (.inl ⟨h1, h2, by omega, h4⟩))
          · by_cases h : n1 < N
            · exact .inr (.inr (.inr (.inl ⟨h1, h2, h3, by omega, by rw [h4]; simpa using h⟩)))
            · exact .inr (.inr (.inr (.inr (.inr ⟨h1, h2, h3, by omega, by rw [h4]; simpa using h⟩))))
        have hl1 : (n2 : Int) + (n1 : Int) ≤ 200000 := by omega
        have hl2 : (0 : Int) ≤ (n2 : Int) + (n1 : Int) := by omega
        clear hcase HX HA HL HO
        rcases hcase2 with ⟨rfl, rfl⟩ | ⟨rfl, rfl, hq, rfl⟩ | ⟨rfl, rfl, hq, rfl⟩ | ⟨rfl, rfl, hq3, hq, rfl⟩ | ⟨rfl, rfl, hq, rfl⟩ | ⟨rfl, rfl, hq3, hq, rfl⟩
        iterate 4
          · try subst hq3
            go_wp2_with (at_builtin; refine wpList_append_rowG (m := 1) (ds := intc [(i : Int)]) rfl _ _ 39 rfl 3 i0 _ Try.underlying39 Hi.out Hz0.out Hz1.out Hz2.out rfl (by omega) (by omega) rfl rfl ((HROW.out _ (by repeat (first | exact Below.refl _ _ | refine Below.alloc ?_ (by simp <;> omega) _))).1) (CellsAt.new _ (intc [(i : Int)]) _ (by first | rfl | simp)) rfl (intc_one _) (by omega) ?_)
            intro a5 c5 w5 k5 ch5 f5
            have HE := Lib.hid (show (L ++ [(i : Int)]) ++ enF (goesB ps Cs) (i + 1) (ks.drop (i + 1)) = enF (goesB ps Cs) 0 ks ∧ RowG 1 w5 a5 c5 (L ++ [(i : Int)]).length (intc (L ++ [(i : Int)])) ∧ (∀ x ∈ blk a5, w.heap.size ≤ x) ∧ Below w.heap.size w w5 from
              ⟨by have := HR.out.1; simpa using this, by rw [List.length_append, intc_app]; exact k5, fun x hx => by
                rcases f5 x hx with h | h
                · exact HR.out.2.2.1 x h
                · have := HR.out.2.2.2.size; first | omega | (simp at h; omega), Chg.below (HROW.out _ (by repeat (first | exact Below.refl _ _ | refine Below.alloc ?_ (by simp <;> omega) _))).2 ch5 HR.out.2.2.1⟩)
            clear k5 ch5 f5 HR HROW
            go_wp2
            exact ⟨⟨i + 1, L ++ [(i : Int)], a5, c5, by omega, by simp; omega, by go_num, by simp, HE⟩, by simp [intOf]; omega⟩
        iterate 2
          · try subst hq3
            have HR2 := Lib.hid (fun (w' : World) (hb : Below wr.heap.size wr w') => (show L ++ enF (goesB ps Cs) (i + 1) (ks.drop (i + 1)) = enF (goesB ps Cs) 0 ks ∧ RowG 1 w' a c L.length (intc L) ∧ (∀ x ∈ blk a, w.heap.size ≤ x) ∧ Below w.heap.size w w' from ⟨by have := HR.out.1; simpa using this, (HROW.out _ hb).1, HR.out.2.2.1, (HROW.out _ hb).2⟩))
            clear HR HROW
            go_wp2
            exact ⟨⟨i + 1, L, a, c, by omega, by omega, by go_num, rfl, Lib.hid (HR2.out _ (by repeat (first | exact Below.refl _ _ | refine Below.alloc ?_ (by simp <;> omega) _)))⟩, by simp [intOf]; omega⟩
    · have hge : ¬ (i : Int) < (m : Int) := by omega
      have hd : ks.drop i = [] := List.drop_of_length_le (by have := HM.out; omega)
      rw [hd] at r1
      have r1' : L = enF (goesB ps Cs) 0 ks := by simpa [enF] using r1
      have HF := Lib.hid (show L = enF (goesB ps Cs) 0 ks ∧ RowG 1 wr a c L.length (intc L) ∧ (∀ x ∈ blk a, w.heap.size ≤ x) ∧ Below w.heap.size w wr from ⟨r1', r2, r3, r4⟩)
      clear hr r1 r2 r3 r4 hd r1'
      go_wp2
      go_ret
      obtain ⟨e1, e2, e3, e4⟩ := HF.out
      exact ⟨a, c, by rw [← e1]; rfl, by rw [← e1]; exact e2, e3, e4⟩
end Go.Proofs.Ytphjgfjfeehjhaa
