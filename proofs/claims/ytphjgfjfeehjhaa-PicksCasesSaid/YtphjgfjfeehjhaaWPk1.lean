/-
  The walks of goes, Enabled.
-/
import Derived.Test.YtphjgfjfeehjhaaPkF
open Go Go.RowKit
set_option linter.unusedVariables false
namespace Go.Proofs.Ytphjgfjfeehjhaa
theorem chRow {w0 w : World} {ps : List Pl} {Cs : List Ch} {R : List Asr} {la : Option Addr} {lc n : Nat} (h : Own w0 w (chs ps Cs ++ RowGA 1 la lc n (ptrs ps) :: R)) : RowG 1 w la lc n (ptrs ps) :=
  h.rowG (chs ps Cs).length (by rw [List.getElem?_append_right (Nat.le_refl _), Nat.sub_self]; rfl)
theorem chPtr {w0 w : World} {ps : List Pl} {Cs : List Ch} {R : List Asr} {la : Option Addr} {lc n : Nat} (h : Own w0 w (chs ps Cs ++ RowGA 1 la lc n (ptrs ps) :: R)) {i : Nat} {p : Pl} (hp : ps[i]? = some p) : ∃ b off, la = some ⟨b, off, none⟩ ∧ w.cell? ⟨b, off + i, none⟩ = some (.pointer (some ⟨p.1, 0, none⟩)) := (chRow h).cells i _ (ptrs_at ps i p hp)
set_option maxRecDepth 100000 in
set_option maxHeartbeats 2000000 in
theorem goes_any {w0 w : World} {ps : List Pl} {Cs : List Ch} {R : List Asr} {la : Option Addr} {lc n : Nat} (h : Own w0 w (chs ps Cs ++ RowGA 1 la lc n (ptrs ps) :: R)) (hn : n = ps.length) (hl : ps.length = Cs.length) (k1 k2 k3 : Int) (hk : (k1 = 0 ∨ k1 = 1 ∨ k1 = 2) ∧ 0 ≤ k2 ∧ (k1 ≠ 2 → k2 < n)) :
    Calls Try.prog 29 #[.agg #[.int .i64 k1, .int .i64 k2, .int .i64 k3], .slice la n lc] w fun r w' => r = .returned (.bool (goesB ps Cs (k1, k2, k3))) ∧ Below w.heap.size w w' := by
  obtain ⟨h0, h1, h2⟩ := hk
  obtain ⟨i, rfl⟩ : ∃ i : Nat, k2 = (i : Int) := ⟨k2.toNat, by omega⟩
  by_cases h3 : k1 = 2
  · subst h3
    have e : goesB ps Cs (2, (i : Int), k3) = false := by unfold goesB; split <;> simp
    rw [e]
    clear e h
    go_enter Try.func29, Try.ntmps29
    go_wp2
    go_ret
    exact ⟨rfl, by first | exact Below.refl _ _ | exact below_alloc1 _ _⟩
  · have hin : i < ps.length := by have := h2 h3; omega
    have hp : ps[i]? = some ps[i] := List.getElem?_eq_getElem hin
    have hC : Cs[i]? = some (Cs[i]'(by omega)) := List.getElem?_eq_getElem (by omega)
    generalize ps[i] = p at hp
    generalize Cs[i]'(by omega) = C at hC
    obtain ⟨b, off, rfl, g⟩ := chPtr h hp
    obtain ⟨R', hR, -⟩ := h.chPick hp hC
    have hin' : (i : Int) < (n : Int) := by omega
    have G := Lib.hid g
    have gb := World.block_lt_of_cell? _ _ g
    have hrl := fun (w' : World) (hb : Below w.heap.size w w') => ccanr_any (hR.step hb)
    have hsl := fun (w' : World) (hb : Below w.heap.size w w') => ccans_any (hR.step hb)
    have HRL := Lib.hid hrl
    have HSL := Lib.hid hsl
    have e : goesB ps Cs (k1, (i : Int), k3) = if k1 = 0 then canR C else if k1 = 1 then canS p.2 C else false := by unfold goesB; simp [hp, hC]
    rw [e]
    clear e hrl hsl hp hC h hR
    rcases (by omega : k1 = 0 ∨ k1 = 1) with rfl | rfl
    · simp only [if_true]
      clear h0 h2 h3
      go_enter Try.func29, Try.ntmps29
      go_wp2_with fail
      refine (HRL.out _ (by first | exact Below.refl _ _ | exact below_alloc1 _ _)).mono ?_
      rintro r w2 ⟨rfl, rfl⟩
      go_wp2
      go_ret
      exact ⟨rfl, by first | exact Below.refl _ _ | exact below_alloc1 _ _⟩
    · rw [if_neg (by decide), if_pos rfl]
      clear h0 h2 h3
      go_enter Try.func29, Try.ntmps29
      go_wp2_with fail
      refine (HSL.out _ (by first | exact Below.refl _ _ | exact below_alloc1 _ _)).mono ?_
      rintro r w2 ⟨rfl, m, rfl⟩
      go_wp2
      go_ret
      exact ⟨rfl, by first | exact below_drewN (Below.refl _ _) _ | exact below_drewN (below_alloc1 _ _) _⟩
set_option maxRecDepth 100000 in
set_option maxHeartbeats 2000000 in
theorem enabled_any {w0 w : World} {ps : List Pl} {Cs : List Ch} {R : List Asr} {la : Option Addr} {lc n : Nat} (h : Own w0 w (chs ps Cs ++ RowGA 1 la lc n (ptrs ps) :: R)) (hn : n = ps.length) (hl : ps.length = Cs.length) (ka : Option Addr) (m kc : Nat) (ks : List Cs3) (hk : CellsAt w ka (c3s ks)) (hm : m = ks.length) (hm2 : m ≤ 100000) (hok : CasOK n ks) :
    Calls Try.prog 9 #[.slice ka m kc, .slice la n lc] w fun r w' => ∃ a c, r = .returned (.slice a (enF (goesB ps Cs) 0 ks).length c) ∧ RowG 1 w' a c (enF (goesB ps Cs) 0 ks).length (intc (enF (goesB ps Cs) 0 ks)) ∧ (∀ x ∈ blk a, w.heap.size ≤ x) ∧ Below w.heap.size w w' := by
  have H := Lib.hid h
  have HK := Lib.hid hk
  have HN := Lib.hid hn
  have HM := Lib.hid hm
  have HO := Lib.hid hok
  clear h hk hn hm hok
  obtain ⟨i0, hi0, hz0, hz1, hz2⟩ := info_parts info_int
  have Hi := Lib.hid hi0; clear hi0
  have Hz0 := Lib.hid hz0; clear hz0
  have Hz1 := Lib.hid hz1; clear hz1
  have Hz2 := Lib.hid hz2; clear hz2
  go_enter Try.func9, Try.ntmps9
  go_wp2_with fail
  go_loopw [5, 10] (fun s2 s8 wr => ∃ i : Nat, ∃ L : List Int, ∃ a c, i ≤ m ∧ L.length ≤ i ∧ s8 = .int .i64 i ∧ s2 = .slice a L.length c ∧ Hid (L ++ enF (goesB ps Cs) i (ks.drop i) = enF (goesB ps Cs) 0 ks ∧ RowG 1 wr a c L.length (intc L) ∧ (∀ x ∈ blk a, w.heap.size ≤ x) ∧ Below w.heap.size w wr)) (fun _ s8 _ => m - (intOf s8).toNat)
  case atStart => exact ⟨0, [], none, 0, by omega, by simp, rfl, rfl, Lib.hid ⟨rfl, RowG.nil _ _, by simp [blk], Below.refl _ _⟩⟩
  case round =>
    obtain ⟨i, L, a, c, hi, hLi, rfl, rfl, hr⟩ := hrel
    obtain ⟨r1, r2, r3, r4⟩ := hr.out
    by_cases hlt : i < m
    · have hil : i < ks.length := by have := HM.out; omega
      obtain ⟨b, off, rfl, q0, q1, q2⟩ := CellsAt.wt (l := ks) (HK.out.below r4) i hil
      have hok := HO.out ks[i] (List.getElem_mem hil)
      rw [enF_drop _ ks i hil] at r1
      obtain ⟨x, hx⟩ : ∃ x, x = ks[i] := ⟨_, rfl⟩
      rw [← hx] at q0 q1 q2 hok r1
      clear hx
      obtain ⟨k1, k2, k3⟩ := x
      simp only at q0 q1 q2 hok
      have hg := fun (w' : World) (hb : Below wr.heap.size wr w') => goes_any ((H.out.step r4).step hb) HN.out hl k1 k2 k3 ⟨hok.1, hok.2.1, hok.2.2.1⟩
      have HG := Lib.hid hg
      have hli : (i : Int) < (m : Int) := by omega
      obtain ⟨g, hgb⟩ : ∃ g, g = goesB ps Cs (k1, k2, k3) := ⟨_, rfl⟩
      rw [← hgb] at HG r1
      have HR := Lib.hid (show _ ∧ _ ∧ _ ∧ _ from ⟨r1, r2, r3, r4⟩)
      clear hr r1 r2 r3 r4 hg hok hgb
      go_wp2_with fail
      refine (HG.out _ (below_alloc1 _ _)).mono ?_
      rintro r w3 ⟨rfl, b30⟩
      have b3 := below_on (below_alloc1 _ _) b30
      clear b30
      obtain ⟨r1, r2, r3, r4⟩ := HR.out
      have B3 := Lib.hid b3
      cases g with
      | false =>
        have HR2 := Lib.hid (show L ++ enF (goesB ps Cs) (i + 1) (ks.drop (i + 1)) = enF (goesB ps Cs) 0 ks ∧ RowG 1 w3 a c L.length (intc L) ∧ (∀ x ∈ blk a, w.heap.size ≤ x) ∧ Below w.heap.size w w3 from ⟨by simpa using r1, r2.below b3, r3, below_on r4 b3⟩)
        clear HR HG r1 r2 r3 r4 b3 B3
        go_wp2
        exact ⟨⟨i + 1, L, a, c, by omega, by omega, by go_num, rfl, HR2⟩, by simp [intOf]; omega⟩
      | true =>
        have HROW := Lib.hid (r2.below b3)
        have HX := Lib.hid (show (L ++ [(i : Int)]) ++ enF (goesB ps Cs) (i + 1) (ks.drop (i + 1)) = enF (goesB ps Cs) 0 ks ∧ (∀ x ∈ blk a, w.heap.size ≤ x) ∧ Below w.heap.size w w3 from ⟨by simpa using r1, r3, below_on r4 b3⟩)
        clear HR HG r1 r2 r3 r4 b3 B3
        go_wp2_with (at_builtin; refine wpList_append_rowG (m := 1) (ds := intc [(i : Int)]) rfl _ _ 39 rfl 3 i0 _ Try.underlying39 Hi.out Hz0.out Hz1.out Hz2.out rfl (by omega) (by omega) rfl rfl (HROW.out.below (below_alloc1 _ _)) (CellsAt.new _ (intc [(i : Int)]) _ rfl) rfl (intc_one _) (by omega) ?_)
        intro a5 c5 w5 k5 ch5 f5
        have HE := Lib.hid (show (L ++ [(i : Int)]) ++ enF (goesB ps Cs) (i + 1) (ks.drop (i + 1)) = enF (goesB ps Cs) 0 ks ∧ RowG 1 w5 a5 c5 (L ++ [(i : Int)]).length (intc (L ++ [(i : Int)])) ∧ (∀ x ∈ blk a5, w.heap.size ≤ x) ∧ Below w.heap.size w w5 from
          ⟨HX.out.1, by rw [List.length_append, intc_app]; exact k5, fun x hx => by
            rcases f5 x hx with h | h
            · exact HX.out.2.1 x h
            · have := HX.out.2.2.size; first | omega | (simp at h; omega), Chg.below (below_on HX.out.2.2 (below_alloc1 _ _)) ch5 HX.out.2.1⟩)
        clear k5 ch5 f5
        go_wp2
        exact ⟨⟨i + 1, L ++ [(i : Int)], a5, c5, by omega, by simp; omega, by go_num, by simp, HE⟩, by simp [intOf]; omega⟩
    · have hge : ¬ (i : Int) < (m : Int) := by omega
      have hd : ks.drop i = [] := List.drop_of_length_le (by have := HM.out; omega)
      rw [hd] at r1
      have r1' : L = enF (goesB ps Cs) 0 ks := by simpa [enF] using r1
      have HF := Lib.hid (show L = enF (goesB ps Cs) 0 ks ∧ RowG 1 wr a c L.length (intc L) ∧ (∀ x ∈ blk a, w.heap.size ≤ x) ∧ Below w.heap.size w wr from ⟨r1', r2, r3, r4⟩)
      clear hr r1 r2 r3 r4 hd r1'
      go_wp2
      go_ret
      obtain ⟨e1, e2, e3, e4⟩ := HF.out
      exact ⟨a, c, by rw [← e1]; rfl, by rw [← e1]; exact e2, e3, e4⟩
end Go.Proofs.Ytphjgfjfeehjhaa
