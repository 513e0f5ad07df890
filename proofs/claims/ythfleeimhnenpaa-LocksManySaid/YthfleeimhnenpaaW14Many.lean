/-
  The walk of the law LocksMany.
-/
import Derived.Test.YthfleeimhnenpaaWLk2
import Derived.Test.YthfleeimhnenpaaInts
import Derived.Test.YthfleeimhnenpaaInArgs
import Derived.Maps.OwnOps
import Derived.WalkArith
import Derived.MapKept
import Derived.WideMake
import Derived.OpenShut
import Derived.LoopTactic
open Go Go.RowKit Go.Maps
set_option linter.unusedVariables false
namespace Go.Proofs.Ythfleeimhnenpaa.locksMany
theorem lawI : Keyed Try.prog 3 := int_keyed Try.underlying3
theorem zeroI (w : World) : (zeroValue 3).run Try.prog w = .ok (.int .i64 0) w := by kernel_rfl
/-- A map of numbers: what is in it doesn't matter. -/
def MapN (w : World) (r n : Nat) : Prop := ∃ D, w.ownsMap (H := Unit) Try.prog 3 (plainElem Try.prog 3) r n D
def MapA (r n : Nat) : Asr where
  at_ w F := F = [r] ∧ MapN w r n
  lt := by rintro w F ⟨rfl, D, h⟩ x hx; simp at hx; subst hx; exact h.lt
  chg := by
    rintro w w' F G ⟨rfl, D, h⟩ c hd
    have hl := h.lt
    obtain ⟨es, clock, hb, hF, hs, hD⟩ := h
    exact ⟨rfl, D, es, clock, by rw [c.block r hl (hd r (by simp))]; exact hb, hF, hs, hD⟩
theorem Own.mapUp {w0 w w' : World} {r n : Nat} {R : List Asr} (h : Own w0 w (MapA r n :: R)) (hg : w.grownBy w' (some r)) (hm : MapN w' r (n + 1)) : Own w0 w' (MapA r (n + 1) :: R) := by
  refine Own.turn (As := [MapA r n]) (As' := [MapA r (n + 1)]) (R := R) h (fun F hF => ?_)
  obtain ⟨rfl, h1⟩ := sep_one.1 hF
  exact ⟨[r], sep_one.2 ⟨rfl, hm⟩, (grownBy_chg hg).mono (by simp), fun x hx => .inl hx⟩
theorem and_7i (x : Int) : bits BinOp.and IntKind.i64 x 7 = x % 8 := by
  show IntKind.i64.wrap (((BitVec.ofInt 64 x) &&& (BitVec.ofInt 64 7)).toNat : Int) = x % 8
  have e : (BitVec.ofInt 64 7).toNat = 7 := by decide
  rw [BitVec.toNat_and, e, show (7 : Nat) = 2 ^ 3 - 1 from rfl, Nat.and_two_pow_sub_one_eq_mod, IntKind.wrap_i64, BitVec.toNat_ofInt]; omega
/-- Behind some calls: who has it, who waits. -/
def St (w1 w : World) (p r i : Nat) (L : List Int) : Prop := L.length ≤ i ∧ (∀ x ∈ L, 0 ≤ x ∧ x < 8) ∧ ∃ n, n ≤ i ∧ Own w1 w [MapA r n, LockA p L]
theorem St.up {w1 w : World} {p r i : Nat} {L : List Int} (h : St w1 w p r i L) : St w1 w p r (i + 1) L := by
  obtain ⟨h1, h2, n, h3, h4⟩ := h
  exact ⟨by omega, h2, n, by omega, h4⟩
set_option maxRecDepth 100000 in
set_option maxHeartbeats 1000000 in
theorem walk (a0 : Option Addr) (len0 cap0 : Nat) (l0 : List Bool) (a1 : Option Addr) (len1 cap1 : Nat) (z1 : List Int) (w : World) (w0 : IsBools w a0 len0 cap0 l0) (w1' : IsRow .i64 w a1 len1 cap1 z1) :
    Calls Try.prog 9 #[.slice a0 len0 cap0, .slice a1 len1 cap1] w fun e w' => e = .returned (.bool true) ∧ Below w.heap.size w w' := by
  obtain ⟨hm0, hlc0, hcm0, hat0⟩ := w0
  obtain ⟨hlc, hcm, hzl, hcells⟩ := w1'.cells
  have hzc : ∀ j, j < len1 → ∃ b off x, a1 = some ⟨b, off, none⟩ ∧ w.cell? ⟨b, off + j, none⟩ = some (.int .i64 x) := fun j hj => by
    obtain ⟨b, off, e1, e2, e3⟩ := hcells j (by omega)
    exact ⟨b, off, _, e1, e2⟩
  clear w1' hcells
  have HZC := Lib.hid hzc
  have HAT := Lib.hid hat0
  have HM := Lib.hid hm0
  have hlm0 : len0 ≤ maxLen := Nat.le_trans hlc0 hcm0
  have hlm1 : len1 ≤ maxLen := Nat.le_trans hlc hcm
  unfold maxLen at hlm0 hlm1
  clear hzc hat0 hm0 hlc0 hcm0 hlc hcm hzl
  have hmm : ∀ (w : World), (Instr.makeMap 75 none).run Try.prog w = .ok (.map (some w.heap.size)) (w.alloc (.map #[] 0)) := fun w => run_makeMap_plain w _
  have HMM := Lib.hid hmm
  clear hmm
  go_enter Try.func9, Try.ntmps9
  go_wp2_with fail
  refine (awake14_any _).mono ?_
  rintro e w1 ⟨rfl, hb1⟩
  have B1 := Lib.hid hb1; clear hb1
  go_wp2_with fail
  refine (o_knew (w0 := w1) (Own.nil (Below.refl _ _))).mono ?_
  rintro r w2 ⟨p, rfl, h2, -⟩
  have H2 := Lib.hid h2; clear h2
  have hmm := HMM.out
  go_upto_region 5 with fail
  clear hmm
  have hst : ∃ r, r = w2.heap.size ∧ St w1 (w2.alloc (.map #[] 0)) p r 0 [] := by
    refine ⟨_, rfl, by simp, by simp, 0, by omega, ?_⟩
    exact H2.out.add (below_alloc1 _ _) (A := MapA w2.heap.size 0) (F := [w2.heap.size]) ⟨rfl, _, World.ownsMap_made _ _ _ _⟩ (fun x hx => by simp at hx; omega)
  obtain ⟨r, hr, hst⟩ := hst
  have HST := Lib.hid hst
  rw [← hr]
  clear hst hr H2
  have hL : ∃ L : List Int, Value.int .i64 (-1) = .int .i64 (L.headD (-1)) ∧ Hid (St w1 (w2.alloc (.map #[] 0)) p r 0 L) := ⟨[], rfl, HST⟩
  clear HST
  generalize w2.alloc (.map #[] 0) = W0 at *
  go_wp2_with fail
  go_loopw [7, 8] (fun ow iv wr => ∃ i : Nat, i ≤ 60 ∧ iv = .int .i64 i ∧ ∃ L : List Int, ow = .int .i64 (L.headD (-1)) ∧ Hid (St w1 wr p r i L)) (fun _ iv _ => 60 - (intOf iv).toNat)
  case atStart =>
    obtain ⟨L, h1, h2⟩ := hL
    exact ⟨0, by omega, rfl, L, h1, h2⟩
  case round =>
    obtain ⟨i, hi, rfl, L, rfl, hr⟩ := hrel
    clear hL
    by_cases hlt : i < len0 ∧ i < len1 ∧ i < 60
    · obtain ⟨q1, q2, q3⟩ := hlt
      obtain ⟨b, off, g, rfl, z1⟩ := HZC.out i q2
      obtain ⟨b0, off0, rfl, z0⟩ := HAT.out i (by have := HM.out; omega)
      generalize l0[i]'(by have := HM.out; omega) = tk at z0
      have z1' := cell_below (cell_below z1 B1.out) hr.out.2.2.choose_spec.2.bel
      have z0' := cell_below (cell_below z0 B1.out) hr.out.2.2.choose_spec.2.bel
      have hi1 : (i : Int) < (len0 : Int) := by omega
      have hi2 : (i : Int) < (len1 : Int) := by omega
      have hi3 : (i : Int) < 60 := by omega
      clear z1 z0
      obtain ⟨G, hG⟩ : ∃ G : Int, bits BinOp.and IntKind.i64 g 7 = G := ⟨_, rfl⟩
      have hG0 : 0 ≤ G ∧ G < 8 := by rw [and_7i] at hG; omega
      obtain ⟨hG0, hG8⟩ := hG0
      have hwf : (Lit.int .i64 G).wf = true := WalkArith.wf_i64 (by omega)
      have hkey : keyOf Try.prog 3 (.int .i64 G) = some (.int .i64 G) := keyOf_int_mk Try.underlying3 hwf
      have HKEY := Lib.hid hkey
      clear hwf hkey
      obtain ⟨k1, k2, n, k3, k4⟩ := hr.out
      have K4 := Lib.hid k4
      obtain ⟨F, ⟨_, D, hD⟩, _⟩ := k4.fact 0 rfl
      have HD := Lib.hid hD
      have K2 := Lib.hid k2
      have HUP := Lib.hid (hr.out.up)
      clear hr k4 hD k2
      have hnm : n < maxLen := by unfold maxLen; omega
      have HNM := Lib.hid hnm
      clear hnm
      cases tk with
      | true =>
        cases L with
        | nil =>
          simp only [List.headD_nil]
          have hne : ((-1 : Int) == G) = false := by rw [beq_eq_false_iff_ne]; omega
          go_wp2_with (first | (at_lookup; refine wpList_lookup_own_int _ rfl _ _ 75 rfl 3 3 .i64 lawI Try.underlying75 Try.underlying3 (zeroI _) r n D rfl HD.out _ _ rfl HKEY.out ?_; intro c hat hwc; clear hat hwc) | fail)
          · refine (o_ktake (K4.out.pick 1 rfl) G (by simp)).mono ?_
            rintro e w5 ⟨rfl, h5⟩
            have hE : St w1 w5 p r (i + 1) [G] := ⟨by simp, fun x hx => by simp at hx; subst hx; omega, n, by omega, h5.pick 1 rfl⟩
            have HE := Lib.hid hE
            clear hE h5
            go_wp2
            exact ⟨⟨i + 1, by omega, by go_num, [G], rfl, HE⟩, by simp [intOf]; omega⟩
          · exact ⟨⟨i + 1, by omega, by go_num, [], rfl, HUP⟩, by simp [intOf]; omega⟩
        | cons x t =>
          simp only [List.headD_cons]
          have hx := K2.out x (by simp)
          by_cases hxg : x = G
          · subst hxg
            clear hx
            go_wp2_with (first | (at_lookup; refine wpList_lookup_own_int _ rfl _ _ 75 rfl 3 3 .i64 lawI Try.underlying75 Try.underlying3 (zeroI _) r n D rfl HD.out _ _ rfl HKEY.out ?_; intro c hat hwc; clear hat hwc) | fail)
            all_goals exact ⟨⟨i + 1, by omega, by go_num, x :: t, rfl, HUP⟩, by simp [intOf]; omega⟩
          · have hne : (x == G) = false := by rw [beq_eq_false_iff_ne]; exact hxg
            have hne1 : (x == -1) = false := by rw [beq_eq_false_iff_ne]; omega
            clear hxg hx
            go_wp2_with (first | (at_lookup; refine wpList_lookup_own_int _ rfl _ _ 75 rfl 3 3 .i64 lawI Try.underlying75 Try.underlying3 (zeroI _) r n D rfl HD.out _ _ rfl HKEY.out ?_; intro c hat hwc; clear hat hwc) | fail)
            · refine (o_ktake (K4.out.pick 1 rfl) G (by simp at k1 ⊢; omega)).mono ?_
              rintro e w5 ⟨rfl, h5⟩
              have h6 := h5.pick 1 rfl
              obtain ⟨F5, ⟨rfl, D5, hD5⟩, _⟩ := h6.fact 0 rfl
              have HD5 := Lib.hid hD5
              have H6 := Lib.hid h6
              clear h5 h6 hD5
              simp only [List.isEmpty_cons]
              go_wp2_with (first
                | (at_lookup; refine wpList_lookup_own_int _ rfl _ _ 75 rfl 3 3 .i64 lawI Try.underlying75 Try.underlying3 (zeroI _) r n D5 rfl HD5.out _ _ rfl HKEY.out ?_; intro c2 hat hwc; clear hat hwc)
                | (at_mapUpdate; refine wpList_mapUpdate_own _ rfl _ _ _ 75 rfl 3 3 lawI Try.underlying75 _ r n D5 rfl HD5.out HNM.out _ _ _ rfl rfl HKEY.out _ [] (plainElem_int Try.underlying3 (wrap64_wf _)) ?_; intro w6 hown1 hgrow1
                   have hE : St w1 w6 p r (i + 1) (x :: (t ++ [G])) := ⟨by simp at k1 ⊢; omega, fun y hy => by
                     simp at hy
                     rcases hy with rfl | hy | rfl
                     · exact K2.out _ (by simp)
                     · exact K2.out _ (by simp [hy])
                     · omega, n + 1, by omega, Own.mapUp H6.out hgrow1 ⟨_, hown1⟩⟩
                   have HE := Lib.hid hE
                   clear hE hown1 hgrow1)
                | fail)
              exact ⟨⟨i + 1, by omega, by go_num, x :: (t ++ [G]), rfl, HE⟩, by simp [intOf]; omega⟩
            · exact ⟨⟨i + 1, by omega, by go_num, x :: t, rfl, HUP⟩, by simp [intOf]; omega⟩
      | false =>
        cases L with
        | nil =>
          simp only [List.headD_nil]
          have hne : ((-1 : Int) == G) = false := by rw [beq_eq_false_iff_ne]; omega
          go_wp2_with fail
          refine (o_kgive (K4.out.pick 1 rfl) G).mono ?_
          rintro e w5 ⟨rfl, h5⟩
          have H5 := Lib.hid h5
          clear h5
          simp only [gaveR]
          go_wp2_with fail
          refine (o_kowner H5.out).mono ?_
          rintro e w6 ⟨rfl, rfl⟩
          simp only [gaveL, List.headD_nil]
          have hE : St w1 w5 p r (i + 1) [] := ⟨by simp, by simp, n, by omega, H5.out.pick 1 rfl⟩
          have HE := Lib.hid hE
          clear hE
          go_wp2
          exact ⟨⟨i + 1, by omega, by go_num, [], rfl, HE⟩, by simp [intOf]; omega⟩
        | cons x t =>
          simp only [List.headD_cons]
          have hx := K2.out x (by simp)
          by_cases hxg : x = G
          · subst hxg
            go_wp2_with fail
            refine (o_kgive (K4.out.pick 1 rfl) x).mono ?_
            rintro e w5 ⟨rfl, h5⟩
            have H5 := Lib.hid h5
            clear h5
            have hg2 : gaveL (x :: t) x = t := by unfold gaveL; simp only [if_true]
            rw [hg2] at H5
            simp only [gaveR, if_true]
            clear hg2
            cases t with
            | nil =>
              simp only [List.headD_nil]
              go_wp2_with fail
              refine (o_kowner H5.out).mono ?_
              rintro e w6 ⟨rfl, rfl⟩
              simp only [List.headD_nil]
              have hE : St w1 w5 p r (i + 1) [] := ⟨by simp, by simp, n, by omega, H5.out.pick 1 rfl⟩
              have HE := Lib.hid hE
              clear hE
              go_wp2
              exact ⟨⟨i + 1, by omega, by go_num, [], rfl, HE⟩, by simp [intOf]; omega⟩
            | cons y t =>
              simp only [List.headD_cons]
              have hy := K2.out y (by simp)
              have hne1 : (y == -1) = false := by rw [beq_eq_false_iff_ne]; omega
              have hkey2 : keyOf Try.prog 3 (.int .i64 y) = some (.int .i64 y) := keyOf_int_mk Try.underlying3 (WalkArith.wf_i64 (by omega))
              have HKEY2 := Lib.hid hkey2
              have h6 := H5.out.pick 1 rfl
              obtain ⟨F5, ⟨rfl, D5, hD5⟩, _⟩ := h6.fact 0 rfl
              have HD5 := Lib.hid hD5
              have H6 := Lib.hid h6
              have hlen : (y :: t).length ≤ i + 1 := by simp at k1 ⊢; omega
              have HLN := Lib.hid hlen
              clear hx hy hkey2 h6 hD5 hlen k1
              go_wp2_with (first
                | (at_lookup; refine wpList_lookup_own_int _ rfl _ _ 75 rfl 3 3 .i64 lawI Try.underlying75 Try.underlying3 (zeroI _) r n D5 rfl HD5.out _ _ rfl HKEY2.out ?_; intro c2 hat hwc; clear hat hwc)
                | (at_mapUpdate; refine wpList_mapUpdate_own _ rfl _ _ _ 75 rfl 3 3 lawI Try.underlying75 _ r n D5 rfl HD5.out HNM.out _ _ _ rfl rfl HKEY2.out _ [] (plainElem_int Try.underlying3 (wrap64_wf _)) ?_; intro w6 hown1 hgrow1
                   have hE : Own w1 w6 [LockA p (y :: t), MapA r (n + 1)] := (Own.mapUp H6.out hgrow1 ⟨_, hown1⟩).pick 1 rfl
                   have HE := Lib.hid hE
                   clear hE hown1 hgrow1)
                | fail)
              refine (o_kowner HE.out).mono ?_
              rintro e w7 ⟨rfl, rfl⟩
              simp only [List.headD_cons]
              have hE2 : St w1 w6 p r (i + 1) (y :: t) := ⟨HLN.out, fun z hz => K2.out z (by simp at hz ⊢; simp [hz]), n + 1, by omega, HE.out.pick 1 rfl⟩
              have HE2 := Lib.hid hE2
              clear hE2
              go_wp2
              exact ⟨⟨i + 1, by omega, by go_num, y :: t, rfl, HE2⟩, by simp [intOf]; omega⟩
          · have hne : (x == G) = false := by rw [beq_eq_false_iff_ne]; exact hxg
            go_wp2_with fail
            refine (o_kgive (K4.out.pick 1 rfl) G).mono ?_
            rintro e w5 ⟨rfl, h5⟩
            have H5 := Lib.hid h5
            clear h5
            simp only [gaveR, if_neg hxg]
            clear hxg hx
            go_wp2_with fail
            refine (o_kowner H5.out).mono ?_
            rintro e w6 ⟨rfl, rfl⟩
            have hg2 : gaveL (x :: t) G = x :: t := by unfold gaveL; simp only; rw [if_neg (by simpa using hne)]
            rw [hg2]
            simp only [List.headD_cons]
            have hE : St w1 w5 p r (i + 1) (x :: t) := ⟨by omega, K2.out, n, by omega, by have := H5.out.pick 1 rfl; rw [hg2] at this; exact this⟩
            have HE := Lib.hid hE
            clear hE hg2
            go_wp2
            exact ⟨⟨i + 1, by omega, by go_num, x :: t, rfl, HE⟩, by simp [intOf]; omega⟩
    · have hcase : (i < len0 ∧ i < len1 ∧ ¬ i < 60) ∨ (i < len0 ∧ ¬ i < len1) ∨ ¬ i < len0 := by omega
      have hfin : Below w.heap.size w wr := below_on B1.out hr.out.2.2.choose_spec.2.bel
      clear hr hlt
      rcases hcase with ⟨c1, c2, c3⟩ | ⟨c1, c2⟩ | c1
      case' inl => have c1 : (i : Int) < (len0 : Int) := by omega
      case' inl => have c2 : (i : Int) < (len1 : Int) := by omega
      case' inl => have c3 : ¬ (i : Int) < 60 := by omega
      case' inr.inl => have c1 : (i : Int) < (len0 : Int) := by omega
      case' inr.inl => have c2 : ¬ (i : Int) < (len1 : Int) := by omega
      case' inr.inr => have c1 : ¬ (i : Int) < (len0 : Int) := by omega
      all_goals
        go_wp2
        go_ret
        exact ⟨rfl, hfin⟩
end Go.Proofs.Ythfleeimhnenpaa.locksMany
