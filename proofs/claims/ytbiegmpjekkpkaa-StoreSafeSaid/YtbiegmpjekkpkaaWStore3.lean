/-
  The walk of a store's Crash.
-/
import Derived.Test.YtbiegmpjekkpkaaWStore2
open Go Go.RowKit
set_option linter.unusedVariables false
namespace Go.Proofs.Ytbiegmpjekkpkaa
theorem size_u8 (w : World) : (sizeOf (Try.prog.elem 32)).run Try.prog w = .ok 1 w := by first | rfl | kernel_rfl
theorem size_u8' (w : World) : (sizeOf 5).run Try.prog w = .ok 1 w := by first | rfl | kernel_rfl
/-- What a store's cells are, laid open. -/
theorem StoreAt.open {w : World} {p : Nat} {s : SSt} {F : List Nat} (h : StoreAt w p s F) : ∃ a cap, F = p :: (Value.ownBlock (.slice a s.bs.length cap)).toList ∧ Value.ownBlock (.slice a s.bs.length cap) ≠ some p ∧ Blk w p (s.cells (.slice a s.bs.length cap)) ∧ w.ownsRow 0 5 1 (.slice a s.bs.length cap) s.bs.length (u8c s.bs) ∧ s.ok ∧ s.bs.length ≤ cap ∧ (a = none → cap = 0) := by
  obtain ⟨h0, v, rfl, h2, h3, h4⟩ := h
  have h4' := h4
  rcases h4.2 with ⟨rfl, hn⟩ | ⟨g, cap, cur, rfl, _, _, hc, _⟩
  · exact ⟨none, 0, by rw [hn], by rw [hn]; exact h2, by rw [hn]; exact h3, by rw [hn] at h4' ⊢; exact h4', h0, by omega, fun _ => rfl⟩
  · exact ⟨some ⟨g, 0, none⟩, cap, rfl, h2, h3, h4', h0, hc, fun h => by cases h⟩
theorem SSt.keeps_le (s : SSt) (k : Int) : s.keeps k ≤ s.bs.length - s.safe := by unfold SSt.keeps; omega
theorem overlay_len (l m : List UInt8) : (overlay l m).length = l.length := by unfold overlay; rw [List.length_append, List.length_take, List.length_drop]; omega
theorem overlay_cells (bs t : List UInt8) (S K : Nat) (h : S + K ≤ bs.length) : (bs.take (S + K)).take S ++ (t.take K ++ (bs.take (S + K)).drop (S + (t.take K).length)) = bs.take S ++ overlay ((bs.drop S).take K) t := by
  have hl : ((bs.drop S).take K).length = K := by rw [List.length_take, List.length_drop]; omega
  unfold overlay
  rw [hl, List.take_take, Nat.min_eq_left (by omega)]
  congr 2
  rw [← List.drop_drop, List.drop_take, Nat.add_sub_cancel_left, List.length_take]
  by_cases hk : K ≤ t.length
  · rw [Nat.min_eq_left hk, List.drop_of_length_le (by rw [hl]; exact Nat.le_refl _), List.drop_of_length_le (by rw [hl]; exact hk)]
  · rw [Nat.min_eq_right (by omega)]
set_option maxRecDepth 100000 in
set_option maxHeartbeats 2000000 in
theorem crash_any (p : Nat) (s : SSt) (F : List Nat) (k : Int) (t : ByteArray) (w : World) (h : StoreAt w p s F) (k1 : -9223372036854775808 ≤ k) (k2 : k ≤ 9223372036854775807) :
    Calls Try.prog 18 #[.pointer (some ⟨p, 0, none⟩), .int .i64 k, .string t] w fun e w' => e = .returned (.tuple #[]) ∧ StoreAt w' p (s.crash k t.data.toList) F ∧ Chg F w w' := by
  have H := Lib.hid h; clear h
  obtain ⟨K, hK⟩ : ∃ K, K = s.keeps k := ⟨_, rfl⟩
  have hKle := s.keeps_le k
  have hsf : s.safe ≤ s.bs.length := H.out.1.1
  rw [← hK] at hKle
  go_enter Try.func18, Try.ntmps18
  go_upto_region 0 with fail
  go_cut [1] (fun s1 wx => s1 = .int .i64 (K : Int) ∧ Hid (StoreAt wx p s F ∧ Chg F w wx))
  case first =>
    obtain ⟨a, cap, hF, h2, h3, h4, h0, hcap, hnil⟩ := H.out.open
    obtain ⟨⟨g0, g1, g2, g3, g4, g5⟩, f0, f1, f3, f4, f5⟩ := s.at h3
    have b1 := h0.1
    have b2 := h0.2.2.2.2
    obtain ⟨n, hn⟩ : ∃ n, n = s.bs.length := ⟨_, rfl⟩
    obtain ⟨S, hS⟩ : ∃ S, S = s.safe := ⟨_, rfl⟩
    unfold SSt.keeps at hK
    rw [← hn] at g0 b1 b2 hK
    rw [← hS] at g1 b1 hK
    have HK := Lib.hid hK; clear hK hKle
    clear hF h2 h3 h4 h0 hn hS hcap hnil
    by_cases q1 : k < 0
    · go_wp2_with fail
      go_quiet (fail)
      go_wp2_with fail
      go_meet
      refine ⟨?_, H.out.chg ((Chg.refl [] _).drewN _) (fun x _ => by simp), (Chg.refl _ _).drewN _⟩
      rw [HK.out, show min k.toNat (n - S) = 0 by omega]; rfl
    · by_cases q2 : k ≤ (n : Int) - (S : Int)
      · go_wp2_with fail
        go_quiet (fail)
        go_wp2_with fail
        go_meet
        refine ⟨?_, H.out.chg ((Chg.refl [] _).drewN _) (fun x _ => by simp), (Chg.refl _ _).drewN _⟩
        rw [HK.out, show min k.toNat (n - S) = k.toNat by omega, Int.toNat_of_nonneg (by omega)]
      · go_wp2_with fail
        go_quiet (fail)
        go_wp2_with fail
        go_meet
        refine ⟨?_, H.out.chg ((Chg.refl [] _).drewN _) (fun x _ => by simp), (Chg.refl _ _).drewN _⟩
        rw [HK.out, show min k.toNat (n - S) = n - S by omega, Int.ofNat_sub b1]
  case rest =>
    obtain ⟨rfl, hr⟩ := hcut
    go_upto_region 1 with fail
    go_cut [19] (fun _ wx => Hid (StoreAt wx p { s with bs := s.bs.take (s.safe + K) } F ∧ Chg F w wx))
    case first =>
      obtain ⟨a, cap, hF, h2, h3, h4, h0, hcap, hnil⟩ := hr.out.1.open
      obtain ⟨⟨g0, g1, g2, g3, g4, g5⟩, f0, f1, f3, f4, f5⟩ := s.at h3
      have b1 := h0.1
      have b2 := h0.2.2.2.2
      obtain ⟨n, hn⟩ : ∃ n, n = s.bs.length := ⟨_, rfl⟩
      obtain ⟨S, hS⟩ : ∃ S, S = s.safe := ⟨_, rfl⟩
      rw [← hn] at g0 b1 b2 hKle hcap
      rw [← hS] at g1 b1 hKle
      have hsl := fun w => slice_head (P := Try.prog) (t := 32) w Try.underlying32 size_u8 a n cap (S + K) (by omega)
      have ecast : ((S + K : Nat) : Int) = (S : Int) + (K : Int) := by omega
      rw [ecast] at hsl
      have i2 : (S : Int) + (K : Int) ≤ 140737488355328 := by omega
      have hSK : S + K ≤ n := by omega
      have HK := Lib.hid hK; clear hK
      have HSK := Lib.hid hSK; clear hSK
      have HKL := Lib.hid hKle; clear hKle
      have Hb1 := Lib.hid b1
      have i1 : (0 : Int) ≤ (S : Int) + (K : Int) := by omega
      have HF := Lib.hid hF; clear hF
      have H0 := Lib.hid h0; clear h0
      have H2 := Lib.hid h2; clear h2
      have H3 := Lib.hid h3; clear h3
      have H4 := Lib.hid h4; clear h4
      have HN := Lib.hid hn; clear hn
      have HS := Lib.hid hS; clear hS hcap hnil ecast
      go_wp2_with fail
      go_region
      go_wp2_with fail
      go_meet
      have hS := HS.out
      have hN := HN.out
      have hSK := HSK.out
      have ht : (s.bs.take (s.safe + K)).length = S + K := by rw [List.length_take]; omega
      have hob : Value.ownBlock (.slice a (S + K) cap) = Value.ownBlock (.slice a s.bs.length cap) := by cases a <;> rfl
      have hpF : p ∈ F := by rw [HF.out]; simp
      obtain ⟨o1, o2, o3, o4, o5⟩ := H0.out
      refine ⟨⟨⟨by simp only [ht]; omega, by simp only [ht]; omega, o3, o4, by simp only [ht]; omega⟩, .slice a (S + K) cap, by rw [hob]; exact HF.out, by rw [hob]; exact H2.out, ?_, ?_⟩, (hr.out.2.setCell _ (.inl hpF)).drew⟩
      · exact (H3.out.set 0 (.slice a (S + K) cap)).below (below_drew1 _)
      · simp only [ht]
        rw [u8c_take, ← hS]
        have := owns_take H4.out (S + K) (by omega)
        exact owns_chg this (((Chg.refl [p] _).setCell (b := p) (k := 0) _ (.inl (by simp))).drew) (fun g hg => by simp; intro e; subst e; rw [hob] at hg; exact H2.out hg)
    case rest =>
      clear hr
      go_upto_region 2 with fail
      go_cut [33] (fun _ wx => Hid (StoreAt wx p { s with bs := s.bs.take s.safe ++ overlay ((s.bs.drop s.safe).take K) t.data.toList } F ∧ Chg F w wx))
      case first =>
        have hr := hcut
        clear hcut
        obtain ⟨a, cap, hF, h2, h3, h4, h0, hcap, hnil⟩ := hr.out.1.open
        obtain ⟨⟨g0, g1, g2, g3, g4, g5⟩, f0, f1, f3, f4, f5⟩ := SSt.at _ h3
        have hlen : (s.bs.take (s.safe + K)).length = s.safe + K := by rw [List.length_take]; omega
        simp only [hlen] at *
        obtain ⟨S, hS⟩ : ∃ S, S = s.safe := ⟨_, rfl⟩
        have hcopy : ∃ v2 o, (∀ W, (Instr.slice 32 (.slice a (S + K) cap) (some (.int .i64 (S : Int))) none none).run Try.prog W = .ok v2 W) ∧
            (∀ W : World, W.heap = wc.heap → Sem.run Try.prog (Builtin.copy_ #[32, 9] 3 #[v2, .string t]) W = .ok (goInt (Nat.min t.size K)) (W.setCells o S (u8c (t.data.toList.take K)))) ∧
            (StoreAt (wc.drew.setCells o S (u8c (t.data.toList.take K))) p { s with bs := s.bs.take s.safe ++ overlay ((s.bs.drop s.safe).take K) t.data.toList } F ∧ Chg F w (wc.drew.setCells o S (u8c (t.data.toList.take K)))) := by
          rw [hS]
          cases a with
          | none =>
            have hc0 := hnil rfl
            subst hc0
            have hS0 : s.safe = 0 := by omega
            have hK0 : K = 0 := by omega
            subst hK0
            refine ⟨.slice none 0 0, 0, fun W => ?_, fun W _ => ?_, ?_⟩
            · rw [hS0, run_slice_l (P := Try.prog) (t := 32) (ht := Try.underlying32) (kl := .i64) (l := ((0 : Nat) : Int)) (h0 := by omega) (h1 := by omega), size_u8]
              rfl
            · rw [copy_none W _ _ _ 5 t Try.underlying32 size_u8']
              rfl
            · have e : overlay ((s.bs.drop s.safe).take 0) t.data.toList = [] := by simp [overlay]
              rw [e, List.append_nil]
              exact ⟨hr.out.1.chg (Chg.of_below (F := []) (below_drew1 _)) (fun x _ => by simp), hr.out.2.drew⟩
          | some ad =>
            obtain ⟨g, rfl, hlt⟩ : ∃ g, ad = ⟨g, 0, none⟩ ∧ True := by
              rcases h4.2 with ⟨hv, _⟩ | ⟨g, cap', cur, hv, _⟩
              · cases hv
              · simp only [Value.slice.injEq, Option.some.injEq] at hv
                exact ⟨g, hv.1, trivial⟩
            obtain ⟨o, ho1, ho2⟩ := slice_tail (P := Try.prog) (t := 32) Try.underlying32 size_u8 g (s.safe + K) cap s.safe (by omega) hcap
            refine ⟨.slice (some ⟨g, o, none⟩) K (cap - s.safe), g, fun W => by rw [ho1, Nat.add_sub_cancel_left], fun W hW => ?_, ?_⟩
            rotate_left
            · have hgF : g ∈ F := by rw [hF]; simp [Value.ownBlock]
              have hgp : g ≠ p := fun e => h2 (by rw [← e]; rfl)
              have hll : (u8c (t.data.toList.take K)).length ≤ K := by rw [u8c_len, List.length_take]; omega
              have hcs : Chg [g] wc (wc.drew.setCells g s.safe (u8c (t.data.toList.take K))) := ((Chg.refl _ _).drew).setCells _ _ (.inl (by simp))
              refine ⟨⟨?_, .slice (some ⟨g, 0, none⟩) (s.safe + K) cap, hF, h2, h3.chg hcs (by simp; exact fun e => hgp e.symm), ?_⟩, hr.out.2.trans hcs (fun x hx => .inl (by simp at hx; rw [hx]; exact hgF))⟩
              · obtain ⟨o1, o2, o3, o4, o5⟩ := h0
                simp only [List.length_take] at o2 o5
                have hl2 : (s.bs.take s.safe ++ overlay ((s.bs.drop s.safe).take K) t.data.toList).length = s.safe + K := by rw [List.length_append, overlay_len, List.length_take, List.length_take, List.length_drop]; omega
                exact ⟨by simp only [hl2]; omega, by simp only [hl2]; omega, o3, o4, by simp only [hl2]; omega⟩
              · have := owns_setCells (u8c (t.data.toList.take K)) s.safe wc.drew _ (owns_chg h4 (Chg.of_below (F := []) (below_drew1 _)) (fun _ _ => by simp)) (by omega)
                have hl2 : (s.bs.take s.safe ++ overlay ((s.bs.drop s.safe).take K) t.data.toList).length = s.safe + K := by rw [List.length_append, overlay_len, List.length_take, List.length_take, List.length_drop]; omega
                rw [u8c_len, ← u8c_take] at this
                have e2 : u8c ((s.bs.take (s.safe + K)).take s.safe) ++ (u8c (t.data.toList.take K) ++ (u8c (s.bs.take (s.safe + K))).drop (s.safe + (t.data.toList.take K).length)) = u8c (s.bs.take s.safe ++ overlay ((s.bs.drop s.safe).take K) t.data.toList) := by
                  rw [← overlay_cells s.bs t.data.toList s.safe K (by omega), u8c_app, u8c_app]
                  congr 2
                  unfold u8c; rw [List.map_drop]
                rw [e2] at this
                simp only [hl2]
                exact this
            have hcell : ∀ j, j < s.safe + K → ((W.cell? ⟨g, j, none⟩).isSome = true ∧ W.frozen? ⟨g, j, none⟩ = false) := fun j hj => by
              rcases h4.2 with ⟨hv, _⟩ | ⟨g', cap', cur, hv, _, hg, _, _, hcs, _⟩
              · cases hv
              · simp only [Value.slice.injEq, Option.some.injEq, Addr.mk.injEq, and_true, true_and] at hv
                obtain ⟨rfl, rfl⟩ := hv
                have hg' : W.heap[g]? = some (.cells cur 5 (0, 0)) := by rw [hW]; exact hg
                constructor
                · simp only [World.cell?, hg']
                  simp; omega
                · simp [World.frozen?, hg']
            have hcp := copy_str (P := Try.prog) W 32 9 3 5 g o K (cap - s.safe) t Try.underlying32 size_u8'
            rcases ho2 with rfl | h0'
            · exact hcp (fun j hj => (hcell _ (by omega)).1) (fun j hj => (hcell _ (by omega)).2)
            · obtain rfl : K = 0 := by omega
              rw [hcp (fun j hj => by omega) (fun j hj => by omega)]
              simp [u8c, World.setCells]
        obtain ⟨v2, o, hsl, hcp, hpost⟩ := hcopy
        have HP := Lib.hid hpost; clear hpost
        rw [← hS] at g1 g0
        have hcp' := hcp wc.drew rfl
        have hcp2 := hcp wc rfl
        have HS := Lib.hid hS; clear hS
        have HK := Lib.hid hK; clear hK
        have HV := Lib.hid hr; clear hr
        clear hF h2 h3 h4 h0 hcap hnil hlen hcp hKle hsf
        go_wp2_with fail
        go_region
        go_wp2_with fail
        go_meet
        exact HP.out
      case rest =>
        have hr := hcut
        clear hcut
        obtain ⟨a, cap, hF, h2, h3, h4, h0, hcap, hnil⟩ := hr.out.1.open
        obtain ⟨⟨g0, g1, g2, g3, g4, g5⟩, f0, f1, f3, f4, f5⟩ := SSt.at _ h3
        have hlen : (s.bs.take s.safe ++ overlay ((s.bs.drop s.safe).take K) t.data.toList).length = s.safe + K := by rw [List.length_append, overlay_len, List.length_take, List.length_take, List.length_drop]; omega
        simp only [hlen] at g0 hF h2 h3 h4
        have hpF : p ∈ F := by rw [hF]; simp
        have hcr : s.crash k t.data.toList = ⟨s.bs.take s.safe ++ overlay ((s.bs.drop s.safe).take K) t.data.toList, s.safe + K, s.room, false, 0, false⟩ := by unfold SSt.crash; rw [hK]
        have HCR := Lib.hid hcr; clear hcr
        have HC := Lib.hid hr.out.2
        obtain ⟨N, hN⟩ : ∃ N, N = s.safe + K := ⟨_, rfl⟩
        rw [← hN] at g0
        have HN := Lib.hid hN; clear hN
        have HF := Lib.hid hF; clear hF
        have H2 := Lib.hid h2; clear h2
        have H3 := Lib.hid h3; clear h3
        have H4 := Lib.hid h4; clear h4
        have H0 := Lib.hid h0; clear h0
        have HL := Lib.hid hlen; clear hlen hr hcap hnil hK hKle
        go_wp2
        go_end0
        have hch : ∀ x y z u, Chg [p] wc ((((wc.setCell ⟨p, 1, none⟩ x).setCell ⟨p, 3, none⟩ y).setCell ⟨p, 4, none⟩ z).setCell ⟨p, 5, none⟩ u) := fun x y z u => ((((Chg.refl [p] wc).setCell x (.inl (by simp))).setCell y (.inl (by simp))).setCell z (.inl (by simp))).setCell u (.inl (by simp))
        refine ⟨rfl, ?_, HC.out.trans (hch _ _ _ _) (fun x hx => .inl (by simp at hx; rw [hx]; exact hpF))⟩
        rw [HCR.out]
        obtain ⟨o1, o2, o3, o4, o5⟩ := H0.out
        refine ⟨⟨by simp only [HL.out]; omega, o2, o3, by simp, o5⟩, .slice a (s.safe + K) cap, HF.out, H2.out, ?_, ?_⟩
        · have := (((H3.out.set 1 (.int .i64 (N : Int))).set 3 (.bool false)).set 4 (.int .i64 0)).set 5 (.bool false)
          rw [HN.out] at this ⊢
          exact this
        · simp only [HL.out]
          exact owns_chg H4.out (hch _ _ _ _) (fun g hg => by simp; intro e; subst e; exact H2.out hg)
end Go.Proofs.Ytbiegmpjekkpkaa
