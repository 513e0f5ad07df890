/-
  The walk of the reference's All; of Are.
-/
import Derived.Test.YtollinpahfjecaaWRecs2
open Go Go.RowKit
set_option linter.unusedVariables false
namespace Go.Proofs.Ytollinpahfjecaa
set_option maxRecDepth 100000 in
set_option maxHeartbeats 1000000 in
theorem rall_any (s : ByteArray) (w : World) (hs : s.size ≤ 1000) :
    Calls Try.prog 29 #[.string s] w (GotRecsAt w (allR s).1 (allR s).2) := by
  obtain ⟨i0, hi, hz0, hz1, hz2⟩ := info_parts info_rrec
  have Hi := Lib.hid hi; clear hi
  have Hz0 := Lib.hid hz0; clear hz0
  have Hz1 := Lib.hid hz1; clear hz1
  have Hz2 := Lib.hid hz2; clear hz2
  go_enter Try.func29, Try.ntmps29
  go_wp2_with fail
  go_loopw [4, 5] (fun v c wr => ∃ n : Nat, ∃ pre : List Rec, n ≤ 1000 ∧ c = .int .i64 n ∧ Hid (Reads s pre n ∧ wr.ownsRow w.heap.size 41 2 v pre.length (recCells pre) ∧ Below w.heap.size w wr)) (fun _ c _ => s.size - (intOf c).toNat)
  case atStart => exact ⟨0, [], by omega, rfl, Reads.start s, World.ownsRow_made w #[] 0 (Nat.le_refl _) (by decide) rfl, (Below.refl _ _).alloc (Nat.le_refl _) _⟩
  case round =>
    obtain ⟨n, pre, hn, rfl, hr⟩ := hrel
    by_cases he : (getR s n).2.2 = 0
    · obtain ⟨m, c, hR, hc, hle, hm, _⟩ := getR_step s n he
      obtain ⟨k, q, hkq⟩ : ∃ k q, recOf m = (k, q) := ⟨_, _, rfl⟩
      have hst := hr.out.1.step hR hc hle
      rw [hkq] at hst
      have hpl := hr.out.1.2.1
      unfold recOf at hkq
      rw [Prod.mk.injEq] at hkq
      have hk1 : (m : Int) % 4 + 1 = k := by omega
      have hk2 : (m : Int) / 4 = (q : Int) := by omega
      have hlt : n < s.size := by omega
      have hm' : (m : Int) ≤ 18446744073709551615 := by omega
      clear hm hkq
      have Hst := Lib.hid hst; clear hst
      have HR := Lib.hid hR; clear hR
      have K1 := Lib.hid hk1; clear hk1
      have K2 := Lib.hid hk2; clear hk2
      have O1 := Lib.hid hr.out.2.1
      have E1 := Lib.hid hr.out.2.2
      clear he hr
      go_wp2_with fail
      refine (rget_any s n _ (by omega)).mono ?_
      rintro e w' ⟨rfl, rfl⟩
      rw [HR.out]
      go_wp2_with (at_builtin; rw [K1.out, K2.out]; refine wpList_append_own _ rfl _ _ 39 rfl w.heap.size 41 i0 (.agg #[.int .i64 0, .int .u64 0]) 2 16 Try.underlying39 Hi.out Hz0.out Hz1.out Hz2.out rfl (by decide) _ _ _ rfl (O1.out.alloc _) ⟨_, 0, none⟩ 1 1 [.int .i64 k, .int .u64 (q : Int)] rfl rfl ?c1 ?c2 ?c3 ?c4 ?c5 ?_)
      case c1 => exact two_new _ _ _ _ rfl
      case c2 => intro u hu; simp at hu; rcases hu with rfl | rfl <;> rfl
      case c3 => unfold maxLen; omega
      case c4 => omega
      case c5 => have := E1.out.size; simp; omega
      intro v' w2 hown' hgrow _
      have hrel : Reads s (pre ++ [(k, q)]) (n + c) ∧ w2.ownsRow w.heap.size 41 2 v' (pre ++ [(k, q)]).length (recCells (pre ++ [(k, q)])) ∧ Below w.heap.size w w2 := by
        rw [recCells_app, List.length_append]
        refine ⟨Hst.out, hown', ((E1.out.alloc E1.out.size _).grown hgrow (by have := E1.out.size; simp; omega) (fun q hq => (O1.out.lt q hq).1))⟩
      have Hrel := Lib.hid hrel; clear hrel hown' hgrow
      go_wp2
      exact ⟨⟨n + c, pre ++ [(k, q)], by omega, by go_num, Hrel⟩, by simp [intOf]; omega⟩
    · obtain ⟨h1, h2⟩ := hr.out.1.stop he
      obtain ⟨x, c, e, hR⟩ : ∃ x c e, getR s n = (x, c, e) := ⟨_, _, _, rfl⟩
      have he2 : e ≠ 0 := by rw [hR] at he; exact he
      have he3 : ((e : Int) != 0) = true := by rw [bne_iff_ne]; omega
      have HR := Lib.hid hR; clear hR
      have He2 := Lib.hid he2; clear he2 he
      have H1 := Lib.hid h1; clear h1
      have H2 := Lib.hid h2; clear h2
      have hown := hr.out.2.1
      obtain ⟨g, cp, hv, hc1, hc2, hc3⟩ := RecsAt.of_own hown
      have hn2 := hr.out.1.1
      subst hv
      have hfin : Hid (pre.length ≤ cp ∧ cp ≤ maxLen ∧ RecsAt wr g pre ∧ Below w.heap.size w wr) := ⟨hc1, hc2, hc3, hr.out.2.2⟩
      clear hc1 hc2 hc3 hown hr
      by_cases hlt : n < s.size
      · go_wp2_with fail
        refine (rget_any s n _ (by omega)).mono ?_
        rintro e w' ⟨rfl, rfl⟩
        rw [HR.out]
        go_wp2
        go_ret2
        refine ⟨g, cp, ?_⟩
        rw [← H1.out, ← H2.out]
        exact ⟨rfl, hfin⟩
      · go_wp2
        go_ret2
        refine ⟨g, cp, ?_⟩
        rw [← H1.out, ← H2.out]
        exact ⟨rfl, hfin⟩

set_option maxRecDepth 100000 in
set_option maxHeartbeats 1000000 in
theorem are_eq (a b : Option Addr) (ca cb : Nat) (l : List Rec) (w : World) (hl : l.length ≤ 1000) (ha : RecsAt w a l) (hb : RecsAt w b l) :
    Calls Try.prog 26 #[.slice a l.length ca, .slice b l.length cb] w fun e w' => e = .returned (.int .i64 0) ∧ Below w.heap.size w w' := by
  have Ha := Lib.hid ha; clear ha
  have Hb := Lib.hid hb; clear hb
  obtain ⟨m, hm⟩ : ∃ m, m = l.length := ⟨_, rfl⟩
  rw [← hm] at hl ⊢
  have Hm := Lib.hid hm; clear hm
  go_enter Try.func26, Try.ntmps26
  go_wp2_with fail
  go_loopw [5, 13] (fun _ c wr => ∃ k : Nat, k ≤ m ∧ c = .int .i64 k ∧ Hid (Below w.heap.size w wr)) (fun _ c _ => m - (intOf c).toNat)
  case atStart => exact ⟨0, by omega, rfl, Below.refl _ _⟩
  case round =>
    obtain ⟨k, hk, rfl, hr⟩ := hrel
    by_cases hlt : k < m
    · obtain ⟨b1, o1, rfl, h0, h1⟩ := (Ha.out.below hr.out) k (by have := Hm.out; omega)
      obtain ⟨b2, o2, rfl, h2, h3⟩ := (Hb.out.below hr.out) k (by have := Hm.out; omega)
      generalize l[k]'(by have := Hm.out; omega) = r at h0 h1 h2 h3
      obtain ⟨rk, rn⟩ := r
      simp only at h0 h1 h2 h3
      go_wp2_with fail
      go_quiet (fail)
      go_wp2
      exact ⟨⟨k + 1, by omega, by go_num, Lib.hid (below_drewN hr.out _)⟩, by simp [intOf]; omega⟩
    · go_wp2
      go_ret
      exact ⟨rfl, hr.out⟩
end Go.Proofs.Ytollinpahfjecaa
