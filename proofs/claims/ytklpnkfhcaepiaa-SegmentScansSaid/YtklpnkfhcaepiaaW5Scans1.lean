/-
  The walk of the reference's Scan.
-/
import Derived.Test.YtklpnkfhcaepiaaWSeg3
import Derived.Test.YtklpnkfhcaepiaaSegRow
import Derived.Test.YtklpnkfhcaepiaaIntRow
import Derived.Deep.AppendLies
import Derived.RegionTactic
import Derived.BigQuiet
import Derived.Deep.QuietTactic
open Go Go.RowKit
set_option linter.unusedVariables false
namespace Go.Proofs.Ytklpnkfhcaepiaa
def strc (l : List ByteArray) : List Value := l.map fun s => .string s
theorem strc_len (l : List ByteArray) : (strc l).length = l.length := by unfold strc; rw [List.length_map]
theorem strc_app (l m : List ByteArray) : strc (l ++ m) = strc l ++ strc m := by unfold strc; rw [List.map_append]
theorem strc_at (l : List ByteArray) (i : Nat) (h : i < l.length) : (strc l)[i]? = some (.string l[i]) := by unfold strc; rw [List.getElem?_map, List.getElem?_eq_getElem h]; rfl
theorem StrsAt.of_own {w : World} {base n : Nat} {e : TypeId} {v : Value} {l : List ByteArray} (h : w.ownsRow base e 1 v n (strc l)) (hn : n = l.length) :
    ∃ a cap, v = .slice a l.length cap ∧ l.length ≤ cap ∧ cap ≤ maxLen ∧ StrsAt w a l := by
  subst hn
  rcases h.2 with ⟨rfl, h0⟩ | ⟨g, cap, cur, rfl, _, hg, hn, hm, hs, hx⟩
  · have : l = [] := List.length_eq_zero_iff.1 h0
    subst this
    exact ⟨none, 0, rfl, Nat.le_refl _, Nat.zero_le _, fun i h => by simp at h⟩
  · refine ⟨_, cap, rfl, hn, hm, fun i hi => ⟨g, 0, rfl, ?_⟩⟩
    have := strc_at l i hi
    rw [← hx, List.getElem?_take_of_lt (by omega)] at this
    simp [World.cell?, hg]; simpa using this
theorem info_str : (Try.prog.info? 9).map (fun i => (i.zero, i.size, i.bytes)) = some (some (.string ⟨#[]⟩), 1, 16) := by kernel_rfl
/-- The bodies that are seen. -/
def bods (l : List (ByteArray × Nat)) : List ByteArray := l.map (·.1)
theorem bods_snoc (l : List (ByteArray × Nat)) (b : ByteArray) (e : Nat) : strc (bods (l ++ [(b, e)])) = strc (bods l) ++ [.string b] := by simp [bods, strc]
set_option maxRecDepth 100000 in
set_option maxHeartbeats 1000000 in
theorem rscan_any (s : ByteArray) (q : Nat) (w : World) (hs : s.size ≤ 1000000) (hq : q < 18446744073709551616) :
    Calls Try.prog 18 #[.string s, .int .u64 q] w fun e w' => ∃ a cap, e = .returned (.tuple #[.slice a (scanR s q).length cap, .int .i64 (lastEnd (scanR s q) : Int)]) ∧
      w'.ownsRow w.heap.size 9 1 (.slice a (scanR s q).length cap) (scanR s q).length (strc (bods (scanR s q))) ∧ (scanR s q).length ≤ cap ∧ cap ≤ maxLen ∧ Below w.heap.size w w' := by
  obtain ⟨i0, hi, hz0, hz1, hz2⟩ := info_parts info_str
  have Hi := Lib.hid hi; clear hi
  have Hz0 := Lib.hid hz0; clear hz0
  have Hz1 := Lib.hid hz1; clear hz1
  have Hz2 := Lib.hid hz2; clear hz2
  obtain ⟨L, hL⟩ : ∃ L, L = scanR s q := ⟨_, rfl⟩
  rw [← hL]
  have HL := Lib.hid hL; clear hL
  have Hq := Lib.hid hq; clear hq
  go_enter Try.func18, Try.ntmps18
  go_wp2_with fail
  go_loopw [1, 6, 7, 8, 9, 10, 11] (fun sv ov av _ _ _ _ wr => ∃ n a qq : Nat, a ≤ s.size ∧ n ≤ a ∧ qq < 18446744073709551616 ∧ sv = .int .u64 qq ∧ av = .int .i64 a ∧ Hid (∃ pre post f, L = pre ++ post ∧ s.size - a < f ∧ scanF f s a qq = post ∧ a = lastEnd pre ∧ n = pre.length ∧ wr.ownsRow w.heap.size 9 1 ov n (strc (bods pre)) ∧ Below w.heap.size w wr)) (fun _ _ av _ _ _ _ _ => s.size - (intOf av).toNat)
  case atStart => exact ⟨0, 0, q, by omega, by omega, Hq.out, rfl, rfl, [], _, s.size + 1, rfl, by omega, HL.out.symm, rfl, rfl, World.ownsRow_made w #[] 0 (Nat.le_refl _) (by decide) rfl, (Below.refl _ _).alloc (Nat.le_refl _) _⟩
  case round =>
    obtain ⟨n, a, qq, ha, hna, hqq, rfl, rfl, hr⟩ := hrel
    obtain ⟨R, hR⟩ : ∃ R, R = openR s a := ⟨_, rfl⟩
    obtain ⟨r1, b, e, r4⟩ := R
    have Hqq := Lib.hid hqq; clear hqq
    go_wp2_with fail
    refine (ropen_any s a _ (by omega)).mono ?_
    rintro ee w1 ⟨rfl, hb1⟩
    rw [← hR]
    simp only [openV]
    obtain ⟨pre, post, f, h1, h2, h3, h4, h5, h6, h7⟩ := hr.out
    have h8 := owns_below h6 hb1
    have h9 := below_on h7 hb1
    clear h6 h7 hb1 hr
    have H6 := Lib.hid h8; clear h8
    have H7 := Lib.hid h9; clear h9
    have H5 := Lib.hid h5; clear h5
    by_cases hc : r4 = 0 ∧ r1 = qq
    · obtain ⟨rfl, rfl⟩ := hc
      obtain ⟨n1, n2, n3, n4⟩ := openR_next s a r1 e b hR.symm
      obtain ⟨f', rfl⟩ : ∃ f', f = f' + 1 := ⟨f - 1, by omega⟩
      rw [scanF_step f' s a r1 e b hR.symm] at h3
      have HR := Lib.hid hR; clear hR
      have H1 := Lib.hid h1; clear h1
      have H3 := Lib.hid h3; clear h3
      have H4 := Lib.hid h4; clear h4
      have Hn4 := Lib.hid n4; clear n4
      go_wp2_with (first
        | (at_builtin; go_loud (refine wpList_append_lies _ rfl _ _ 38 rfl w.heap.size 9 i0 (.string ⟨#[]⟩) 1 16 Try.underlying38 Hi.out Hz0.out Hz1.out Hz2.out rfl (by decide) _ _ _ rfl (H6.out.alloc _) ⟨w1.heap.size, 0, none⟩ 1 1 [.string b] rfl rfl (one_new _ _ _ rfl) (one_one _ rfl) (by omega) (by unfold maxLen; omega) (by omega) (by have := H7.out.size; simp; omega) (w1.heap.size + 1) (by simp) ?_))
        | go_in)
      intro g cap w3 hown' hgrow hg' hlt'
      have hB3 : Below w.heap.size w w3 := (below_on H7.out (below_alloc1 _ _)).grown hgrow (by have := H7.out.size; simp; omega) (fun k hk => (H6.out.lt k hk).1)
      have B3 := Lib.hid hB3; clear hB3
      have hown2 := hown'
      rw [← bods_snoc pre b e] at hown2
      have O3 := Lib.hid hown2; clear hown2 hown' hgrow hg' hlt'
      go_wp2
      refine ⟨⟨n + 1, e, (r1 + 1) % 18446744073709551616, n2, by omega, by omega, by rw [IntKind.wrap_u64]; go_num, rfl, ?_⟩, by simp [intOf]; omega⟩
      exact ⟨pre ++ [(b, e)], _, f', by rw [H1.out, ← H3.out, List.append_assoc]; rfl, by omega, rfl, by rw [lastEnd_snoc], by rw [List.length_append, H5.out]; rfl, O3.out, B3.out⟩
    · rw [scanF_stop _ _ _ _ (by rw [← hR]; exact hc)] at h3
      have hLp : L = pre := by rw [h1, ← h3, List.append_nil]
      obtain ⟨ad, cap, rfl, hc1, hc2, hat⟩ := StrsAt.of_own H6.out (by rw [bods, List.length_map]; exact H5.out)
      rw [bods, List.length_map] at hc1
      have HR := Lib.hid hR; clear hR
      have H1 := Lib.hid h1; clear h1
      have H3 := Lib.hid h3; clear h3
      have H4 := Lib.hid h4; clear h4
      have HX := Lib.hid (And.intro hc1 (And.intro hc2 hat)); clear hc1 hc2 hat
      have HLp := Lib.hid hLp; clear hLp
      have fin : ∃ a' cap', Ending.returned (.tuple #[.slice ad (bods pre).length cap, .int .i64 (a : Int)]) = .returned (.tuple #[.slice a' L.length cap', .int .i64 (lastEnd L : Int)]) ∧ w1.ownsRow w.heap.size 9 1 (.slice a' L.length cap') L.length (strc (bods L)) ∧ L.length ≤ cap' ∧ cap' ≤ maxLen ∧ Below w.heap.size w w1 := by
        obtain ⟨x2, x3, x4⟩ := HX.out
        rw [HLp.out, ← H4.out]
        have x5 := H6.out
        rw [bods, List.length_map, H5.out] at x5
        exact ⟨ad, cap, by rw [bods, List.length_map], x5, x2, x3, H7.out⟩
      have Fin := Lib.hid fin; clear fin
      by_cases h0 : r4 = 0
      · subst h0
        have hne : ((r1 : Int) != (qq : Int)) = true := by rw [bne_iff_ne]; intro e; exact hc ⟨rfl, by omega⟩
        clear hc
        go_wp2
        go_ret2
        exact Fin.out
      · have hne : ((r4 : Int) != 0) = true := by rw [bne_iff_ne]; omega
        clear hc h0
        go_wp2
        go_ret2
        exact Fin.out
end Go.Proofs.Ytklpnkfhcaepiaa
