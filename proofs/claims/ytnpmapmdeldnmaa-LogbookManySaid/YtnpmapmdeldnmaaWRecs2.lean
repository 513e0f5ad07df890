/-
  The walks that gather decisions: record.All, and what the second law holds it against.
-/
import Derived.Test.YtnpmapmdeldnmaaWRecs
open Go Go.RowKit
set_option linter.unusedVariables false
namespace Go.Proofs.Ytnpmapmdeldnmaa
theorem two_new (W : World) (u v : Value) (t : TypeId) {b : Nat} (hb : b = W.heap.size) : ∀ j x, [u, v][j]? = some x → (W.alloc (.cells #[u, v] t)).cell? ((⟨b, 0, none⟩ : Addr).add j) = some x := by
  subst hb
  exact cell_two_new W u v t
theorem info_rec : (Try.prog.info? 38).map (fun i => (i.zero, i.size, i.bytes)) = some (some (.agg #[.int .i64 0, .int .u64 0]), 2, 16) := by kernel_rfl
/-- The state of the loops that read decisions: what has been gathered, where they stand, what is left. -/
def Reads (s : ByteArray) (pre : List Rec) (n : Nat) : Prop :=
  n ≤ s.size ∧ pre.length ≤ n ∧ ∃ f, s.size - n < f ∧ pre ++ (allF f s n).1 = (allR s).1 ∧ (allF f s n).2 = (allR s).2
theorem Reads.start (s : ByteArray) : Reads s [] 0 := ⟨Nat.zero_le _, Nat.zero_le _, s.size + 1, by omega, rfl, rfl⟩
theorem Reads.stop {s : ByteArray} {pre : List Rec} {n : Nat} (h : Reads s pre n) (he : (getR s n).2.2 ≠ 0) : pre = (allR s).1 ∧ n = (allR s).2 := by
  obtain ⟨_, _, f, hf, h1, h2⟩ := h
  rw [allF_stop _ _ _ he] at h1 h2
  exact ⟨by rw [← h1]; simp, h2⟩
theorem Reads.step {s : ByteArray} {pre : List Rec} {n m c : Nat} (h : Reads s pre n) (hR : getR s n = (m, n + c, 0)) (hc : 1 ≤ c) (hle : n + c ≤ s.size) : Reads s (pre ++ [recOf m]) (n + c) := by
  obtain ⟨h0, hp, f, hf, h1, h2⟩ := h
  obtain ⟨f, rfl⟩ : ∃ g, f = g + 1 := ⟨f - 1, by omega⟩
  rw [allF_step f s n _ _ hR] at h1 h2
  exact ⟨hle, by simp; omega, f, by omega, by rw [← h1]; simp, h2⟩

set_option maxRecDepth 100000 in
set_option maxHeartbeats 1000000 in
theorem all_any (s : ByteArray) (w : World) (hs : s.size ≤ 5000) :
    Calls Try.prog 26 #[.string s] w (GotRecsAt w (allR s).1 (allR s).2) := by
  obtain ⟨i0, hi, hz0, hz1, hz2⟩ := info_parts info_rec
  have Hi := Lib.hid hi; clear hi
  have Hz0 := Lib.hid hz0; clear hz0
  have Hz1 := Lib.hid hz1; clear hz1
  have Hz2 := Lib.hid hz2; clear hz2
  go_enter Try.func26, Try.ntmps26
  go_wp2_with fail
  go_loopw [4, 5] (fun v c wr => ∃ n : Nat, ∃ pre : List Rec, n ≤ 5000 ∧ c = .int .i64 n ∧ Hid (Reads s pre n ∧ wr.ownsRow w.heap.size 38 2 v pre.length (recCells pre) ∧ Below w.heap.size w wr)) (fun _ c _ => s.size - (intOf c).toNat)
  case atStart => exact ⟨0, [], by omega, rfl, Reads.start s, World.ownsRow_nil _ _ _ _, Below.refl _ _⟩
  case round =>
    obtain ⟨n, pre, hn, rfl, hr⟩ := hrel
    by_cases he : (getR s n).2.2 = 0
    · obtain ⟨m, c, hR, hc, hle, hm, _⟩ := getR_step s n he
      obtain ⟨k, q, hkq⟩ : ∃ k q, recOf m = (k, q) := ⟨_, _, rfl⟩
      have hst := hr.out.1.step hR hc hle
      rw [hkq] at hst
      have hpl := hr.out.1.2.1
      have Hst := Lib.hid hst; clear hst
      have HR := Lib.hid hR; clear hR
      have Hm := Lib.hid hm; clear hm
      have Hkq := Lib.hid hkq; clear hkq
      clear he
      go_wp2_with fail
      refine (parse_good s n _ (by unfold maxLen; omega) m (n + c) HR.out Hm.out k q Hkq.out).mono ?_
      rintro e w1 ⟨rfl, hb⟩
      have e1 := hr.out.2.2.trans (hb.mono hr.out.2.2.size)
      have o1 := hr.out.2.1.kept (row := none) (Below.grownBy hb none) (by cases hv : Value.ownBlock _ <;> simp)
      have E1 := Lib.hid e1; clear e1 hb
      have O1 := Lib.hid o1; clear o1
      go_wp2_with (at_builtin; refine wpList_append_own _ rfl _ _ 29 rfl w.heap.size 38 i0 (.agg #[.int .i64 0, .int .u64 0]) 2 16 Try.underlying29 Hi.out Hz0.out Hz1.out Hz2.out rfl (by decide) _ _ _ rfl ((O1.out.alloc _).alloc _) ⟨w1.heap.size + 1, 0, none⟩ 1 1 [.int .i64 k, .int .u64 (q : Int)] rfl rfl ?c1 ?c2 ?c3 ?c4 ?c5 ?_)
      case c1 => exact two_new _ _ _ _ (by simp)
      case c2 => intro u hu; simp at hu; rcases hu with rfl | rfl <;> rfl
      case c3 => unfold maxLen; omega
      case c4 => omega
      case c5 => have := E1.out.size; simp; omega
      intro v' w2 hown' hgrow _
      have hrel : Reads s (pre ++ [(k, q)]) (n + c) ∧ w2.ownsRow w.heap.size 38 2 v' (pre ++ [(k, q)]).length (recCells (pre ++ [(k, q)])) ∧ Below w.heap.size w w2 := by
        rw [recCells_app, List.length_append]
        refine ⟨Hst.out, hown', (((E1.out.alloc E1.out.size _).alloc (by have := E1.out.size; simp; omega) _).grown hgrow (by have := E1.out.size; simp; omega) (fun q hq => (O1.out.lt q hq).1))⟩
      have Hrel := Lib.hid hrel; clear hrel hown' hgrow
      go_wp2
      exact ⟨⟨n + c, pre ++ [(k, q)], by omega, by go_num, Hrel⟩, by simp [intOf]; omega⟩
    · obtain ⟨h1, h2⟩ := hr.out.1.stop he
      obtain ⟨x, c, e, hR⟩ : ∃ x c e, getR s n = (x, c, e) := ⟨_, _, _, rfl⟩
      have he2 : e ≠ 0 := by rw [hR] at he; exact he
      have he3 : ((e : Int) != 0) = true := by rw [bne_iff_ne]; omega
      have HR := Lib.hid hR; clear hR
      have He2 := Lib.hid he2; clear he2 he
      have H1 := Lib.hid h1; clear h1
      have H2 := Lib.hid h2; clear h2
      have hown := hr.out.2.1
      obtain ⟨g, cp, hv, hc1, hc2, hc3⟩ := RecsAt.of_own hown
      have hn2 := hr.out.1.1
      go_wp2_with fail
      refine (parse_bad s n _ (by unfold maxLen; omega) x c e HR.out He2.out).mono ?_
      rintro e w1 ⟨rfl, hb⟩
      subst hv
      have hfin : Hid (pre.length ≤ cp ∧ cp ≤ maxLen ∧ RecsAt (w1.alloc (.cells #[.int .i64 0, .int .u64 0] 38)) g pre ∧ Below w.heap.size w (w1.alloc (.cells #[.int .i64 0, .int .u64 0] 38))) := by
        have e1 := hr.out.2.2.trans (hb.mono hr.out.2.2.size)
        exact ⟨hc1, hc2, (hc3.below hb).below ((Below.refl _ _).alloc (Nat.le_refl _) _), e1.alloc e1.size _⟩
      clear hc1 hc2 hc3 hb hown hr
      go_wp2
      go_ret2
      refine ⟨g, cp, ?_⟩
      rw [← H1.out, ← H2.out]
      exact ⟨rfl, hfin⟩
end Go.Proofs.Ytnpmapmdeldnmaa
