/-
  The walk of logbook.Open.
-/
import Derived.Test.YtnpmapmdeldnmaaWLog3
import Derived.Test.YtnpmapmdeldnmaaWStore4
open Go Go.RowKit
set_option linter.unusedVariables false
namespace Go.Proofs.Ytnpmapmdeldnmaa
/-- The store behind an Open; the book. -/
def SSt.opened (s : SSt) : SSt := if lastEnd (readR ⟨s.bs.toArray⟩) < s.bs.length then s.cut (lastEnd (readR ⟨s.bs.toArray⟩)) else s
def sizeOf_ (z : Int) : Nat := (min (max z 1) 400).toNat
def openedB (bs : List UInt8) (z : Int) : BSt := ⟨sizeOf_ z, (readR ⟨bs.toArray⟩).length, (recsOf (readR ⟨bs.toArray⟩)).length, []⟩
theorem readR_len (s : ByteArray) : (readR s).length ≤ s.size + 1 := by
  have := scanR_len s 0
  have h2 : (readR s).length ≤ (scanR s 0).length := by unfold readR; exact (List.takeWhile_sublist _).length_le
  omega
theorem recsOf_len : ∀ (l : List (ByteArray × Nat)), (∀ x ∈ l, x.1.size ≤ 4096) → (recsOf l).length ≤ 4096 * l.length
  | [], _ => by simp [recsOf]
  | x :: l, h => by
    have h1 := recsOf_len l (fun y hy => h y (by simp [hy]))
    have h2 := allF_size x.1
    have h3 := h x (by simp)
    have e : recsOf (x :: l) = (allR x.1).1 ++ recsOf l := rfl
    rw [e, List.length_append, List.length_cons]; omega
theorem scanF_small : ∀ (f : Nat) (s : ByteArray) (a q : Nat), ∀ x ∈ scanF f s a q, x.1.size ≤ 4096 ∧ x.2 ≤ s.size
  | 0, s, a, q, x, h => by simp [scanF] at h
  | f + 1, s, a, q, x, h => by
    by_cases hc : (openR s a).2.2.2 = 0 ∧ (openR s a).1 = q
    · obtain ⟨R, hR⟩ : ∃ R, openR s a = R := ⟨_, rfl⟩
      obtain ⟨r1, b, e, r4⟩ := R
      rw [hR] at hc
      simp only at hc
      obtain ⟨rfl, rfl⟩ := hc
      rw [scanF_step f s a r1 e b hR] at h
      obtain ⟨n1, n2, n3, n4⟩ := openR_next s a r1 e b hR
      rw [List.mem_cons] at h
      rcases h with rfl | h
      · exact ⟨n3, n2⟩
      · exact scanF_small f s e _ x h
    · rw [scanF_stop _ _ _ _ hc] at h; simp at h
theorem readR_small (s : ByteArray) : ∀ x ∈ readR s, x.1.size ≤ 4096 ∧ x.2 ≤ s.size := fun x h => scanF_small _ _ _ _ x ((List.takeWhile_sublist _).subset h)
theorem lastEnd_le (l : List (ByteArray × Nat)) (m : Nat) (h : ∀ x ∈ l, x.2 ≤ m) : lastEnd l ≤ m := by
  unfold lastEnd
  cases hl : l.getLast? with
  | none => simp
  | some x => simp; exact h x (List.mem_of_getLast? hl)
theorem sizeOf_eq (z : Int) : ((sizeOf_ z : Nat) : Int) = min (max z 1) 400 := by unfold sizeOf_; omega
theorem Log.fresh {w0 w : World} {p : Nat} {s : SSt} {F : List Nat} (h1 : StoreAt w p s F) (h2 : ∀ x ∈ F, w0.heap.size ≤ x) (h3 : Below w0.heap.size w0 w) (z : Int) (n m : Nat) (hn : n ≤ 1099511627776) (hm : m ≤ 1099511627776) (t : TypeId) :
    Log w0 (w.alloc (.cells #[.pointer (some ⟨p, 0, none⟩), .int .i64 (min (max z 1) 400), .int .u64 (n : Int), .int .i64 (m : Int), .slice none 0 0] t)) p w.heap.size s ⟨sizeOf_ z, n, m, []⟩ := by
  refine ⟨F, [w.heap.size], h1.chg (Chg.of_below (F := []) (below_alloc1 _ _)) (fun _ _ => by simp), ⟨⟨by simp only; unfold sizeOf_; omega, by simp only; unfold sizeOf_; omega, hn, hm, by simp, fun r hr => by simp at hr⟩, .slice none 0 0, by simp [Value.ownBlock], by simp [Value.ownBlock], ?_, World.ownsRow_nil _ _ _ _⟩, fun x hx => ?_, h2, fun x hx => ?_, below_on h3 (below_alloc1 _ _)⟩
  · have e : BSt.cells ⟨sizeOf_ z, n, m, []⟩ p (.slice none 0 0) = [.pointer (some ⟨p, 0, none⟩), .int .i64 (min (max z 1) 400), .int .u64 (n : Int), .int .i64 (m : Int), .slice none 0 0] := by
      simp [BSt.cells, sizeOf_eq]
    rw [e]
    exact Blk.mk _ _ _ _ rfl
  · simp at hx; subst hx; intro hF; have := h1.lt _ hF; omega
  · simp at hx; subst hx; exact h3.size
set_option maxRecDepth 100000 in
set_option maxHeartbeats 2000000 in
theorem lopen_any {w0 w : World} {p : Nat} {s : SSt} (h : Inv w0 w p s) (z : Int) (hz1 : -9223372036854775808 ≤ z) (hz2 : z ≤ 9223372036854775807) (ha : s.armed = false) (hl : s.bs.length ≤ 1048576) :
    Calls Try.prog 6 #[.pointer (some ⟨p, 0, none⟩), .int .i64 z] w fun e w' => ∃ pb a cap, e = .returned (.tuple #[.pointer (some ⟨pb, 0, none⟩), .slice a (recsOf (readR ⟨s.bs.toArray⟩)).length cap, .int .i64 0]) ∧
      (recsOf (readR ⟨s.bs.toArray⟩)).length ≤ cap ∧ cap ≤ maxLen ∧ RecsAt w' a (recsOf (readR ⟨s.bs.toArray⟩)) ∧ Log w0 w' p pb s.opened (openedB s.bs z) := by
  obtain ⟨T, hT⟩ : ∃ T, T = ByteArray.mk s.bs.toArray := ⟨_, rfl⟩
  have hTs : T.size = s.bs.length := by rw [hT, size_list]
  have hop : s.opened = if lastEnd (readR T) < s.bs.length then s.cut (lastEnd (readR T)) else s := by rw [hT]; rfl
  have hob : openedB s.bs z = ⟨sizeOf_ z, (readR T).length, (recsOf (readR T)).length, []⟩ := by rw [hT]; rfl
  rw [← hT]
  have hrl := readR_len T
  have hrs := readR_small T
  have hrc := recsOf_len (readR T) (fun x hx => (hrs x hx).1)
  have hle := lastEnd_le (readR T) s.bs.length (fun x hx => by rw [← hTs]; exact (hrs x hx).2)
  obtain ⟨R, hR⟩ : ∃ R, R = readR T := ⟨_, rfl⟩
  rw [← hR] at hop hob hrl hrs hrc hle ⊢
  obtain ⟨E, hE⟩ : ∃ E, E = lastEnd R := ⟨_, rfl⟩
  obtain ⟨n, hn⟩ : ∃ n, n = R.length := ⟨_, rfl⟩
  obtain ⟨L, hL⟩ : ∃ L, L = recsOf R := ⟨_, rfl⟩
  rw [← hE] at hop hle
  rw [← hn] at hob hrl hrc
  rw [← hL] at hob hrc ⊢
  obtain ⟨m, hm⟩ : ∃ m, m = L.length := ⟨_, rfl⟩
  rw [← hm] at hob hrc ⊢
  have hn2 : n ≤ 1048577 := by omega
  have hm2 : m ≤ 4294971392 := by omega
  clear hrs hrl hrc
  obtain ⟨N, hN⟩ : ∃ N, N = s.bs.length := ⟨_, rfl⟩
  rw [← hN] at hop hle hl hTs
  have HT := Lib.hid hT; clear hT
  have HR := Lib.hid hR; clear hR
  have HE := Lib.hid hE; clear hE
  have HN := Lib.hid hn; clear hn
  have HL := Lib.hid hL; clear hL
  have HM := Lib.hid hm; clear hm
  have HNN := Lib.hid hN; clear hN
  have HOP := Lib.hid hop; clear hop
  have HOB := Lib.hid hob; clear hob
  have HI := Lib.hid h; clear h
  have hTs2 : T.size ≤ 1048576 := by omega
  clear hTs
  go_enter Try.func6, Try.ntmps6
  go_wp2_with fail
  refine (inv_bytes HI.out).mono ?_
  rintro e w1 ⟨rfl, rfl⟩
  rw [← HT.out]
  go_wp2_with fail
  refine (read_any T _ hTs2).mono ?_
  rintro e w1 ⟨a, cap, rfl, hc1, hc2, hat, hb1, hloc⟩
  rw [← HR.out, ← HE.out, ← HN.out, ← HL.out, ← HM.out]
  rw [← HR.out, ← HL.out] at hat
  rw [← HR.out, ← HL.out, ← HM.out] at hc1
  have I1 := Lib.hid (HI.out.step hb1)
  obtain ⟨F, i1, i2, i3⟩ := HI.out
  have hFl := i1.lt
  have i1' := i1.chg (Chg.of_below (F := []) hb1) (fun _ _ => by simp)
  have i3' := below_on i3 hb1
  have A1 := Lib.hid hat; clear hat hb1 i1 i3
  have LOC := Lib.hid hloc; clear hloc
  have A2 := Lib.hid i1'; clear i1'
  have A3 := Lib.hid i2; clear i2
  have A4 := Lib.hid i3'; clear i3'
  have AF := Lib.hid hFl; clear hFl
  go_wp2_with fail
  refine (inv_len I1.out).mono ?_
  rintro e w2 ⟨rfl, rfl⟩
  rw [← HNN.out]
  by_cases hlt : E < N
  · have hs2 : s.opened = s.cut E := by rw [HOP.out, if_pos hlt]
    have HS2 := Lib.hid hs2; clear hs2
    have hcE : s.cutE = 0 := by unfold SSt.cutE SSt.may; rw [ha]; rfl
    have HCE := Lib.hid hcE; clear hcE
    go_wp2_with fail
    refine (scut_any p s F E _ A2.out (by have := HNN.out; omega)).mono ?_
    rintro e w3 ⟨rfl, s3, c3⟩
    rw [HCE.out]
    have R3 := Lib.hid (A1.out.chg c3 (fun g o t e hF => by have h1 := LOC.out g o t e; have h2 := AF.out g hF; omega))
    have S3 := Lib.hid s3; clear s3
    have B3 := Lib.hid (Chg.below A4.out c3 A3.out); clear c3
    go_wp2
    go_ret3
    refine ⟨w3.heap.size, a, cap, rfl, hc1, hc2, R3.out.below (below_alloc1 _ _), ?_⟩
    rw [HS2.out, HOB.out]
    exact Log.fresh S3.out A3.out B3.out z n m (by omega) (by omega) _
  · have hs2 : s.opened = s := by rw [HOP.out, if_neg hlt]
    have HS2 := Lib.hid hs2; clear hs2
    go_wp2
    go_ret3
    refine ⟨w1.heap.size, a, cap, rfl, hc1, hc2, A1.out.below (below_alloc1 _ _), ?_⟩
    rw [HS2.out, HOB.out]
    exact Log.fresh A2.out A3.out A4.out z n m (by omega) (by omega) _
end Go.Proofs.Ytnpmapmdeldnmaa
