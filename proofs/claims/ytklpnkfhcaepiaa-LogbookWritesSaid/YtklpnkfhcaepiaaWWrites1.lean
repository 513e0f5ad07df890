/-
  LogbookWrites: plain lemmas; the walk of the reference's Text.
-/
import Derived.Test.YtklpnkfhcaepiaaWLog5
import Derived.Test.YtklpnkfhcaepiaaWSome
import Derived.Test.YtklpnkfhcaepiaaWSeg3
import Derived.Test.YtklpnkfhcaepiaaRecsIn
import Derived.Test.YtklpnkfhcaepiaaInArgs
open Go Go.RowKit
set_option linter.unusedVariables false
namespace Go.Proofs.Ytklpnkfhcaepiaa
/-- Decisions in batches of so many. -/
def chunksF (n : Nat) : Nat → List Rec → List (List Rec)
  | 0, _ => []
  | f + 1, l => if l = [] then [] else l.take n :: chunksF n f (l.drop n)
theorem chunksF_nil (n f : Nat) : chunksF n f [] = [] := by cases f <;> simp [chunksF]
theorem chunks_of (n : Nat) (hn : 1 ≤ n) : ∀ (bat : List (List Rec)) (wait : List Rec) (f : Nat), (∀ x ∈ bat, x.length = n) → wait.length ≤ n → bat.length + 1 ≤ f → chunksF n f (bat.flatten ++ wait) = if wait = [] then bat else bat ++ [wait]
  | [], wait, f, _, hw, hf => by
    obtain ⟨f', rfl⟩ : ∃ f', f = f' + 1 := ⟨f - 1, by omega⟩
    by_cases h : wait = []
    · rw [h]; simp [chunksF_nil]
    · rw [if_neg h]; simp only [List.flatten_nil, List.nil_append, chunksF, if_neg h]
      rw [List.take_of_length_le hw, List.drop_of_length_le hw, chunksF_nil]
  | x :: bat, wait, f, hb, hw, hf => by
    obtain ⟨f', rfl⟩ : ∃ f', f = f' + 1 := ⟨f - 1, by simp at hf; omega⟩
    have hx := hb x (by simp)
    have hne : (x :: bat).flatten ++ wait ≠ [] := by
      intro e
      have := congrArg List.length e
      rw [List.flatten_cons, List.length_append, List.length_append, hx] at this; simp at this; omega
    rw [chunksF, if_neg hne, List.flatten_cons, List.append_assoc, List.take_append_of_le_length (by omega), List.take_of_length_le (by omega)]
    rw [show (x ++ (bat.flatten ++ wait)).drop n = bat.flatten ++ wait by rw [← hx, List.drop_left]]
    rw [chunks_of n hn bat wait f' (fun y hy => hb y (by simp [hy])) hw (by simp at hf; omega)]
    split <;> rfl
set_option maxRecDepth 100000 in
theorem size_rrec (w : World) : (sizeOf (Try.prog.elem 46)).run Try.prog w = .ok 2 w := by first | rfl | kernel_rfl
set_option maxRecDepth 100000 in
/-- l[k:] of a row of decisions. -/
theorem rec_tail (a0 : Option Addr) (m0 cap0 k0 : Nat) (l0 : List Rec) (hk : k0 ≤ m0) (hc : m0 ≤ cap0) (hl : l0.length = m0) :
    ∃ a', (∀ w, (Instr.slice 46 (.slice a0 m0 cap0) (some (.int .i64 (k0 : Int))) none none).run Try.prog w = .ok (.slice a' (m0 - k0) (cap0 - k0)) w) ∧ ∀ w, RecsAt w a0 l0 → RecsAt w a' (l0.drop k0) := by
  by_cases hc' : cap0 = k0
  · refine ⟨a0, fun w => ?_, fun w h i hi => ?_⟩
    · rw [run_slice_l (P := Try.prog) (t := 46) (ht := Try.underlying46) (kl := .i64) (l := (k0 : Int)) (h0 := by omega) (h1 := by omega), size_rrec]
      simp [Result.andThen, sliced, hc']
    · rw [List.length_drop] at hi; omega
  · refine ⟨a0.map fun x => x.add (k0 * 2), fun w => ?_, fun w h i hi => ?_⟩
    · rw [run_slice_l (P := Try.prog) (t := 46) (ht := Try.underlying46) (kl := .i64) (l := (k0 : Int)) (h0 := by omega) (h1 := by omega), size_rrec]
      simp [Result.andThen, sliced, hc']
    · rw [List.length_drop] at hi
      obtain ⟨b, off, rfl, h1, h2⟩ := h (k0 + i) (by omega)
      refine ⟨b, off + k0 * 2, by simp [Go.WideShapes.add_plain], ?_, ?_⟩
      · rw [List.getElem_drop, show off + k0 * 2 + i * 2 = off + (k0 + i) * 2 by omega]; exact h1
      · rw [List.getElem_drop, show off + k0 * 2 + i * 2 + 1 = off + (k0 + i) * 2 + 1 by omega]; exact h2
set_option maxRecDepth 100000 in
set_option maxHeartbeats 2000000 in
theorem rtext_any (a : Option Addr) (cap n : Nat) (l : List Rec) (w : World) (hl : l.length ≤ 100) (hlc : l.length ≤ cap) (hn : 1 ≤ n) (hn2 : n ≤ 400) (hok : ∀ r ∈ l, Rec.ok r) (hat : RecsAt w a l) :
    Calls Try.prog 31 #[.slice a l.length cap, .int .i64 (n : Int)] w fun e w' => e = .returned (.string ⟨(rowF 0 ((chunksF n (l.length + 1) l).map bodyA)).toArray⟩) ∧ Below w.heap.size w w' := by
  obtain ⟨Tx, hTx⟩ : ∃ Tx, Tx = rowF 0 ((chunksF n (l.length + 1) l).map bodyA) := ⟨_, rfl⟩
  rw [← hTx]
  have HT := Lib.hid hTx; clear hTx
  have HA := Lib.hid hat; clear hat
  have HK := Lib.hid hok; clear hok
  obtain ⟨m, hm⟩ : ∃ m, m = l.length := ⟨_, rfl⟩
  rw [← hm] at hl hlc ⊢
  have Hm := Lib.hid hm; clear hm
  go_enter Try.func31, Try.ntmps31
  go_wp2_with fail
  go_loopw [0, 5, 6, 7] (fun lv sv iv _ wr => ∃ i rr c : Nat, ∃ a' : Option Addr, ∃ U : ByteArray, i + rr ≤ m ∧ rr ≤ c ∧ U.size ≤ 1200 * i ∧ lv = .slice a' rr c ∧ sv = .string U ∧ iv = .int .i64 i ∧
      Hid (∃ lr f, lr.length = rr ∧ (∀ r ∈ lr, Rec.ok r) ∧ rr < f ∧ RecsAt wr a' lr ∧ Tx = U.data.toList ++ rowF i ((chunksF n f lr).map bodyA) ∧ Below w.heap.size w wr)) (fun _ _ iv _ _ => m - (intOf iv).toNat)
  case atStart => exact ⟨0, m, cap, a, ⟨#[]⟩, by omega, hlc, by decide, rfl, rfl, rfl, l, l.length + 1, Hm.out.symm, HK.out, by rw [Hm.out]; omega, HA.out, by rw [HT.out]; simp, Below.refl _ _⟩
  case round =>
    obtain ⟨i, rr, c, a', U, hir, hrc, hU, rfl, rfl, rfl, hr⟩ := hrel
    obtain ⟨lr, f, g1, g2, g3, g4, g5, g6⟩ := hr.out
    have G1 := Lib.hid g1
    have G2 := Lib.hid g2; clear g2
    have G4 := Lib.hid g4; clear g4
    have G6 := Lib.hid g6; clear g6 hr
    by_cases h0 : 0 < rr
    · obtain ⟨K, hK⟩ : ∃ K : Nat, K = min n rr := ⟨_, rfl⟩
      have hKm : min (n : Int) (rr : Int) = (K : Int) := by omega
      have hK1 : 1 ≤ K ∧ K ≤ rr := by omega
      obtain ⟨f', rfl⟩ : ∃ f', f = f' + 1 := ⟨f - 1, by omega⟩
      have hlne : lr ≠ [] := by intro e; rw [e] at g1; simp at g1; omega
      have htk : lr.take n = lr.take K := by rw [List.take_eq_take_iff]; omega
      have hdk : lr.drop n = lr.drop K := by
        by_cases hc : n ≤ rr
        · rw [show K = n by omega]
        · rw [List.drop_of_length_le (by omega), List.drop_of_length_le (by omega)]
      rw [chunksF, if_neg hlne, htk, hdk, List.map_cons, rowF] at g5
      have hlt : (lr.take K).length = K := by rw [List.length_take]; omega
      obtain ⟨a'', hs1, hs2⟩ := rec_tail a' rr c K lr (by omega) hrc g1
      have hs0 := fun w => slice_head (P := Try.prog) (t := 46) w Try.underlying46 size_rrec a' rr c K (by omega)
      have hbl := bytesL_len (lr.take K)
      obtain ⟨D, hD⟩ : ∃ D, D = bodyA (lr.take K) := ⟨_, rfl⟩
      have hDs : D.size ≤ 1100 := by rw [hD, bodyA_size]; omega
      obtain ⟨FF, hFF⟩ : ∃ FF, FF = ByteArray.mk (frameL i D.data.toList).toArray := ⟨_, rfl⟩
      have hFs : FF.size ≤ 1200 := by rw [hFF, size_list]; show (frameL i D.data.toList).length ≤ _; rw [frameL_len, ← size_list]; have := putL_len i; have := putL_len D.size; omega
      have hFl : FF.data.toList = frameL i D.data.toList := by rw [hFF]
      rw [← hD] at g5
      have hUs : (U ++ FF).size ≤ 1200 * (i + 1) := by rw [ByteArray.size_append]; omega
      have G5 := Lib.hid g5; clear g5 htk hdk hlne g1 hbl
      have HL := Lib.hid hlt; clear hlt
      have HD := Lib.hid hD; clear hD
      have HFF := Lib.hid hFF; clear hFF
      have HFL := Lib.hid hFl; clear hFl
      have HS2 := Lib.hid hs2; clear hs2 hK
      go_wp2_with fail
      have hb := rbytes_any a' c (lr.take K) wr (by rw [HL.out]; omega) (fun r hr => G2.out r (List.mem_of_mem_take hr)) (G4.out.take K)
      rw [HL.out] at hb
      refine hb.mono ?_
      rintro e w1 ⟨rfl, hb1⟩
      rw [show ByteArray.mk (bytesL (lr.take K)).toArray = D from HD.out.symm]
      have B1 := Lib.hid (below_on G6.out hb1)
      have R1 := Lib.hid (HS2.out _ (G4.out.below hb1)); clear hb1 hb
      go_wp2_with fail
      refine (rframe_any i D _ (by omega) (by omega)).mono ?_
      rintro e w2 ⟨rfl, hb2⟩
      rw [← HFF.out]
      have B2 := Lib.hid (below_on B1.out hb2)
      have R2 := Lib.hid (R1.out.below hb2); clear hb2
      go_wp2
      exact ⟨⟨i + 1, rr - K, c - K, a'', U ++ FF, by omega, by omega, hUs, rfl, rfl, by go_num, lr.drop K, f', by rw [List.length_drop, G1.out], fun r hr => G2.out r (List.mem_of_mem_drop hr), by omega, R2.out, by rw [G5.out, app_list, HFL.out, List.append_assoc], B2.out⟩, by simp [intOf]; omega⟩
    · have hrr : rr = 0 := by omega
      have hlr : lr = [] := List.length_eq_zero_iff.1 (by rw [g1, hrr])
      rw [hlr, chunksF_nil, List.map_nil, rowF, List.append_nil] at g5
      have G5 := Lib.hid g5; clear g5 hlr g1
      subst hrr
      go_wp2
      go_ret
      exact ⟨ret_string (bytes_ext G5.out.symm), G6.out⟩
end Go.Proofs.Ytklpnkfhcaepiaa
