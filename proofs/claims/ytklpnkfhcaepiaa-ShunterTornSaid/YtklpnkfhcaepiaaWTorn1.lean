/-
  ShunterTorn: plain lemmas; the walk of live.
-/
import Derived.Test.YtklpnkfhcaepiaaWLog5
import Derived.Test.YtklpnkfhcaepiaaBurst
open Go Go.RowKit
set_option linter.unusedVariables false
namespace Go.Proofs.Ytklpnkfhcaepiaa.shunterTorn
open Go.Proofs.Ytklpnkfhcaepiaa.burst
/-- Where the segments of a log end. -/
def endsB (bat : List (List Rec)) : List Nat := (List.range (bat.length + 1)).map fun j => (logL (bat.take j)).length
theorem endsB_len (bat : List (List Rec)) : (endsB bat).length = bat.length + 1 := by unfold endsB; simp
theorem endsB_at (bat : List (List Rec)) (j : Nat) (h : j < (endsB bat).length) : (endsB bat)[j] = (logL (bat.take j)).length := by simp only [endsB, List.getElem_map, List.getElem_range]
theorem endsB_snoc (bat : List (List Rec)) (x : List Rec) : endsB (bat ++ [x]) = endsB bat ++ [(logL (bat ++ [x])).length] := by
  apply List.ext_getElem
  · rw [endsB_len, List.length_append, List.length_append, endsB_len]; rfl
  · intro j h1 h2
    rw [endsB_len, List.length_append, List.length_singleton] at h1
    rw [endsB_at]
    by_cases hj : j < (endsB bat).length
    · rw [List.getElem_append_left hj, endsB_at, List.take_append_of_le_length (by rw [endsB_len] at hj; omega)]
    · rw [endsB_len] at hj
      rw [List.getElem_append_right (by rw [endsB_len]; omega), List.take_of_length_le (by rw [List.length_append, List.length_singleton]; omega)]
      simp
/-- All batches but the last one are full. -/
def Full (n : Nat) (bat : List (List Rec)) : Prop := ∀ j (h : j < bat.length), j + 1 < bat.length → bat[j].length = n
theorem Full.take {n : Nat} {bat : List (List Rec)} (h : Full n bat) (k : Nat) (hk : k < bat.length) : (bat.take k).flatten.length = k * n ∧ (bat.take k).flatten = bat.flatten.take (k * n) := by
  have h1 : (bat.take k).flatten.length = k * n := by
    induction k with
    | zero => simp
    | succ k ih =>
      have hk' : k < bat.length := by omega
      rw [List.take_succ_eq_append_getElem hk', List.flatten_append, List.length_append, ih hk']
      have := h k hk' hk
      simp only [List.flatten_cons, List.flatten_nil, List.append_nil]
      rw [this, Nat.succ_mul]
  refine ⟨h1, ?_⟩
  have h2 : bat.flatten = (bat.take k).flatten ++ (bat.drop k).flatten := by rw [← List.flatten_append, List.take_append_drop]
  rw [h2, ← h1, List.take_left]
theorem logL_split (bat : List (List Rec)) (k : Nat) (hk : k < bat.length) : logL bat = logL (bat.take k) ++ (frameL k (bytesL bat[k]) ++ rowF (k + 1) ((bat.drop (k + 1)).map bodyA)) := by
  unfold logL
  have e : bat.map bodyA = (bat.take k).map bodyA ++ ((bodyA bat[k]) :: (bat.drop (k + 1)).map bodyA) := by
    rw [← List.map_cons, ← List.drop_eq_getElem_cons hk, ← List.map_append, List.take_append_drop]
  conv => lhs; rw [e]
  rw [rowF_app, List.length_map, List.length_take, show min k bat.length = k by omega, Nat.zero_add, rowF, bodyA_list]
theorem logL_take (bat : List (List Rec)) (k : Nat) (hk : k < bat.length) : logL (bat.take (k + 1)) = logL (bat.take k) ++ frameL k (bytesL bat[k]) := by
  rw [List.take_succ_eq_append_getElem hk, logL_snoc, List.length_take, show min k bat.length = k by omega]
/-- Open of a log's segment. -/
theorem open_log (s : ByteArray) (bat : List (List Rec)) (k : Nat) (hk : k < bat.length) (h : s.data.toList = logL bat) (hb : Bat bat) (hl : bat.length ≤ 1000000) :
    openR s ((logL (bat.take k)).length : Nat) = (k, bodyA bat[k], (logL (bat.take (k + 1))).length, 0) := by
  have hsz := congrArg List.length h
  rw [← size_list, logL_split bat k hk, List.length_append, List.length_append] at hsz
  have hbl := bytesL_len bat[k]
  have hb2 := (hb bat[k] (List.getElem_mem hk)).2.1
  rw [logL_take bat k hk, List.length_append]
  exact openR_frame s _ k (bytesL bat[k]) (rowF (k + 1) ((bat.drop (k + 1)).map bodyA)) (by omega) (by omega) (by omega) (by
    unfold from_; rw [h, logL_split bat k hk, List.drop_left])
/-- Read of a log of which one segment is spoilt. -/
theorem read_spoilt (bat : List (List Rec)) (k B : Nat) (cs : List UInt8) (hk : k < bat.length) (hb : Bat bat) (hl : bat.length ≤ 1000000) (hlen : cs.length = (logL bat).length)
    (h : ∀ i, (i < 8 * ((logL (bat.take k)).length + (headL k (bytesL bat[k]).length).length) + B ∨ 8 * ((logL (bat.take k)).length + (headL k (bytesL bat[k]).length).length) + B + 32 ≤ i ∨ 8 * ((logL (bat.take k)).length + (headL k (bytesL bat[k]).length).length + (bytesL bat[k]).length) ≤ i) → bitAt cs i = bitAt (logL bat) i)
    (hne : cs ≠ logL bat) : recsOf (readR ⟨cs.toArray⟩) = (bat.take k).flatten ∧ lastEnd (readR ⟨cs.toArray⟩) = (logL (bat.take k)).length ∧ (readR ⟨cs.toArray⟩).length = k := by
  have hsp := logL_split bat k hk
  have hbl := bytesL_len bat[k]
  have hb2 := (hb bat[k] (List.getElem_mem hk)).2.1
  rw [hsp] at hlen h hne
  obtain ⟨ht, more', hm⟩ := told k B (bytesL bat[k]) (logL (bat.take k)) _ cs (by omega) (by omega) hlen h hne
  have hbt : Bat (bat.take k) := fun x hx => hb x (List.mem_of_mem_take hx)
  have htl : (bat.take k).length = k := by rw [List.length_take]; omega
  obtain ⟨r1, r2, r3, r4⟩ := read_log ⟨cs.toArray⟩ (bat.take k) more' hm hbt (by omega) (by rw [ht]; intro hc; simp at hc)
  exact ⟨r2, r3, by rw [r4, htl]⟩
theorem live_b : (frameL 0 []).length = 8 := by rw [frameL_len]; rfl
set_option maxRecDepth 100000 in
set_option maxHeartbeats 1000000 in
theorem live_any (w : World) : Calls Try.prog 38 #[] w fun e w' => e = .returned (.bool true) ∧ Below w.heap.size w w' := by
  have h8 := live_b
  obtain ⟨F, hF⟩ : ∃ F, F = ByteArray.mk (frameL 0 []).toArray := ⟨_, rfl⟩
  have hFs : F.size = 8 := by rw [hF, size_list]; exact h8
  have HF := Lib.hid hF; clear hF h8
  go_enter Try.func38, Try.ntmps38
  go_wp2_with fail
  refine (frame_any 0 ⟨#[]⟩ _ (by omega) (by decide)).mono ?_
  rintro e w1 ⟨rfl, hb1⟩
  rw [show (ByteArray.mk #[]).data.toList = [] from rfl, ← HF.out]
  have Hb1 := Lib.hid hb1; clear hb1
  go_wp2_with fail
  refine (bytes1_any 1 3 _ (by decide)).mono ?_
  rintro e w2 ⟨rfl, hb2⟩
  rw [awake_bytes]
  have Hb2 := Lib.hid (below_on Hb1.out hb2); clear hb2
  go_wp2
  go_ret
  exact ⟨rfl, Hb2.out⟩
end Go.Proofs.Ytklpnkfhcaepiaa.shunterTorn
