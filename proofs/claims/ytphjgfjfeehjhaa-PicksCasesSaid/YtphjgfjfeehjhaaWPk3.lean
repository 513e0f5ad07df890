/-
  The walk of Leave.
-/
import Derived.Test.YtphjgfjfeehjhaaWPk1
open Go Go.RowKit
set_option linter.unusedVariables false
namespace Go.Proofs.Ytphjgfjfeehjhaa
set_option maxRecDepth 100000 in
set_option maxHeartbeats 2000000 in
theorem leave_any {w0 w : World} {ps : List Pl} {Cs : List Ch} {R : List Asr} {la : Option Addr} {lc n : Nat} (h : Own w0 w (chs ps Cs ++ RowGA 1 la lc n (ptrs ps) :: R)) (hn : n = ps.length) (hl : ps.length = Cs.length) (g : Int) (hB : Lim 100000 Cs) (hn2 : n ≤ 100000) :
    Calls Try.prog 15 #[.int .i64 g, .slice la n lc] w fun r w' => r = .returned (.tuple #[]) ∧ Own w0 w' (chs ps (Cs.map (leF g)) ++ RowGA 1 la lc n (ptrs ps) :: R) := by
  have H := Lib.hid h
  have HN := Lib.hid hn
  have HL := Lib.hid hl
  have HBB := Lib.hid hB
  clear h hn hl hB
  go_enter Try.func15, Try.ntmps15
  go_wp2_with fail
  go_loopw [8] (fun s wr => ∃ i : Nat, i ≤ n ∧ s = .int .i64 i ∧ Hid (Own w0 wr (chs ps ((Cs.take i).map (leF g) ++ Cs.drop i) ++ RowGA 1 la lc n (ptrs ps) :: R))) (fun s _ => n - (intOf s).toNat)
  case atStart => exact ⟨0, by omega, rfl, Lib.hid (by simpa using H.out)⟩
  case round =>
    obtain ⟨i, hi, rfl, hr⟩ := hrel
    by_cases hlt : i < n
    · have hjn : i < ps.length := by have := HN.out; omega
      have hjC : i < Cs.length := by rw [← HL.out]; exact hjn
      have hp : ps[i]? = some ps[i] := List.getElem?_eq_getElem hjn
      obtain ⟨C, hCe⟩ : ∃ C, C = Cs[i] := ⟨_, rfl⟩
      have hd : Cs.drop i = C :: Cs.drop (i + 1) := by rw [hCe]; exact List.drop_eq_getElem_cons hjC
      have htl : ((Cs.take i).map (leF g)).length = i := by simp; omega
      have hC : ((Cs.take i).map (leF g) ++ Cs.drop i)[i]? = some C := by rw [List.getElem?_append_right (by omega), htl, Nat.sub_self, hd]; rfl
      have hlim := HBB.out C (by rw [hCe]; exact List.getElem_mem hjC)
      have hset : ((Cs.take i).map (leF g) ++ Cs.drop i).set i (leF g C) = (Cs.take (i + 1)).map (leF g) ++ Cs.drop (i + 1) := by
        rw [List.set_append_right _ _ (by omega), htl, Nat.sub_self, hd, List.set_cons_zero, List.take_succ_eq_append_getElem hjC, List.map_append, List.append_assoc, ← hCe]; rfl
      generalize ps[i] = p at hp
      obtain ⟨pb, poff, rfl, gp⟩ := chPtr hr.out hp
      obtain ⟨R', hR, hback⟩ := hr.out.chPick hp hC
      have hw := cdrop_any hR g hlim.2.1 hlim.2.2
      have HW := Lib.hid hw
      have HX := Lib.hid (fun (w' : World) (h' : Own w0 w' (ChanA p.1 p.2 (leF g C) :: R')) => (show Own w0 w' (chs ps ((Cs.take (i + 1)).map (leF g) ++ Cs.drop (i + 1)) ++ RowGA 1 (some ⟨pb, poff, none⟩) lc n (ptrs ps) :: R) from by rw [← hset]; exact hback w' _ h'))
      have hli : (i : Int) < (n : Int) := by omega
      clear hr hw hback hR hset hC hd htl hp hlim hCe hjC
      go_wp2_with fail
      refine HW.out.mono ?_
      rintro r w3 ⟨rfl, h3⟩
      have HR := Lib.hid (HX.out _ h3)
      clear h3
      go_wp2
      exact ⟨⟨i + 1, by omega, by go_num, HR⟩, by simp [intOf]; omega⟩
    · have hge : ¬ (i : Int) < (n : Int) := by omega
      have hf : Own w0 wr (chs ps (Cs.map (leF g)) ++ RowGA 1 la lc n (ptrs ps) :: R) := by
        have h1 := hr.out
        have hCl : Cs.length = n := by rw [← HL.out]; exact HN.out.symm
        rw [List.take_of_length_le (by omega), List.drop_of_length_le (by omega), List.append_nil] at h1
        exact h1
      have HF := Lib.hid hf
      clear hr hf
      go_wp2
      go_end0
      exact ⟨rfl, HF.out⟩
end Go.Proofs.Ytphjgfjfeehjhaa
