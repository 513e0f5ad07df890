/-
  The walk of the document's Leave.
-/
import Derived.Test.YtphjgfjfeehjhaaRfW
import Derived.Test.YtphjgfjfeehjhaaPkF
open Go Go.RowKit
set_option linter.unusedVariables false
namespace Go.Proofs.Ytphjgfjfeehjhaa
theorem rfs_snoc (xs : List Rf) (y : Rf) : rfs (xs ++ [y]) = rfs xs ++ rfc y := by unfold rfs; rw [List.flatMap_append]; simp
/-- Amid the loop. -/
def LeSt (w0 w : World) (R : List Asr) (rs : List Rw) (xs : List Rf) (g : Int) (i : Nat) (oa : Option Addr) (oc : Nat) (wr : World) (xs' : List Rf) (rs' : List Rw) : Prop :=
  Own w0 wr (RowGA 5 oa oc i (rfs xs') :: PoolR rs' :: R) ∧ Below w.heap.size w wr ∧ (∀ x ∈ blk oa, w.heap.size ≤ x) ∧ (∀ x ∈ xs', x.In rs') ∧ (∀ q ∈ rs, q ∈ rs') ∧ xs'.map (·.C) = ((xs.take i).map (·.C)).map (leF g) ∧ xs'.map (·.N) = (xs.take i).map (·.N)
set_option maxRecDepth 100000 in
set_option maxHeartbeats 4000000 in
theorem xleave_any {w0 w : World} {R : List Asr} {rs : List Rw} (h : Own w0 w (PoolR rs :: R)) (xa : Option Addr) (n xc : Nat) (xs : List Rf) (hx : CellsAt w xa (rfs xs)) (hn : n = xs.length) (hxi : ∀ x ∈ xs, x.In rs) (g : Int) (hB : Lim 100000 (xs.map (·.C))) (hn2 : n ≤ 1000) :
    Calls Try.prog 16 #[.int .i64 g, .slice xa n xc] w fun r w' => XWaited w0 w R rs n (xs.map (·.N)) ((xs.map (·.C)).map (leF g)) r w' := by
  have H := Lib.hid h
  have HX := Lib.hid hx
  have HN := Lib.hid hn
  have HXI := Lib.hid hxi
  have HLB := Lib.hid hB
  clear h hx hn hxi hB
  obtain ⟨j0, hi0, hz0, hz1, hz2⟩ := info_parts info_xc
  have Ji := Lib.hid hi0; clear hi0
  have Jz0 := Lib.hid hz0; clear hz0
  have Jz1 := Lib.hid hz1; clear hz1
  have Jz2 := Lib.hid hz2; clear hz2
  go_enter Try.func16, Try.ntmps16
  go_upto_region 2 with fail
  have HST : Hid (LeSt w0 w R rs xs g 0 (some ⟨w.heap.size, 0, none⟩) 0 (w.alloc (.cells #[] 53)) [] rs) := Lib.hid ⟨H.out.add (below_alloc1 _ _) (A := RowGA 5 (some ⟨w.heap.size, 0, none⟩) 0 0 (rfs [])) (F := [w.heap.size]) ⟨rfl, RowG.zero (by simp)⟩ (fun x hx => by simp at hx; omega), below_alloc1 _ _, fun x hx => by simp [blk] at hx; omega, fun x hx => by simp at hx, fun _ h => h, rfl, rfl⟩
  go_wp2_with fail
  go_loopw [5, 11] (fun s5 s11 wr => ∃ i : Nat, ∃ oa oc xs' rs', i ≤ n ∧ s11 = .int .i64 i ∧ s5 = .slice oa i oc ∧ Hid (LeSt w0 w R rs xs g i oa oc wr xs' rs')) (fun _ s11 _ => n - (intOf s11).toNat)
  case atStart => exact ⟨0, _, 0, [], rs, by omega, rfl, rfl, HST⟩
  case round =>
    obtain ⟨i, oa, oc, xs', rs', hi, rfl, rfl, hr⟩ := hrel
    obtain ⟨r1, r2, r2b, r3, r4, r5, r6⟩ := hr.out
    clear HST
    by_cases hlt : i < n
    · have hil : i < xs.length := by have := HN.out; omega
      obtain ⟨X, hX⟩ : ∃ X, xs[i]? = some X := ⟨_, List.getElem?_eq_getElem hil⟩
      have hXm := List.mem_of_getElem? hX
      have htk : xs.take (i + 1) = xs.take i ++ [X] := by rw [List.take_add_one, hX]; rfl
      have hlim := HLB.out X.C (List.mem_map.2 ⟨X, hXm, rfl⟩)
      have hin := (HXI.out X hXm).mono r4
      obtain ⟨ob, oo, rfl, x0, x1, x2, x3, x4⟩ := (HX.out.below r2).rf hX
      have obl : ob < wr.heap.size := World.block_lt_of_cell? _ _ x0
      have hli : (i : Int) < (n : Int) := by omega
      obtain ⟨N, C, ba, bc, sa, sc, ra, rc⟩ := X
      simp only at x0 x1 x2 x3 x4 hlim
      obtain ⟨n1, hn1⟩ : ∃ n, n = C.buf.length := ⟨_, rfl⟩
      obtain ⟨n2, hn2⟩ : ∃ n, n = C.S.length := ⟨_, rfl⟩
      obtain ⟨n3, hn3⟩ : ∃ n, n = C.R.length := ⟨_, rfl⟩
      obtain ⟨cl, hcl⟩ : ∃ n, n = C.cl := ⟨_, rfl⟩
      have hW := r1.step (below_alloc1 wr (.cells #[.int .i64 (N : Int), .slice ba n1 bc, .slice sa n2 sc, .slice ra n3 rc, .bool cl] 53))
      have hd := xdrop_any (wr.alloc (.cells #[.int .i64 (N : Int), .slice ba n1 bc, .slice sa n2 sc, .slice ra n3 rc, .bool cl] 53)) N C g ba bc sa sc ra rc (hW.pool 1 rfl hin) hlim.2.1 hlim.2.2
      unfold xcv at hd
      rw [← hn1, ← hn2, ← hn3, ← hcl] at hd
      rw [← hn1] at x1
      rw [← hn2] at x2
      rw [← hn3] at x3
      rw [← hcl] at x4
      have HD := Lib.hid hd
      have HWO := Lib.hid hW
      have H1 := Lib.hid (And.intro hn1 (And.intro hn2 (And.intro hn3 hcl)))
      have HRR := Lib.hid (show _ ∧ _ ∧ _ ∧ _ ∧ _ ∧ _ from ⟨r2, r2b, r3, r4, r5, r6⟩)
      have HIN := Lib.hid hin
      have HTK := Lib.hid htk
      clear hr r1 r2 r2b r3 r4 r5 r6 hd hW hn1 hn2 hn3 hcl hin htk hX hXm hlim
      go_wp2_with fail
      refine HD.out.mono ?_
      rintro r w3 ⟨a', c', b', d', rfl, k1, k2, k3, k4⟩
      obtain ⟨r2, r2b, r3, r4, r5, r6⟩ := HRR.out
      have hlen : xs'.length = i := by have := congrArg List.length r6; simp at this; omega
      have hxo : XOut (wr.alloc (.cells #[.int .i64 (N : Int), .slice ba n1 bc, .slice sa n2 sc, .slice ra n3 rc, .bool cl] 53)) w3 (blk ba ++ (blk sa ++ blk ra)) ba bc a' c' b' d' (leF g C) := by
        have hat := (HWO.out.pool 1 rfl HIN.out)
        refine ⟨⟨hat.1.below k4, k1, k2⟩, fun x hx => ?_, k4⟩
        rcases List.mem_append.1 hx with h | h
        · exact .inl (List.mem_append.2 (.inl h))
        · exact .inr (k3 x h)
      obtain ⟨rs'', o3, hin3, hm3⟩ := Own.xAdd (HWO.out.pick 1 rfl) HIN.out hxo
      have HO3 := Lib.hid o3
      have hb3 := below_on (below_on r2 (below_alloc1 wr (.cells #[.int .i64 (N : Int), .slice ba n1 bc, .slice sa n2 sc, .slice ra n3 rc, .bool cl] 53))) k4
      obtain ⟨m2, hm2⟩ : ∃ m, m = (dropW g C.S).length := ⟨_, rfl⟩
      obtain ⟨m3, hm3'⟩ : ∃ m, m = (dropW g C.R).length := ⟨_, rfl⟩
      rw [← hm2, ← hm3']
      obtain ⟨Y, hY⟩ : ∃ Y : Rf, Y = ⟨N, leF g C, ba, bc, a', c', b', d'⟩ := ⟨_, rfl⟩
      have hYc : rfc Y = [.int .i64 (N : Int), .slice ba n1 bc, .slice a' m2 c', .slice b' m3 d', .bool cl] := by
        rw [hY, H1.out.1, hm2, hm3', H1.out.2.2.2]; rfl
      have HYC := Lib.hid hYc
      have hst : ∀ a5 c5 w5, RowG 5 w5 a5 c5 (i + 1) (rfs xs' ++ rfc Y) → Chg (blk oa) (w3.alloc (.cells #[.int .i64 (N : Int), .slice ba n1 bc, .slice a' m2 c', .slice b' m3 d', .bool cl] 53)) w5 → (∀ x ∈ blk a5, x ∈ blk oa ∨ w3.heap.size + 1 ≤ x) → LeSt w0 w R rs xs g (i + 1) a5 c5 w5 (xs' ++ [Y]) rs'' := fun a5 c5 w5 q1 q2 q3 => by
        have q4 := Own.rowTurn ((HO3.out.step (below_alloc1 w3 (.cells #[.int .i64 (N : Int), .slice ba n1 bc, .slice a' m2 c', .slice b' m3 d', .bool cl] 53))).pick 1 rfl) q1 q2 (fun x hx => by rcases q3 x hx with h | h; exact .inl h; right; simp; omega)
        rw [← rfs_snoc] at q4
        refine ⟨q4, Chg.below (below_on hb3 (below_alloc1 _ _)) q2 r2b, fun x hx => ?_, fun x hx => ?_, fun q hq => hm3 q (r4 q hq), ?_, ?_⟩
        · rcases q3 x hx with h | h
          · exact r2b x h
          · have := hb3.size; omega
        · rcases List.mem_append.1 hx with h | h
          · exact (r3 x h).mono hm3
          · obtain rfl : x = Y := by simpa using h
            rw [hY]; exact hin3
        · rw [HTK.out, List.map_append, List.map_append, List.map_append, r5, hY]; rfl
        · rw [HTK.out, List.map_append, List.map_append, r6, hY]; rfl
      have HS5 := Lib.hid hst
      have HROW := Lib.hid (show RowG 5 w3 oa oc i (rfs xs') from o3.rowG 1 rfl)
      have hone : ∀ u ∈ rfc Y, u.oneCell' = true := by rw [HYC.out]; intro u hu; simp at hu; rcases hu with rfl | rfl | rfl | rfl | rfl <;> rfl
      clear hst o3 hxo hin3 hm3 hb3 HD HWO HRR HIN r2 r2b r3 r4 r5 r6 k1 k2 k3 k4 hm2 hm3' hYc hY H1
      go_wp2_with (at_builtin; refine wpList_append_rowG (n := i) (m := 1) (cs := rfs xs') (ds := rfc Y) rfl _ _ 28 rfl 53 j0 _ Try.underlying28 Ji.out Jz0.out Jz1.out Jz2.out rfl (by omega) (by omega) rfl rfl (HROW.out.below (below_alloc1 _ _)) (by rw [HYC.out]; exact CellsAt.new _ [.int .i64 (N : Int), .slice ba n1 bc, .slice a' m2 c', .slice b' m3 d', .bool cl] _ (by first | rfl | simp)) (by rw [HYC.out]; rfl) hone (by omega) ?_)
      intro a5 c5 w5 q1 q2 q3
      have HE := Lib.hid (HS5.out a5 c5 w5 q1 q2 (fun x hx => by rcases q3 x hx with h | h; exact .inl h; right; first | omega | (simp at h; omega)))
      clear q1 q2 q3
      go_wp2
      exact ⟨⟨i + 1, a5, c5, _, _, by omega, by go_num, by simp, HE⟩, by simp [intOf]; omega⟩
    · have hge : ¬ (i : Int) < (n : Int) := by omega
      obtain rfl : i = n := by omega
      have htk : xs.take i = xs := List.take_of_length_le (by rw [HN.out]; exact Nat.le_refl _)
      rw [htk] at r5 r6
      have HF : Hid (XWaited w0 w R rs i (xs.map (·.N)) ((xs.map (·.C)).map (leF g)) (.returned (.slice oa i oc)) wr) := Lib.hid ⟨oa, oc, xs', rs', rfl, r6, r5, r3, r4, r1, r2⟩
      clear hr r1 r2 r2b r3 r4 r5 r6 htk
      go_wp2
      go_ret
      have hf := HF.out
      rw [List.map_map] at hf
      exact hf
end Go.Proofs.Ytphjgfjfeehjhaa
