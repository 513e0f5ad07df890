/-
  The walks of segment's sumBytes, checkMark, readHead, Frame.
-/
import Derived.Test.YtnpmapmdeldnmaaRows
import Derived.Test.YtnpmapmdeldnmaaSeg
import Derived.Test.YtnpmapmdeldnmaaWPut
import Derived.Test.YtnpmapmdeldnmaaWGet
import Derived.Test.YtnpmapmdeldnmaaWCrc2
import Derived.BigQuiet
import Derived.Deep.QuietTactic
import Derived.RegionTactic
open Go Go.RowKit
set_option linter.unusedVariables false
namespace Go.Proofs.Ytnpmapmdeldnmaa
theorem sum_byte (n k : Nat) (hk : k < 4) : (sumL n)[k]'(by rw [sumL_len]; exact hk) = UInt8.ofNat (n / 2 ^ (8 * k)) := by
  match k, hk with
  | 0, _ => simp [sumL]
  | 1, _ => simp [sumL]
  | 2, _ => simp [sumL]
  | 3, _ => simp [sumL]
theorem sum_step {w wr : World} {n k g : Nat} {cs : List UInt8} {v : Int} (h : cs.length = 4 ∧ cs.take k = (sumL n).take k ∧ Bytes wr g cs ∧ Below w.heap.size w wr) (hk : k < 4) (hg : w.heap.size ≤ g)
    (hv : v = ((UInt8.ofNat (n / 2 ^ (8 * k))).toNat : Int)) :
    (cs.set k (UInt8.ofNat (n / 2 ^ (8 * k)))).length = 4 ∧ (cs.set k (UInt8.ofNat (n / 2 ^ (8 * k)))).take (k + 1) = (sumL n).take (k + 1) ∧ Bytes (wr.setCell ⟨g, k, none⟩ (.int .u8 v)) g (cs.set k (UInt8.ofNat (n / 2 ^ (8 * k)))) ∧ Below w.heap.size w (wr.setCell ⟨g, k, none⟩ (.int .u8 v)) := by
  obtain ⟨h1, h2, h3, h4⟩ := h
  refine ⟨by simp [h1], ?_, h3.set k (by omega) _ _ hv, h4.setCell hg _⟩
  rw [take_set_succ _ _ _ (by omega), h2, List.take_succ_eq_append_getElem (by rw [sumL_len]; exact hk), sum_byte n k hk]
set_option maxRecDepth 100000 in
set_option maxHeartbeats 1000000 in
theorem sumb_any (t : ByteArray) (w : World) (ht : t.size ≤ maxLen) :
    Calls Try.prog 28 #[.string t] w fun e w' => e = .returned (.string ⟨(sumL (crcSum t.data.toList)).toArray⟩) ∧ Below w.heap.size w w' := by
  have hlt := crcSum_lt t.data.toList
  obtain ⟨n, hn⟩ : ∃ n, n = crcSum t.data.toList := ⟨_, rfl⟩
  rw [← hn] at hlt ⊢
  have Hn := Lib.hid hn; clear hn
  obtain ⟨l, hl⟩ : ∃ l, l = sumL n := ⟨_, rfl⟩
  rw [← hl]
  have Hl := Lib.hid hl; clear hl
  go_enter Try.func28, Try.ntmps28
  go_wp2_with fail
  refine (of1_any 1 w.heap.size t _ (by simp) ht).mono ?_
  rintro e w1 ⟨rfl, hb⟩
  rw [← Hn.out]
  have Hb := Lib.hid (((Below.refl _ _).alloc (Nat.le_refl _) _).trans (hb.mono (by simp))); clear hb
  go_wp2_with fail
  go_loopw [5, 9] (fun _ i wr => ∃ k : Nat, ∃ cs : List UInt8, k ≤ 4 ∧ i = .int .i64 k ∧ Hid (cs.length = 4 ∧ cs.take k = (sumL n).take k ∧ Bytes wr w1.heap.size cs ∧ Below w.heap.size w wr)) (fun _ i _ => 4 - (intOf i).toNat)
  case atStart => exact ⟨0, List.replicate 4 0, by omega, rfl, rfl, rfl, Bytes.fresh w1 78 4, Hb.out.alloc Hb.out.size _⟩
  case round =>
    obtain ⟨k, cs, hk, rfl, hr⟩ := hrel
    by_cases hlt4 : k < 4
    · obtain ⟨h1, h2, h3, h4⟩ := hr.out
      have hck : (wr.cell? ⟨w1.heap.size, k, none⟩) = some (.int .u8 (cs[k].toNat : Int)) := h3.1 k (by omega)
      have hfk := h3.2 k (by omega)
      generalize (cs[k].toNat : Int) = c at hck
      clear h1 h2 h3 h4
      have hx : k = 0 ∨ k = 1 ∨ k = 2 ∨ k = 3 := by omega
      have hsz : w.heap.size ≤ w1.heap.size := Hb.out.size
      rcases hx with rfl | rfl | rfl | rfl
      all_goals
        go_wp2
        refine ⟨⟨_, _, ?_, ?_, Lib.hid (sum_step hr.out (by omega) hsz ?_)⟩, ?_⟩
        · omega
        · go_num
        · simp; try omega
        · simp [intOf]
    · obtain rfl : k = 4 := by omega
      obtain ⟨h1, h2, h3, h4⟩ := hr.out
      have hsl : ∀ w', (Instr.sliceAt 78 (.pointer (some ⟨w1.heap.size, 0, none⟩)) none none none).run Try.prog w' = .ok (.slice (some ⟨w1.heap.size, 0, none⟩) 4 4) w' := fun w' => by
        rw [run_sliceAt_array_all w' 78 ⟨w1.heap.size, 0, none⟩ Try.underlying78]
        rfl
      have hcs : cs = l := by rw [Hl.out]; rw [List.take_of_length_le (by omega), List.take_of_length_le (by rw [sumL_len]; omega)] at h2; exact h2
      rw [hcs] at h3
      have hcv := conv_back (P := Try.prog) (n := 4) (cap := 4) h3 (by rw [Hl.out]; rfl) 48 9 5 Try.underlying48 Try.underlying5 Try.underlying9
      clear h1 h2 h3 hcs
      have H4 := Lib.hid h4; clear h4 hr
      go_wp2
      go_ret
      exact ⟨rfl, H4.out⟩
/-- What is left to be read of a mark. -/
def markK : Nat → List UInt8 → Nat
  | 0, l => markL l
  | 1, l => match l with | [] => 2 | c :: _ => if c = 103 then 0 else 1
  | _, _ => 0
theorem u8_ne (b c : UInt8) : ((b.toNat : Int) != (c.toNat : Int)) = decide (b ≠ c) := by
  rw [Bool.eq_iff_iff, bne_iff_ne, decide_eq_true_iff]
  exact ⟨fun h e => h (by rw [e]), fun h e => h (UInt8.toNat_inj.1 (by omega))⟩
/-- A byte of the mark. -/
def markB (k : Nat) : UInt8 := if k = 0 then 83 else 103
theorem markK_nil (k : Nat) (hk : k < 2) : markK k [] = 2 := by
  match k, hk with
  | 0, _ => rfl
  | 1, _ => rfl
theorem markK_cons (k : Nat) (hk : k < 2) (b : UInt8) (t : List UInt8) : markK k (b :: t) = if b = markB k then markK (k + 1) t else 1 := by
  match k, hk with
  | 0, _ => rfl
  | 1, _ => rfl
set_option maxRecDepth 100000 in
set_option maxHeartbeats 1000000 in
theorem mark_any (s : ByteArray) (a : Nat) (w : World) (hs : s.size ≤ maxLen) (ha : a ≤ s.size) :
    Calls Try.prog 36 #[.string s, .int .i64 a] w fun e w' => e = .returned (.int .i64 (markL (from_ s a) : Int)) ∧ Below w.heap.size w w' := by
  unfold maxLen at hs
  obtain ⟨z, hz⟩ : ∃ z, z = markL (from_ s a) := ⟨_, rfl⟩
  rw [← hz]
  have Hz := Lib.hid hz; clear hz
  have hmk : ∀ k : Nat, k < 2 → ∀ w, (Instr.index 9 (.string ⟨#[83, 103]⟩) (.int .i64 (k : Int))).run Try.prog w = .ok (.int .u8 ((markB k).toNat : Int)) w := fun k hk w => by
    match k, hk with
    | 0, _ => rw [run_index_string w _ _ .i64 _ Try.underlying9, dif_pos ⟨by omega, by decide⟩]; rfl
    | 1, _ => rw [run_index_string w _ _ .i64 _ Try.underlying9, dif_pos ⟨by omega, by decide⟩]; rfl
  have HM := Lib.hid hmk; clear hmk
  go_enter Try.func36, Try.ntmps36
  go_wp2_with fail
  go_loopw [5, 6] (fun _ i wr => ∃ k : Nat, k ≤ 2 ∧ a + k ≤ s.size ∧ i = .int .i64 k ∧ Hid (z = markK k (from_ s (a + k)) ∧ Below w.heap.size w wr)) (fun _ i _ => 2 - (intOf i).toNat)
  case atStart => exact ⟨0, by omega, by omega, rfl, Hz.out, Below.refl _ _⟩
  case round =>
    obtain ⟨k, hk, hak, rfl, hr⟩ := hrel
    by_cases hk2 : k < 2
    · have hm := HM.out k hk2
      have hzk := hr.out.1
      by_cases he : a + k = s.size
      · have He : ((a : Int) + k == s.size) = true := by simp; omega
        rw [from_nil _ _ (by omega), markK_nil k hk2] at hzk
        have Hzk := Lib.hid hzk; clear hzk
        have He' := Lib.hid he; clear he hm
        go_wp2
        go_ret
        exact ⟨by rw [Hzk.out]; rfl, hr.out.2⟩
      · have hlt : a + k < s.size := by omega
        have He : ((a : Int) + k == s.size) = false := by simp; omega
        obtain ⟨b, hbe⟩ : ∃ b, b = s[a + k] := ⟨_, rfl⟩
        rw [from_cons s (a + k) hlt, markK_cons k hk2, ← hbe] at hzk
        have hix : ∀ w, (Instr.index 9 (.string s) (.int .i64 ((a : Int) + k))).run Try.prog w = .ok (.int .u8 b.toNat) w := fun w => by
          rw [run_index_string w _ s .i64 _ Try.underlying9, dif_pos ⟨by omega, by omega⟩, hbe]; rfl
        have Hbe := Lib.hid hbe; clear hbe
        have hne := u8_ne b (markB k)
        by_cases hb : b = markB k
        · rw [if_pos hb] at hzk
          rw [decide_eq_false (by simpa using hb)] at hne
          generalize markB k = m at *
          have Hzk := Lib.hid hzk; clear hzk
          have Hb := Lib.hid hb; clear hb
          go_wp2_with fail
          go_quiet (fail)
          go_wp2
          exact ⟨⟨k + 1, by omega, by omega, by go_num, by rw [Hzk.out]; rfl, below_drewN hr.out.2 _⟩, by simp [intOf]; omega⟩
        · rw [if_neg hb] at hzk
          rw [decide_eq_true (by simpa using hb)] at hne
          generalize markB k = m at *
          have Hzk := Lib.hid hzk; clear hzk
          have Hb := Lib.hid hb; clear hb
          go_wp2_with fail
          go_quiet (fail)
          go_wp2
          go_ret
          exact ⟨by rw [Hzk.out]; rfl, below_drewN hr.out.2 _⟩
    · obtain rfl : k = 2 := by omega
      have hzk : z = 0 := hr.out.1
      have Hzk := Lib.hid hzk; clear hzk
      go_wp2
      go_ret
      exact ⟨by rw [Hzk.out]; rfl, hr.out.2⟩
theorem ret_head {n n' f f' t t' e e' : Int} (h1 : n = n') (h2 : f = f') (h3 : t = t') (h4 : e = e') :
    Ending.returned (.tuple #[.int .u64 n, .int .i64 f, .int .i64 t, .int .i64 e]) = .returned (.tuple #[.int .u64 n', .int .i64 f', .int .i64 t', .int .i64 e']) := by rw [h1, h2, h3, h4]
set_option maxRecDepth 100000 in
set_option maxHeartbeats 1000000 in
theorem head_any (s : ByteArray) (a : Nat) (w : World) (hs0 : s.size ≤ 140737488355328) :
    Calls Try.prog 37 #[.string s, .int .i64 a] w fun e w' => e = .returned (.tuple #[.int .u64 ((headR s a).1 : Int), .int .i64 ((headR s a).2.1 : Int), .int .i64 ((headR s a).2.2.1 : Int), .int .i64 ((headR s a).2.2.2 : Int)]) ∧ w = w' := by
  have hs : s.size ≤ maxLen := by unfold maxLen; omega
  obtain ⟨R, hR⟩ : ∃ R, R = headR s a := ⟨_, rfl⟩
  rw [← hR]
  obtain ⟨r1, r2, r3, r4⟩ := R
  simp only
  unfold headR at hR
  obtain ⟨n, c, e, hg⟩ : ∃ n c e, getR s a = (n, c, e) := ⟨_, _, _, rfl⟩
  rw [hg] at hR
  simp only at hR
  by_cases he : e = 0
  · subst he
    rw [if_pos rfl] at hR
    obtain ⟨G, hg2⟩ : ∃ G, getR s (c : Nat) = G := ⟨_, rfl⟩
    obtain ⟨n2, c2, e2⟩ := G
    rw [hg2] at hR
    simp only at hR
    by_cases he2 : e2 = 0
    · subst he2
      rw [if_pos rfl] at hR
      obtain ⟨k2, m2, d2, hk2, hks2, hkc2, hR2, hp2, hn2⟩ := getR_err s _ (by rw [hg2])
      rw [hg2] at hR2
      simp only [Prod.mk.injEq, and_true] at hR2
      obtain ⟨rfl, hcc⟩ := hR2
      have hc2 : c2 ≤ s.size := by omega
      clear hp2 hkc2 hks2 hk2 hcc
      by_cases hle : n2 ≤ 4096
      · rw [if_pos hle] at hR
        simp only [Prod.mk.injEq] at hR
        obtain ⟨rfl, rfl, rfl, rfl⟩ := hR
        have HG := Lib.hid hg; clear hg
        have HG2 := Lib.hid hg2; clear hg2
        have HS := Lib.hid hs
        unfold maxLen at hs
        go_enter Try.func37, Try.ntmps37
        go_wp2_with fail
        refine (get_any s a _ HS.out).mono ?_
        rintro e w1 ⟨rfl, rfl⟩
        rw [HG.out]
        go_wp2_with fail
        refine (get_any s c _ HS.out).mono ?_
        rintro e w1 ⟨rfl, rfl⟩
        rw [HG2.out]
        go_wp2
        refine bodyPost_ret (results_tmp4 rfl _ _ _) rfl ?_
        exact ⟨rfl, rfl⟩
      · rw [if_neg hle] at hR
        simp only [Prod.mk.injEq] at hR
        obtain ⟨rfl, rfl, rfl, rfl⟩ := hR
        have HG := Lib.hid hg; clear hg
        have HG2 := Lib.hid hg2; clear hg2
        have HS := Lib.hid hs
        unfold maxLen at hs
        go_enter Try.func37, Try.ntmps37
        go_wp2_with fail
        refine (get_any s a _ HS.out).mono ?_
        rintro e w1 ⟨rfl, rfl⟩
        rw [HG.out]
        go_wp2_with fail
        refine (get_any s c _ HS.out).mono ?_
        rintro e w1 ⟨rfl, rfl⟩
        rw [HG2.out]
        go_wp2
        refine bodyPost_ret (results_tmp4 rfl _ _ _) rfl ?_
        exact ⟨rfl, rfl⟩
    · rw [if_neg he2] at hR
      simp only [Prod.mk.injEq] at hR
      obtain ⟨rfl, rfl, rfl, rfl⟩ := hR
      have HG := Lib.hid hg; clear hg
      have HG2 := Lib.hid hg2; clear hg2
      have hne : ((r4 : Int) != 0) = true := by rw [bne_iff_ne]; omega
      clear he2
      go_enter Try.func37, Try.ntmps37
      go_wp2_with fail
      refine (get_any s a _ hs).mono ?_
      rintro e w1 ⟨rfl, rfl⟩
      rw [HG.out]
      go_wp2_with fail
      refine (get_any s c _ hs).mono ?_
      rintro e w1 ⟨rfl, rfl⟩
      rw [HG2.out]
      go_wp2
      refine bodyPost_ret (results_tmp4 rfl _ _ _) rfl ?_
      exact ⟨rfl, rfl⟩
  · rw [if_neg he] at hR
    simp only [Prod.mk.injEq] at hR
    obtain ⟨rfl, rfl, rfl, rfl⟩ := hR
    have HG := Lib.hid hg; clear hg
    have hne : ((r4 : Int) != 0) = true := by rw [bne_iff_ne]; omega
    clear he
    go_enter Try.func37, Try.ntmps37
    go_wp2_with fail
    refine (get_any s a _ hs).mono ?_
    rintro e w1 ⟨rfl, rfl⟩
    rw [HG.out]
    go_wp2
    refine bodyPost_ret (results_tmp4 rfl _ _ _) rfl ?_
    exact ⟨rfl, rfl⟩
end Go.Proofs.Ytnpmapmdeldnmaa
