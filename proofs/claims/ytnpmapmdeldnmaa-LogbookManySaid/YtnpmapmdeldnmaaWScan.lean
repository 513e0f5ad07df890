/-
  The walk of segment.Scan, whatever it shows its bodies to.
-/
import Derived.Test.YtnpmapmdeldnmaaWSeg2
open Go Go.RowKit
set_option linter.unusedVariables false
namespace Go.Proofs.Ytnpmapmdeldnmaa
/-- The segments that are seen from a byte on, from a number on: each one's body, the byte behind it. -/
def scanF : Nat → ByteArray → Nat → Nat → List (ByteArray × Nat)
  | 0, _, _, _ => []
  | f + 1, s, a, q => if (openR s a).2.2.2 = 0 ∧ (openR s a).1 = q then ((openR s a).2.1, (openR s a).2.2.1) :: scanF f s (openR s a).2.2.1 ((q + 1) % 18446744073709551616) else []
def scanR (s : ByteArray) (q : Nat) : List (ByteArray × Nat) := scanF (s.size + 1) s 0 q
/-- The byte behind the last one. -/
def lastEnd (l : List (ByteArray × Nat)) : Nat := (l.getLast?.map (·.2)).getD 0
theorem lastEnd_nil : lastEnd [] = 0 := rfl
theorem lastEnd_snoc (l : List (ByteArray × Nat)) (x : ByteArray × Nat) : lastEnd (l ++ [x]) = x.2 := by unfold lastEnd; rw [List.getLast?_append]; simp
theorem scanF_stop (f : Nat) (s : ByteArray) (a q : Nat) (h : ¬ ((openR s a).2.2.2 = 0 ∧ (openR s a).1 = q)) : scanF f s a q = [] := by
  cases f with
  | zero => rfl
  | succ f => rw [scanF, if_neg h]
theorem scanF_step (f : Nat) (s : ByteArray) (a q e : Nat) (b : ByteArray) (h : openR s a = (q, b, e, 0)) : scanF (f + 1) s a q = (b, e) :: scanF f s e ((q + 1) % 18446744073709551616) := by
  rw [scanF, h]; simp
/-- A segment that is opened ends behind where it begins. -/
theorem openR_next (s : ByteArray) (a q e : Nat) (b : ByteArray) (h : openR s a = (q, b, e, 0)) : a < e ∧ e ≤ s.size ∧ b.size ≤ 4096 ∧ q < 18446744073709551616 := by
  obtain ⟨k, q', b', hk, hq, hb, hle, hR, _⟩ := openR_ok s a (by rw [h])
  obtain rfl : k = a := by omega
  rw [h] at hR
  simp only [Prod.mk.injEq, and_true] at hR
  obtain ⟨rfl, rfl, rfl⟩ := hR
  have := frameL_len q b'
  refine ⟨by omega, hle, ?_, hq⟩
  rw [size_list]; exact hb
set_option maxRecDepth 100000 in
theorem func_not_nil (fn : Nat) (caps : Array Value) (w : World) : (binOp .eql 60 (.func (.func fn) #[] caps) .nilFunc).run Try.prog w = .ok (.bool false) w := by
  first
    | rfl
    | kernel_rfl
    | (simp [binOp, go_sem]; rfl)
set_option maxRecDepth 100000 in
set_option maxHeartbeats 1000000 in
theorem scan_any (fn : Nat) (caps : Array Value) (s : ByteArray) (q : Nat) (w : World) (hs : s.size ≤ 140737488355328) (hq : q < 18446744073709551616) (I J : List (ByteArray × Nat) → World → Prop) (eg : ∀ args w, (callFunc fn args).run Try.prog w = .ok (.enter fn args) w) (h0 : I [] w)
    (hI : ∀ pre W W', I pre W → Below W.heap.size W W' → I pre W')
    (hsee : ∀ pre b e post W, scanR s q = pre ++ (b, e) :: post → I pre W → b.size ≤ 4096 → e ≤ s.size →
      Calls Try.prog fn (#[.string b, .int .i64 (e : Int)] ++ caps) W fun r W' => (r = .returned (.bool true) ∧ I (pre ++ [(b, e)]) W') ∨ (r = .returned (.bool false) ∧ J pre W')) :
    Calls Try.prog 24 #[.string s, .int .u64 q, .func (.func fn) #[] caps] w fun e w' =>
      ∃ pre post, scanR s q = pre ++ post ∧ e = .returned (.int .i64 (lastEnd pre : Int)) ∧ ((post = [] ∧ I pre w') ∨ (post ≠ [] ∧ J pre w')) := by
  have HI := Lib.hid hI; clear hI
  have HS := Lib.hid hsee; clear hsee
  have H0 := Lib.hid h0; clear h0
  obtain ⟨L, hL⟩ : ∃ L, L = scanR s q := ⟨_, rfl⟩
  rw [← hL] at HS ⊢
  have HL := Lib.hid hL; clear hL
  have Hq := Lib.hid hq; clear hq
  have hnil : ∀ w, (binOp .eql 60 (.func (.func fn) #[] caps) .nilFunc).run Try.prog w = .ok (.bool false) w := fun w => func_not_nil fn caps w
  go_enter Try.func24, Try.ntmps24
  go_wp2_with fail
  go_loopw [1, 7, 8, 9, 10, 11] (fun sv av _ _ _ _ wr => ∃ a qq : Nat, a ≤ s.size ∧ qq < 18446744073709551616 ∧ sv = .int .u64 qq ∧ av = .int .i64 a ∧ Hid (∃ pre post f, L = pre ++ post ∧ s.size - a < f ∧ scanF f s a qq = post ∧ a = lastEnd pre ∧ I pre wr)) (fun _ av _ _ _ _ _ => s.size - (intOf av).toNat)
  case atStart => exact ⟨0, q, by omega, Hq.out, rfl, rfl, [], _, s.size + 1, rfl, by omega, HL.out.symm, rfl, H0.out⟩
  case round =>
    obtain ⟨a, qq, ha, hqq, rfl, rfl, hr⟩ := hrel
    obtain ⟨R, hR⟩ : ∃ R, R = openR s a := ⟨_, rfl⟩
    obtain ⟨r1, b, e, r4⟩ := R
    have Hqq := Lib.hid hqq; clear hqq
    go_wp2_with fail
    refine (open_any s a _ hs (by omega) (by omega)).mono ?_
    rintro ee w1 ⟨rfl, hb1⟩
    rw [← hR]
    simp only [openV]
    obtain ⟨pre, post, f, h1, h2, h3, h4, h5⟩ := hr.out
    have h6 := HI.out _ _ _ h5 hb1
    clear h5 hb1 hr
    have H6 := Lib.hid h6; clear h6
    by_cases hc : r4 = 0 ∧ r1 = qq
    · obtain ⟨rfl, rfl⟩ := hc
      obtain ⟨n1, n2, n3, n4⟩ := openR_next s a r1 e b hR.symm
      obtain ⟨f', rfl⟩ : ∃ f', f = f' + 1 := ⟨f - 1, by omega⟩
      rw [scanF_step f' s a r1 e b hR.symm] at h3
      have HR := Lib.hid hR; clear hR
      have H1 := Lib.hid h1; clear h1
      have H3 := Lib.hid h3; clear h3
      have H4 := Lib.hid h4; clear h4
      go_wp2_with fail
      refine (HS.out pre b e _ _ (by rw [H1.out, ← H3.out]) H6.out n3 n2).mono ?_
      rintro ee W' (⟨rfl, h⟩ | ⟨rfl, h⟩)
      · have H := Lib.hid h; clear h H6
        have Hn4 := Lib.hid n4; clear n4
        go_wp2
        refine ⟨⟨e, (r1 + 1) % 18446744073709551616, n2, by omega, by rw [IntKind.wrap_u64]; go_num, rfl, ?_⟩, by simp [intOf]; omega⟩
        exact ⟨pre ++ [(b, e)], _, f', by rw [H1.out, ← H3.out, List.append_assoc]; rfl, by omega, rfl, by rw [lastEnd_snoc], H.out⟩
      · have H := Lib.hid h; clear h H6
        go_wp2
        go_ret
        exact ⟨pre, post, H1.out, ret_int (by rw [H4.out]), .inr ⟨by rw [← H3.out]; simp, H.out⟩⟩
    · rw [scanF_stop _ _ _ _ (by rw [← hR]; exact hc)] at h3
      have HR := Lib.hid hR; clear hR
      have H1 := Lib.hid h1; clear h1
      have H3 := Lib.hid h3; clear h3
      have H4 := Lib.hid h4; clear h4
      by_cases h0 : r4 = 0
      · subst h0
        have hne : ((r1 : Int) != (qq : Int)) = true := by rw [bne_iff_ne]; intro e; exact hc ⟨rfl, by omega⟩
        clear hc
        go_wp2
        go_ret
        exact ⟨pre, post, H1.out, ret_int (by rw [H4.out]), .inl ⟨H3.out.symm, H6.out⟩⟩
      · have hne : ((r4 : Int) != 0) = true := by rw [bne_iff_ne]; omega
        clear hc h0
        go_wp2
        go_ret
        exact ⟨pre, post, H1.out, ret_int (by rw [H4.out]), .inl ⟨H3.out.symm, H6.out⟩⟩
end Go.Proofs.Ytnpmapmdeldnmaa
