/-
  Channels: Clone; Waits, Same of the law.
-/
import Derived.Test.YtphjgfjfeehjhaaWRx3
open Go Go.RowKit
set_option linter.unusedVariables false
namespace Go.Proofs.Ytphjgfjfeehjhaa
set_option maxRecDepth 100000 in
set_option maxHeartbeats 1000000 in
theorem waits_any (w : World) (a b : Option Addr) (n c d : Nat) (l : List Wt) (h : CellsAt w a (wtc l)) (k : CellsAt w b (wtc l)) (hn : n = l.length) (hl : n ≤ 1000000) :
    Calls Try.prog 30 #[.slice a n c, .slice b n d] w fun r w' => r = .returned (.int .i64 0) ∧ ∃ m, w' = w.drewN m := by
  have H := Lib.hid h; clear h
  have J := Lib.hid k; clear k
  have HN := Lib.hid hn; clear hn
  go_enter Try.func30, Try.ntmps30
  go_wp2_with fail
  go_loopw [13] (fun iv wr => ∃ i m : Nat, i ≤ n ∧ iv = .int .i64 i ∧ wr = w.drewN m) (fun iv _ => n - (intOf iv).toNat)
  case atStart => exact ⟨0, 0, by omega, rfl, rfl⟩
  case round =>
    obtain ⟨i, m, hi, rfl, rfl⟩ := hrel
    by_cases hlt : i < n
    · have hil : i < l.length := by have := HN.out; omega
      obtain ⟨b1, o1, rfl, e1, e2, e3⟩ := H.out.wt i hil
      obtain ⟨b2, o2, rfl, g1, g2, g3⟩ := J.out.wt i hil
      generalize l[i]'hil = y at *
      obtain ⟨y1, y2, y3⟩ := y
      simp only at e1 e2 e3 g1 g2 g3
      have hli : (i : Int) < (n : Int) := by omega
      clear hil
      go_wp2_with fail
      go_quiet (fail)
      go_wp2
      exact ⟨⟨i + 1, _, by omega, by go_num, rfl⟩, by simp [intOf]; omega⟩
    · have hge : ¬ (i : Int) < (n : Int) := by omega
      go_wp2
      go_ret
      exact ⟨rfl, _, rfl⟩
set_option maxRecDepth 100000 in
set_option maxHeartbeats 2000000 in
theorem same13_any (w : World) (N : Nat) (C : Ch) (a1 : Option Addr) (c1 : Nat) (a2 : Option Addr) (c2 : Nat) (a3 : Option Addr) (c3 : Nat) (ba : Option Addr) (bc : Nat) (sa : Option Addr) (sc : Nat) (ra : Option Addr) (rc : Nat)
    (h1 : CellsAt w a1 (intc C.buf)) (h2 : CellsAt w a2 (wtc C.S)) (h3 : CellsAt w a3 (wtc C.R)) (k : RefAt w ba bc sa sc ra rc C) (hb : C.buf.length ≤ 100000) (hs : C.S.length ≤ 100000) (hr : C.R.length ≤ 100000) :
    Calls Try.prog 13 #[.agg #[.slice a1 C.buf.length c1, .slice a2 C.S.length c2, .slice a3 C.R.length c3, .bool C.cl], xcv N C ba bc sa sc ra rc] w fun r w' => r = .returned (.int .i64 0) ∧ Below w.heap.size w w' := by
  unfold xcv
  obtain ⟨buf, S, Rv, cl⟩ := C
  obtain ⟨k1, k2, k3⟩ := k
  simp only at h1 h2 h3 k1 k2 k3 hb hs hr ⊢
  obtain ⟨n1, hn1⟩ : ∃ n, n = buf.length := ⟨_, rfl⟩
  obtain ⟨n2, hn2⟩ : ∃ n, n = S.length := ⟨_, rfl⟩
  obtain ⟨n3, hn3⟩ : ∃ n, n = Rv.length := ⟨_, rfl⟩
  rw [← hn1] at hb ⊢
  rw [← hn2] at hs ⊢
  rw [← hn3] at hr ⊢
  have HN1 := Lib.hid hn1
  have HN2 := Lib.hid hn2
  have HN3 := Lib.hid hn3
  clear hn1 hn2 hn3
  have hO : Below w.heap.size w ((w.alloc (.cells #[.slice a1 n1 c1, .slice a2 n2 c2, .slice a3 n3 c3, .bool cl] 48)).alloc (.cells #[.int .i64 (N : Int), .slice ba n1 bc, .slice sa n2 sc, .slice ra n3 rc, .bool cl] 53)) := below_alloc2 _ _ _
  have hW1 := waits_any ((w.alloc (.cells #[.slice a1 n1 c1, .slice a2 n2 c2, .slice a3 n3 c3, .bool cl] 48)).alloc (.cells #[.int .i64 (N : Int), .slice ba n1 bc, .slice sa n2 sc, .slice ra n3 rc, .bool cl] 53)) a2 sa n2 c2 sc S (h2.below hO) (k2.cells.below hO) HN2.out (by omega)
  have hW2 := fun m => waits_any (((w.alloc (.cells #[.slice a1 n1 c1, .slice a2 n2 c2, .slice a3 n3 c3, .bool cl] 48)).alloc (.cells #[.int .i64 (N : Int), .slice ba n1 bc, .slice sa n2 sc, .slice ra n3 rc, .bool cl] 53)).drewN m) a3 ra n3 c3 rc Rv ((h3.below hO).below (below_drewN (Below.refl _ _) m)) ((k3.cells.below hO).below (below_drewN (Below.refl _ _) m)) HN3.out (by omega)
  have HW1 := Lib.hid hW1
  have HW2 := Lib.hid hW2
  have HI := Lib.hid (h1.below hO)
  have HJ := Lib.hid (k1.cells.below hO)
  have HBL := Lib.hid hO
  clear h1 h2 h3 k1 k2 k3 hW1 hW2 hO
  go_enter Try.func13, Try.ntmps13
  go_wp2_with fail
  refine HW1.out.mono ?_
  rintro r w2 ⟨rfl, m, rfl⟩
  go_wp2_with fail
  refine (HW2.out m).mono ?_
  rintro r w2 ⟨rfl, m2, rfl⟩
  go_wp2_with fail
  go_loop [40] (fun iv => ∃ i : Nat, i ≤ n1 ∧ iv = .int .i64 i) (fun iv => n1 - (intOf iv).toNat)
  case atStart => exact ⟨0, by omega, rfl⟩
  case round =>
    obtain ⟨i, hi, rfl⟩ := hrel
    by_cases hlt : i < n1
    · have hil : i < buf.length := by have := HN1.out; omega
      obtain ⟨b1, o1, rfl, e1⟩ := HI.out.int i hil
      obtain ⟨b2, o2, rfl, e2⟩ := HJ.out.int i hil
      generalize buf[i]'hil = y at *
      have hli : (i : Int) < (n1 : Int) := by omega
      clear hil
      go_wp2
      go_round
      case rel => exact ⟨i + 1, by omega, by go_num⟩
      case measure => simp [intOf]; omega
    · have hge : ¬ (i : Int) < (n1 : Int) := by omega
      have hb := below_drewN HBL.out (m + m2)
      go_wp2
      go_ret
      exact ⟨rfl, hb⟩
end Go.Proofs.Ytphjgfjfeehjhaa
