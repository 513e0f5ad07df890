/-
  The walks of a queue's Steal and Fetch, and of the global row's Take and List.
-/
import Derived.Test.YtmldfckeenahlaaWLoc3
import Derived.LaidEqlPtr
open Go Go.RowKit
set_option linter.unusedVariables false
namespace Go.Proofs.Ytmldfckeenahlaa
set_option maxRecDepth 100000 in
set_option maxHeartbeats 1000000 in
theorem lmost_any (w : World) (p g N : Nat) (q : LQ) (h : LocAt w p g N q) :
    Calls Try.prog 42 #[.pointer (some ⟨p, 0, none⟩)] w fun r w' => r = .returned (.int .i64 ((N - q.l.length + 1 : Nat) : Int)) ∧ ∃ m, w' = w.drewN m := by
  obtain ⟨⟨e, h1⟩, -⟩ := h
  have ll := h1.ll
  have n2 := h1.n2
  obtain ⟨n, hn⟩ : ∃ n, n = q.l.length := ⟨_, rfl⟩
  rw [← hn] at ll ⊢
  have hR : ∀ m, Calls Try.prog 44 #[.pointer (some ⟨p, 2, none⟩)] (w.drewN m) fun r w' => r = .returned (.int .i64 (N : Int)) ∧ w' = w.drewN m := fun m => rroom_any _ _ _ _ _ _ _ (drewN_ring h1 m)
  have hL : ∀ m, Calls Try.prog 39 #[.pointer (some ⟨p, 2, none⟩)] (w.drewN m) fun r w' => r = .returned (.int .i64 (n : Int)) ∧ w' = w.drewN m := fun m => by rw [hn]; exact rlen_any _ _ _ _ _ _ _ (drewN_ring h1 m)
  have HR := Lib.hid hR
  have HL := Lib.hid hL
  clear hR hL h1 hn
  go_enter Try.func42, Try.ntmps42
  go_wp2_with fail
  go_quiet (first
    | (go_at_call 44; exact Calls.quiet_of_same (HR.out _))
    | (go_at_call 39; exact Calls.quiet_of_same (HL.out _)))
  go_wp2
  go_ret
  exact ⟨ret_int (by omega), _, rfl⟩
set_option maxRecDepth 100000 in
set_option maxHeartbeats 1000000 in
theorem lgoOn_none (w : World) (p : Nat) (a : Option Addr) (c : Nat) :
    Calls Try.prog 41 #[.pointer (some ⟨p, 0, none⟩), .slice a 0 c] w fun r w' => r = .returned (gotv none) ∧ w' = w := by
  go_enter Try.func41, Try.ntmps41
  go_wp2
  go_ret2
  exact ⟨rfl, rfl⟩
set_option maxRecDepth 100000 in
set_option maxHeartbeats 1000000 in
theorem lgoOn_any (w : World) (p g N : Nat) (q : LQ) (a : Option Addr) (n c : Nat) (x : Int) (t : List Int) (h : LocAt w p g N q) (hr : RowAt w a c (x :: t)) (hn : n = t.length + 1) (hd : ∀ y ∈ blk a, y ≠ p ∧ y ≠ g) (hl : q.l.length + t.length ≤ N) :
    Calls Try.prog 41 #[.pointer (some ⟨p, 0, none⟩), .slice a n c] w fun r w' => r = .returned (gotv (some x)) ∧ LocAt w' p g N ⟨q.nx, q.l ++ t⟩ ∧ Chg [p, g] w w' := by
  have hll := h.ll
  obtain ⟨a', hs1, hr1, hk1⟩ := slice_from under_ints size_int hr 1 (by simp)
  rw [show (x :: t).length = n by rw [hn]; rfl] at hs1
  simp only [List.drop_succ_cons, List.drop_zero] at hr1
  obtain ⟨m, hm⟩ : ∃ m, m = t.length := ⟨_, rfl⟩
  rw [show n - 1 = m by omega] at hs1
  rw [show n = m + 1 by omega] at hs1 ⊢
  have H := Lib.hid h
  have HR1 := Lib.hid hr1
  have HR := Lib.hid hr
  have HD := Lib.hid hd
  have HD1 : Hid (∀ y ∈ blk a', y ≠ p ∧ y ≠ g) := Lib.hid (by rw [hk1]; exact hd)
  have HL : Hid (q.l.length + t.length ≤ N) := Lib.hid hl
  have hm1 : m ≤ 1024 := by omega
  have HM := Lib.hid hm
  clear h hr1 hr hd hk1 hl hm hn hll
  go_enter Try.func41, Try.ntmps41
  have hs1' : ∀ w, (Instr.slice 35 (.slice a (m + 1) c) (some (.int .i64 1)) none none).run Try.prog w = .ok (.slice a' m (c - 1)) w := hs1
  clear hs1
  have hb0 : ((m : Int) + 1 == 0) = false := by rw [beq_eq_false_iff_ne]; omega
  go_wp2_with fail
  go_loopw [14] (fun iv wr => ∃ i : Nat, i ≤ m ∧ iv = .int .i64 i ∧ Hid (LocAt wr p g N ⟨q.nx, q.l ++ t.take i⟩ ∧ Chg [p, g] w wr)) (fun iv _ => m - (intOf iv).toNat)
  case atStart => exact ⟨0, by omega, rfl, ⟨by rw [List.take_zero, List.append_nil]; exact H.out, Chg.refl _ _⟩⟩
  case round =>
    obtain ⟨i, hi, rfl, hr⟩ := hrel
    by_cases hlt : i < m
    · have hit : i < t.length := by have := HM.out; omega
      obtain ⟨b9, o9, rfl, g9⟩ := (HR1.out.chg hr.out.2 (fun y hy => by have := HD1.out y hy; simp; omega)).ints i hit
      have hts : t.take (i + 1) = t.take i ++ [t[i]] := by rw [List.take_add_one, List.getElem?_eq_getElem hit]; rfl
      have HTS := Lib.hid hts; clear hts
      generalize t[i] = y at g9 HTS
      have hli : (i : Int) < (m : Int) := by omega
      obtain ⟨e, r1⟩ := hr.out.1.1
      have R1 := Lib.hid r1; clear r1
      go_wp2_with fail
      refine (push_any _ _ _ _ _ _ _ y R1.out (by have := HL.out; simp only [List.length_append, List.length_take]; omega)).mono ?_
      rintro r w1 ⟨rfl, k1, k2⟩
      have h2 : LocAt w1 p g N ⟨q.nx, q.l ++ t.take (i + 1)⟩ ∧ Chg [p, g] w w1 := ⟨by rw [HTS.out, ← List.append_assoc]; exact hr.out.1.ring k1 k2, hr.out.2.trans k2.chg (fun x hx => .inl hx)⟩
      have H2 := Lib.hid h2; clear h2 k1 k2
      go_wp2
      exact ⟨⟨i + 1, by omega, by go_num, H2⟩, by simp [intOf]; omega⟩
    · obtain rfl : i = m := by omega
      obtain ⟨b9, o9, rfl, g9⟩ := (HR.out.chg hr.out.2 (fun y hy => by have := HD.out y hy; simp; omega)).ints 0 (by simp)
      simp only [List.getElem_cons_zero, Nat.add_zero] at g9
      have h2 : LocAt wr p g N ⟨q.nx, q.l ++ t⟩ ∧ Chg [p, g] w wr := by
        have := hr.out
        rwa [List.take_of_length_le (by have := HM.out; omega)] at this
      have H2 := Lib.hid h2; clear h2 hr
      go_wp2
      go_ret2
      exact ⟨rfl, H2.out⟩
theorem info_loc : ∃ j, Try.prog.info? 68 = some j := by
  cases h : Try.prog.info? 68 with
  | some j => exact ⟨j, rfl⟩
  | none =>
    have e : (Try.prog.info? 68).isSome = true := by kernel_rfl
    rw [h] at e; cases e
theorem info_loc_size : ∀ j, Try.prog.info? 68 = some j → j.size ≠ 0 := fun j hj => by
  have e : (Try.prog.info? 68).map (·.size) = some 5 := by kernel_rfl
  rw [hj] at e; simp at e; omega
/-- Two queues aren't one. -/
theorem eql_loc (w : World) (p p2 g g2 N N2 : Nat) (q f : LQ) (h : LocAt w p g N q) (h2 : LocAt w p2 g2 N2 f) (hne : p2 ≠ p) :
    (binOp .eql 38 (.pointer (some ⟨p2, 0, none⟩)) (.pointer (some ⟨p, 0, none⟩))).run Try.prog w = .ok (.bool false) w := by
  obtain ⟨⟨e, h1⟩, -⟩ := h
  obtain ⟨⟨e2, h3⟩, -⟩ := h2
  obtain ⟨ca, ta, k1⟩ := h1.pl
  obtain ⟨cb, tb, k2⟩ := h3.pl
  obtain ⟨j, hj⟩ := info_loc
  exact run_eql_ptr_other w Try.underlying38 hj (info_loc_size j hj) (fun e => hne (by injection e)) k2 k1
/-- Steal: the queue, the other one, who goes on. -/
def mSteal (N : Nat) (q f : LQ) : LQ × LQ × Option Int := match f.l with
  | [] => (q, ⟨none, []⟩, f.nx)
  | x :: t => (⟨q.nx, q.l ++ (f.l.take (min ((f.l.length + 1) / 2) (N - q.l.length + 1))).tail⟩, ⟨f.nx, f.l.drop (min ((f.l.length + 1) / 2) (N - q.l.length + 1))⟩, some x)
set_option maxRecDepth 100000 in
set_option maxHeartbeats 1000000 in
theorem lsteal_self (w : World) (p : Nat) :
    Calls Try.prog 24 #[.pointer (some ⟨p, 0, none⟩), .pointer (some ⟨p, 0, none⟩)] w fun r w' => r = .returned (gotv none) ∧ w' = w := by
  have heq := run_eql_ptr_same (P := Try.prog) w (tp := 38) ⟨p, 0, none⟩ Try.underlying38 info_loc.choose_spec
  go_enter Try.func24, Try.ntmps24
  go_wp2
  go_ret2
  exact ⟨rfl, rfl⟩
set_option maxRecDepth 100000 in
set_option maxHeartbeats 1000000 in
theorem lsteal_any (w : World) (p g N p2 g2 N2 : Nat) (q f : LQ) (h : LocAt w p g N q) (h2 : LocAt w p2 g2 N2 f) (d1 : p ≠ p2) (d2 : p ≠ g2) (d3 : g ≠ p2) (d4 : g ≠ g2) :
    Calls Try.prog 24 #[.pointer (some ⟨p, 0, none⟩), .pointer (some ⟨p2, 0, none⟩)] w fun r w' => r = .returned (gotv (mSteal N q f).2.2) ∧ LocAt w' p g N (mSteal N q f).1 ∧ LocAt w' p2 g2 N2 (mSteal N q f).2.1 ∧ Chg [p, g, p2, g2] w w' := by
  have H := Lib.hid h
  have H2 := Lib.hid h2
  have hll := h.ll
  have hll2 := h2.ll
  obtain ⟨⟨e2, r2⟩, -⟩ := h2
  have R2 := Lib.hid r2; clear r2
  have HD : Hid (p ≠ p2 ∧ p ≠ g2 ∧ g ≠ p2 ∧ g ≠ g2) := Lib.hid ⟨d1, d2, d3, d4⟩
  have heq := eql_loc w p p2 g g2 N N2 q f h H2.out (fun e => d1 e.symm)
  obtain ⟨fx, fl⟩ := f
  cases fl with
  | nil =>
    simp only [mSteal]
    have hc := fun w hw => ltake_any w p2 g2 N2 ⟨fx, []⟩ hw
    have hlen : Calls Try.prog 39 #[.pointer (some ⟨p2, 2, none⟩)] w fun r w' => r = .returned (.int .i64 0) ∧ w' = w := rlen_any _ _ _ _ _ _ _ R2.out
    have HLEN := Lib.hid hlen
    clear hlen d2 d3 d4 hc h
    have hgv : Value.tuple #[.int .i64 (LQ.num ⟨fx, []⟩), .bool fx.isSome] = gotv fx := rfl
    have HGV := Lib.hid hgv; clear hgv
    go_enter Try.func24, Try.ntmps24
    go_wp2_with fail
    refine HLEN.out.mono ?_
    rintro r w1 ⟨rfl, rfl⟩
    go_wp2_with fail
    refine (ltake_any _ p2 g2 N2 ⟨fx, []⟩ H2.out).mono ?_
    rintro r w2 ⟨rfl, k1, k2⟩
    have K1 := Lib.hid k1
    have K2 := Lib.hid k2
    clear k1 k2
    go_wp2
    go_ret2
    refine ⟨rfl, H.out.chg K2.out (by have := HD.out; simp; omega) (by have := HD.out; simp; omega), K1.out, K2.out.mono (fun x hx => by simp at hx ⊢; omega)⟩
  | cons x t =>
    simp only [mSteal]
    obtain ⟨n, hn⟩ : ∃ n, n = (x :: t).length := ⟨_, rfl⟩
    obtain ⟨mo, hmo⟩ : ∃ mo, mo = N - q.l.length + 1 := ⟨_, rfl⟩
    obtain ⟨hf, hhf⟩ : ∃ hf, hf = (n + 1) / 2 := ⟨_, rfl⟩
    obtain ⟨k, hk⟩ : ∃ k, k = min hf mo := ⟨_, rfl⟩
    have hnt : n = t.length + 1 := by rw [hn]; rfl
    have hn2 : n ≤ 1024 := by have := hll2.1; rw [← hn] at this; omega
    have hk1 : 1 ≤ k ∧ k ≤ n := by omega
    rw [← hn, ← hhf, ← hmo, ← hk]
    have e1 : (x :: t).take k = x :: t.take (k - 1) := by
      obtain ⟨j, rfl⟩ : ∃ j, k = j + 1 := ⟨k - 1, by omega⟩
      simp
    rw [e1, List.tail_cons]
    have hT : takes (k : Int) (x :: t).length = k := by rw [← hn]; unfold takes; omega
    have hquo : ((n : Int) + 1).tdiv 2 = (hf : Int) := by rw [hhf, Int.tdiv_eq_ediv_of_nonneg (by omega)]; rfl
    have hcase : ((hf : Int) ≤ (mo : Int) ∧ k = hf) ∨ ((mo : Int) < (hf : Int) ∧ k = mo) := by omega
    have hw1 : IntKind.i64.wrap ((n : Int) + 1) = (n : Int) + 1 := by rw [IntKind.wrap_i64]; omega
    have hw2 : IntKind.i64.wrap (hf : Int) = (hf : Int) := by rw [IntKind.wrap_i64]; omega
    have hcl : ∀ w', Below w.heap.size w w' → Calls Try.prog 42 #[.pointer (some ⟨p, 0, none⟩)] w' fun r w'' => r = .returned (.int .i64 (mo : Int)) ∧ ∃ m, w'' = w'.drewN m := fun w' hb => by rw [hmo]; exact lmost_any w' p g N q (H.out.below hb)
    have hct : ∀ w', Below w.heap.size w w' → Calls Try.prog 38 #[.pointer (some ⟨p2, 2, none⟩), .int .i64 (k : Int)] w' fun r w'' => ∃ bq e', r = .returned (.slice (some ⟨bq, 0, none⟩) k k) ∧ w'.heap.size ≤ bq ∧ RowAt w'' (some ⟨bq, 0, none⟩) k (x :: t.take (k - 1)) ∧
        RingAt w'' p2 2 g2 N2 e' ((x :: t).drop k) ∧ RChg p2 2 g2 w' w'' := fun w' hb => by
      have := rtake_any w' p2 2 g2 N2 e2 (x :: t) (k : Int) (R2.out.below hb)
      rw [hT, e1] at this; exact this
    have hlen : Calls Try.prog 39 #[.pointer (some ⟨p2, 2, none⟩)] w fun r w' => r = .returned (.int .i64 (n : Int)) ∧ w' = w := by rw [hn]; exact rlen_any _ _ _ _ _ _ _ R2.out
    have hnp : (0 : Int) < (n : Int) := by omega
    have hlq : q.l.length + (t.take (k - 1)).length ≤ N := by rw [List.length_take]; have := hll.1; omega
    have hkt : k = (t.take (k - 1)).length + 1 := by rw [List.length_take]; omega
    have HCL := Lib.hid hcl
    have HCT := Lib.hid hct
    have HLEN := Lib.hid hlen
    have HLQ := Lib.hid hlq
    have HKT := Lib.hid hkt
    have hlt := H.out.lt
    have hlt2 := H2.out.lt
    have HLT : Hid (p < w.heap.size ∧ g < w.heap.size) := Lib.hid hlt
    generalize hD : (x :: t).drop k = D at *
    generalize hE : t.take (k - 1) = E at *
    clear hcl hct hlen hlq hkt e1 hT hk1 hnt hn hmo hhf hk h hll hll2 hlt hlt2 d1 d2 d3 d4 R2 hD hE
    rcases hcase with ⟨hle, rfl⟩ | ⟨hle, rfl⟩
    all_goals
      go_enter Try.func24, Try.ntmps24
      go_wp2_with fail
      refine HLEN.out.mono ?_
      rintro r w1 ⟨rfl, rfl⟩
      go_wp2_with fail
      go_region_with (first
        | (go_at_call 42; refine (HCL.out w1.drew (below_drew1 w1)).mono ?_; rintro r w2 ⟨rfl, mq, rfl⟩)
        | (go_at_call 38; (first | (with_reducible refine (HCT.out (w1.drew.drewN mq) (below_drewN (below_drew1 _) _)).mono ?_) | (with_reducible refine (HCT.out (w1.drewN (mq + 1)) (below_drewN (Below.refl _ _) _)).mono ?_) | (with_reducible refine (HCT.out (w1.drewN (1 + mq)) (below_drewN (Below.refl _ _) _)).mono ?_)); rintro r w3 ⟨bq, eq, rfl, k3, k4, k5, k6⟩)
        | (go_at_call 41; refine (lgoOn_any w3 p g N q _ _ _ x E ((H.out.below (by first | exact below_drewN (below_drew1 _) mq | exact below_drewN (Below.refl _ _) _)).chg k6.chg (by have := HD.out; simp; omega) (by have := HD.out; simp; omega)) k4 HKT.out (fun y hy => by simp [blk] at hy; have := HLT.out; simp at k3; omega) HLQ.out).mono ?_; simp only [gotv, Option.getD_some, Option.isSome_some]; rintro r w4 ⟨rfl, k7, k8⟩))
      all_goals
        have b1 : Below w1.heap.size w1 (w1.drewN (1 + mq)) := below_drewN (Below.refl _ _) _
        have L2 := ((H2.out.below b1).ring k5 k6).chg k8 (by have := HD.out; simp; omega) (by have := HD.out; simp; omega)
        have C4 : Chg [p, g, p2, g2] w1 w4 := (((Chg.of_below (F := [p, g, p2, g2]) b1).trans k6.chg (fun y hy => by simp at hy; simp; omega))).trans k8 (fun y hy => by simp at hy; simp; omega)
        have HL2 := Lib.hid L2
        have HC4 := Lib.hid C4
        have HK7 := Lib.hid k7
        clear b1 L2 C4 k3 k4 k5 k6 k7 k8
        go_wp2
        go_ret2
        exact ⟨rfl, HK7.out, HL2.out, HC4.out⟩
end Go.Proofs.Ytmldfckeenahlaa
