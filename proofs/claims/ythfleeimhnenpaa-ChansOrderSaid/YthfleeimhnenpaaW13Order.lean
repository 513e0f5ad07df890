/-
  The walk of the law ChansOrder.
-/
import Derived.Test.YthfleeimhnenpaaWCh5
import Derived.Test.YthfleeimhnenpaaInts
import Derived.Test.YthfleeimhnenpaaInArgs
import Derived.OpenShut
import Derived.LoopTactic
open Go Go.RowKit
set_option linter.unusedVariables false
namespace Go.Proofs.Ythfleeimhnenpaa.chansOrder
def seqI (o c : Nat) : List Int := (List.range c).map fun (i : Nat) => ((o + i : Nat) : Int)
theorem seqI_len (o c : Nat) : (seqI o c).length = c := by simp [seqI]
theorem seqI_snoc (o c : Nat) : seqI o (c + 1) = seqI o c ++ [((o + c : Nat) : Int)] := by simp [seqI, List.range_succ]
theorem seqI_cons (o c : Nat) : seqI o (c + 1) = (o : Int) :: seqI (o + 1) c := by
  simp only [seqI, List.range_succ_eq_map, List.map_cons, List.map_map]
  congr 1
  apply List.map_congr_left
  intro i _
  simp; omega
def nums (C : Ch) : List Int := C.buf ++ C.S.map (·.2.2)
theorem recv_ok {N : Nat} {C : Ch} {y : Int} {l : List Int} (hS : C.S = [] ∨ N ≤ C.buf.length) (h : nums C = y :: l) :
    ∃ C' x wk, mRecv C = (C', (y, true, x, wk), 0) ∧ C'.R = C.R ∧ C'.cl = C.cl ∧ (C'.S = [] ∨ N ≤ C'.buf.length) ∧ nums C' = l := by
  obtain ⟨buf, S, R, cl⟩ := C
  unfold nums at *
  simp only at *
  cases S with
  | nil =>
    simp at h
    subst h
    exact ⟨_, _, _, rfl, rfl, rfl, .inl rfl, by simp⟩
  | cons x t =>
    cases hb : buf ++ [x.2.2] with
    | nil => simp at hb
    | cons y' b =>
      have h1 : (buf ++ [x.2.2]) ++ t.map (·.2.2) = y :: l := by rw [← h]; simp
      rw [hb] at h1
      simp only [List.cons_append, List.cons.injEq] at h1
      obtain ⟨rfl, h2⟩ := h1
      have hl : b.length = buf.length := by
        have := congrArg List.length hb
        simp at this; omega
      refine ⟨⟨b, t, R, cl⟩, x, true, by simp only [mRecv, hb], rfl, rfl, .inr ?_, h2⟩
      rcases hS with h | h
      · cases h
      · simp only; omega
theorem recv_no {C : Ch} (hc : C.cl = false) (h : nums C = []) : mRecv C = (C, (0, false, zw, false), 5) := by
  obtain ⟨buf, S, R, cl⟩ := C
  unfold nums at h
  simp only at *
  subst hc
  simp at h
  obtain ⟨rfl, rfl⟩ := h
  rfl
def St (w1 w : World) (p N inn out : Nat) : Prop :=
  out ≤ inn ∧ inn ≤ 40 ∧ ∃ C : Ch, C.R = [] ∧ C.cl = false ∧ (C.S = [] ∨ N ≤ C.buf.length) ∧ nums C = seqI out (inn - out) ∧ Own w1 w [ChanA p N C]
theorem St.bel {w1 w : World} {p N inn out : Nat} (h : St w1 w p N inn out) : Below w1.heap.size w1 w := by
  obtain ⟨_, _, C, _, _, _, _, h⟩ := h; exact h.bel
set_option maxRecDepth 100000 in
set_option maxHeartbeats 2000000 in
theorem walk (a0 : Int) (a1 : Option Addr) (len1 cap1 : Nat) (l1 : List Bool) (w : World) (v0 : (Lit.int .i64 a0).wf = true) (w1' : IsBools w a1 len1 cap1 l1) :
    Calls Try.prog 4 #[.int .i64 a0, .slice a1 len1 cap1] w fun e w' => e = .returned (.bool true) ∧ Below w.heap.size w w' := by
  obtain ⟨hm0, hlc0, hcm0, hat0⟩ := w1'
  have HAT := Lib.hid hat0
  have HM := Lib.hid hm0
  have hlm0 : len1 ≤ maxLen := Nat.le_trans hlc0 hcm0
  unfold maxLen at hlm0
  clear hat0 hm0 hlc0 hcm0 v0
  go_enter Try.func4, Try.ntmps4
  go_wp2_with fail
  refine (awake13_any _).mono ?_
  rintro e w1 ⟨rfl, hb1⟩
  have B1 := Lib.hid hb1; clear hb1
  go_wp2_with fail
  refine (cnew_any (w0 := w1) (Own.nil (Below.refl _ _)) a0).mono ?_
  rintro r w2 ⟨p, rfl, h2, -⟩
  have hst : St w1 w2 p (roomC a0) 0 0 := ⟨by omega, by omega, _, rfl, rfl, .inl rfl, rfl, h2⟩
  have HST := Lib.hid hst
  clear hst h2
  generalize roomC a0 = N at *
  go_wp2_with fail
  go_loopw [6, 7, 8] (fun s6 s7 s8 wr => ∃ i inn out : Nat, i ≤ 40 ∧ inn ≤ i ∧ out ≤ inn ∧ s6 = .int .i64 inn ∧ s7 = .int .i64 out ∧ s8 = .int .i64 i ∧ Hid (St w1 wr p N inn out)) (fun _ _ s8 _ => 40 - (intOf s8).toNat)
  case atStart => exact ⟨0, 0, 0, by omega, by omega, by omega, rfl, rfl, rfl, HST⟩
  case round =>
    obtain ⟨i, inn, out, hi, hin, hio, rfl, rfl, rfl, hr⟩ := hrel
    obtain ⟨-, -, C, k1, k2, k3, k4, k5⟩ := hr.out
    have K5 := Lib.hid k5
    have hlen : C.buf.length + C.S.length = inn - out := by
      have := congrArg List.length k4
      rw [seqI_len] at this
      simpa [nums] using this
    have hbl : C.buf.length ≤ 100000 := by omega
    have hsl : C.S.length ≤ 100000 := by omega
    have hrl : C.R.length ≤ 100000 := by rw [k1]; simp
    have BL : Hid (C.buf.length ≤ 100000 ∧ C.S.length ≤ 100000 ∧ C.R.length ≤ 100000) := Lib.hid ⟨hbl, hsl, hrl⟩
    have HLEN := Lib.hid hlen
    clear hbl hsl hrl hlen
    by_cases hlt : i < len1 ∧ i < 40
    · obtain ⟨q1, q2⟩ := hlt
      obtain ⟨b0, off0, rfl, z0⟩ := HAT.out i (by have := HM.out; omega)
      generalize l1[i]'(by have := HM.out; omega) = tk at z0
      have z0' := cell_below (cell_below z0 B1.out) k5.bel
      have hi1 : (i : Int) < (len1 : Int) := by omega
      have hi2 : (i : Int) < 40 := by omega
      clear z0 k5 hr
      cases tk with
      | true =>
        have hsc := csend_any K5.out (inn : Int) BL.out.1 BL.out.2.2
        by_cases hroom : C.buf.length < N
        · have e : mSend N C (inn : Int) = (⟨C.buf ++ [(inn : Int)], C.S, C.R, C.cl⟩, zw, false, 0) := by unfold mSend; rw [k2, k1]; simp [hroom]
          rw [e] at hsc
          have hE : ∀ w', Own w1 w' [ChanA p N ⟨C.buf ++ [(inn : Int)], C.S, C.R, C.cl⟩] → St w1 w' p N (inn + 1) out := fun w' h => by
            have hS : C.S = [] := by rcases k3 with h | h; exact h; omega
            refine ⟨by omega, by omega, ⟨C.buf ++ [(inn : Int)], C.S, C.R, C.cl⟩, k1, k2, .inl hS, ?_, h⟩
            rw [show inn + 1 - out = (inn - out) + 1 by omega, seqI_snoc, ← k4, show out + (inn - out) = inn by omega]
            simp [nums, hS]
          have HE := Lib.hid hE
          have HSC := Lib.hid hsc
          clear hE hsc e hroom k1 k2 k3 k4
          unfold wv at HSC
          simp only [zw] at HSC
          go_wp2_with fail
          refine HSC.out.mono ?_
          rintro r w3 ⟨rfl, h3⟩
          have H3 := Lib.hid (HE.out _ (h3.step (below_alloc1 _ (.cells #[.int .i64 0, .int .i64 0, .int .i64 0] 45))))
          clear h3
          go_wp2
          exact ⟨⟨i + 1, inn + 1, out, by omega, by omega, by omega, by go_num, rfl, by go_num, H3⟩, by simp [intOf]; omega⟩
        · have e : mSend N C (inn : Int) = (C, zw, false, 6) := by unfold mSend; rw [k2, k1]; simp [hroom]
          rw [e] at hsc
          have hE : ∀ w', Own w1 w' [ChanA p N ⟨C.buf, C.S ++ [((i : Int), 0, (inn : Int))], C.R, C.cl⟩] → St w1 w' p N (inn + 1) out := fun w' h => by
            refine ⟨by omega, by omega, ⟨C.buf, C.S ++ [((i : Int), 0, (inn : Int))], C.R, C.cl⟩, k1, k2, .inr (by simp only; omega), ?_, h⟩
            rw [show inn + 1 - out = (inn - out) + 1 by omega, seqI_snoc, ← k4, show out + (inn - out) = inn by omega]
            simp [nums]
          have HE := Lib.hid hE
          have HSC := Lib.hid hsc
          clear hE hsc e hroom k1 k2 k3 k4
          unfold wv at HSC
          simp only [zw] at HSC
          go_wp2_with fail
          refine HSC.out.mono ?_
          rintro r w3 ⟨rfl, h3⟩
          have hw := cwaits_any (h3.step (below_alloc1 _ (.cells #[.int .i64 0, .int .i64 0, .int .i64 0] 45))) ((i : Int), 0, (inn : Int)) BL.out.2.1
          have HW := Lib.hid hw
          clear h3 hw
          unfold wv at HW
          go_wp2_with fail
          refine HW.out.mono ?_
          rintro r w4 ⟨rfl, h4⟩
          have H4 := Lib.hid (HE.out _ h4)
          clear h4
          go_wp2
          exact ⟨⟨i + 1, inn + 1, out, by omega, by omega, by omega, by go_num, rfl, by go_num, H4⟩, by simp [intOf]; omega⟩
      | false =>
        have hrc := crecv_any K5.out BL.out.1 BL.out.2.1
        by_cases hne : out < inn
        · have hsq : nums C = (out : Int) :: seqI (out + 1) (inn - (out + 1)) := by rw [k4, show inn - out = (inn - (out + 1)) + 1 by omega, seqI_cons]
          obtain ⟨C', x, wk, e, r1, r2, r3, r4⟩ := recv_ok k3 hsq
          rw [e] at hrc
          simp only at hrc
          have hE : ∀ w', Own w1 w' [ChanA p N C'] → St w1 w' p N inn (out + 1) := fun w' h => ⟨by omega, by omega, C', r1.trans k1, r2.trans k2, r3, r4, h⟩
          have HE := Lib.hid hE
          have HRC := Lib.hid hrc
          have hne2 : (out : Int) < (inn : Int) := by omega
          clear hE hrc e k1 k2 k3 k4 r1 r2 r3 r4 hsq
          unfold gotC at HRC
          obtain ⟨x1, x2, x3⟩ := x
          simp only at HRC
          go_wp2_with fail
          refine HRC.out.mono ?_
          rintro r w3 ⟨rfl, h3⟩
          have H3 := Lib.hid (HE.out _ (h3.step (below_alloc1 _ (.cells #[.int .i64 (out : Int), .bool true, .int .i64 x1, .int .i64 x2, .int .i64 x3, .bool wk] 51))))
          clear h3
          go_wp2
          exact ⟨⟨i + 1, inn, out + 1, by omega, by omega, by omega, rfl, by go_num, by go_num, H3⟩, by simp [intOf]; omega⟩
        · have e := recv_no k2 (by rw [k4, show inn - out = 0 by omega]; rfl)
          rw [e] at hrc
          simp only at hrc
          have hE : ∀ w', Own w1 w' [ChanA p N C] → St w1 w' p N inn out := fun w' h => ⟨by omega, by omega, C, k1, k2, k3, k4, h⟩
          have HE := Lib.hid hE
          have HRC := Lib.hid hrc
          have hne2 : ¬ (out : Int) < (inn : Int) := by omega
          clear hE hrc e k1 k2 k3 k4
          unfold gotC at HRC
          simp only [zw] at HRC
          go_wp2_with fail
          refine HRC.out.mono ?_
          rintro r w3 ⟨rfl, h3⟩
          have H3 := Lib.hid (HE.out _ (h3.step (below_alloc1 _ (.cells #[.int .i64 0, .bool false, .int .i64 0, .int .i64 0, .int .i64 0, .bool false] 51))))
          clear h3
          go_wp2
          exact ⟨⟨i + 1, inn, out, by omega, by omega, by omega, rfl, rfl, by go_num, H3⟩, by simp [intOf]; omega⟩
    · have hs := cstate_any K5.out BL.out.1 BL.out.2.1 BL.out.2.2
      obtain ⟨n1, hn1⟩ : ∃ n, n = C.buf.length := ⟨_, rfl⟩
      obtain ⟨n2, hn2⟩ : ∃ n, n = C.S.length := ⟨_, rfl⟩
      obtain ⟨n3, hn3⟩ : ∃ n, n = C.R.length := ⟨_, rfl⟩
      have hsum : ((n1 : Int) + (n2 : Int) == (inn : Int) - (out : Int)) = true := by have := HLEN.out; rw [beq_iff_eq]; omega
      have hn1b : n1 ≤ 100 := by have := HLEN.out; omega
      have hn2b : n2 ≤ 100 := by have := HLEN.out; omega
      rw [← hn1, ← hn2, ← hn3] at hs
      have HS := Lib.hid hs
      have hcase : (i < len1 ∧ ¬ i < 40) ∨ ¬ i < len1 := by omega
      have HB := Lib.hid (below_on B1.out K5.out.bel)
      clear hs hr k1 k2 k3 k4 k5 hlt hn1 hn2 hn3
      rcases hcase with ⟨c1, c2⟩ | c1
      case' inl => have c1 : (i : Int) < (len1 : Int) := by omega
      case' inl => have c2 : ¬ (i : Int) < 40 := by omega
      case' inr => have c1 : ¬ (i : Int) < (len1 : Int) := by omega
      all_goals
        go_wp2_with fail
        refine HS.out.mono ?_
        rintro r w3 ⟨ba, bc, sa, sc, ra, rc, rfl, -, b3⟩
        have hb : Below w.heap.size w (w3.alloc (.cells #[.slice ba n1 bc, .slice sa n2 sc, .slice ra n3 rc, .bool C.cl] 41)) := below_on (below_on HB.out b3) (below_alloc1 _ _)
        clear b3
        go_wp2
        go_ret
        exact ⟨rfl, hb⟩
end Go.Proofs.Ythfleeimhnenpaa.chansOrder
