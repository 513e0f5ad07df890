/-
  The walk of the law LocalSteals.
-/
import Derived.Test.YtfkomjahdidimaaWLoc4
import Derived.Test.YtfkomjahdidimaaWRing3
import Derived.OpenShut
open Go Go.RowKit
set_option linter.unusedVariables false
namespace Go.Proofs.Ytfkomjahdidimaa.localSteals
/-- Two queues and the global row, which has none. -/
def S8 (w0 w : World) (pa ga pb gb N2 b : Nat) (qa qb : LQ) : Prop :=
  ∃ F, LocAt w pa ga 60 qa ∧ LocAt w pb gb N2 qb ∧ GloAt w b [] F ∧ (pa ∉ F ∧ ga ∉ F ∧ pb ∉ F ∧ gb ∉ F) ∧ (pb ≠ pa ∧ pb ≠ ga ∧ gb ≠ pa ∧ gb ≠ ga) ∧ (w0.heap.size ≤ pa ∧ w0.heap.size ≤ ga ∧ w0.heap.size ≤ pb ∧ w0.heap.size ≤ gb ∧ ∀ x ∈ F, w0.heap.size ≤ x) ∧ Below w0.heap.size w0 w
theorem S8.step {w0 w w' : World} {pa ga pb gb N2 b : Nat} {qa qb : LQ} (h : S8 w0 w pa ga pb gb N2 b qa qb) (hb : Below w.heap.size w w') : S8 w0 w' pa ga pb gb N2 b qa qb := by
  obtain ⟨F, h1, h2, h3, h4, h5, h6, h7⟩ := h
  exact ⟨F, h1.below hb, h2.below hb, h3.below hb, h4, h5, h6, below_on h7 hb⟩
theorem S8.bel {w0 w : World} {pa ga pb gb N2 b : Nat} {qa qb : LQ} (h : S8 w0 w pa ga pb gb N2 b qa qb) : Below w0.heap.size w0 w := by obtain ⟨F, h1, h2, h3, h4, h5, h6, h7⟩ := h; exact h7
theorem s8_put {w0 w : World} {pa ga pb gb N2 b i : Nat} {qb : LQ} (h : S8 w0 w pa ga pb gb N2 b ⟨none, upto i⟩ qb) (hi : i < 60) :
    Calls Try.prog 30 #[.pointer (some ⟨pa, 0, none⟩), .int .i64 (i : Int), .pointer (some ⟨b, 0, none⟩)] w fun r w' => r = .returned (.int .i64 0) ∧ S8 w0 w' pa ga pb gb N2 b ⟨none, upto (i + 1)⟩ qb := by
  obtain ⟨F, h1, h2, h3, ⟨h4, h5, h6, h7⟩, ⟨e1, e2, e3, e4⟩, ⟨k1, k2, k3, k4, k5⟩, h8⟩ := h
  have hm : mPut 60 ⟨none, upto i⟩ (i : Int) [] = (⟨none, upto (i + 1)⟩, [], 0) := by unfold mPut; rw [if_pos (by simp only [upto_len]; omega), upto_succ]
  have hc := lput_any w pa ga 60 b ⟨none, upto i⟩ [] F (i : Int) h1 h3 h4 h5 (by decide)
  rw [hm] at hc
  refine hc.mono ?_
  rintro r w' ⟨rfl, j1, j2, F', j3, j4⟩
  have l1 := h1.lt
  have l2 := h2.lt
  have hs := h8.size
  refine ⟨rfl, F', j1, h2.chg j2 (by simp [e1, e2, h6]) (by simp [e3, e4, h7]), j3, ⟨fun hc => ?_, fun hc => ?_, fun hc => ?_, fun hc => ?_⟩, ⟨e1, e2, e3, e4⟩, ⟨k1, k2, k3, k4, fun x hx => ?_⟩, Chg.below h8 j2 (fun x hx => by simp at hx; rcases hx with rfl | rfl | hx; exact k1; exact k2; exact k5 x hx)⟩
  · rcases j4 _ hc with h | h
    · exact h4 h
    · omega
  · rcases j4 _ hc with h | h
    · exact h5 h
    · omega
  · rcases j4 _ hc with h | h
    · exact h6 h
    · omega
  · rcases j4 _ hc with h | h
    · exact h7 h
    · omega
  · rcases j4 _ hx with h | h
    · exact k5 x h
    · omega
theorem s8_steal {w0 w : World} {pa ga pb gb N2 b : Nat} {qa qb : LQ} (h : S8 w0 w pa ga pb gb N2 b qa qb) :
    Calls Try.prog 35 #[.pointer (some ⟨pb, 0, none⟩), .pointer (some ⟨pa, 0, none⟩)] w fun r w' => r = .returned (gotv (mSteal N2 qb qa).2.2) ∧ S8 w0 w' pa ga pb gb N2 b (mSteal N2 qb qa).2.1 (mSteal N2 qb qa).1 := by
  obtain ⟨F, h1, h2, h3, ⟨h4, h5, h6, h7⟩, ⟨e1, e2, e3, e4⟩, ⟨k1, k2, k3, k4, k5⟩, h8⟩ := h
  refine (lsteal_any w pb gb N2 pa ga 60 qb qa h2 h1 e1 e2 e3 e4).mono ?_
  rintro r w' ⟨rfl, j1, j2, j3⟩
  exact ⟨rfl, F, j2, j1, h3.chg j3 (fun x hx hc => by simp at hc; rcases hc with rfl | rfl | rfl | rfl; exact h6 hx; exact h7 hx; exact h4 hx; exact h5 hx), ⟨h4, h5, h6, h7⟩, ⟨e1, e2, e3, e4⟩, ⟨k1, k2, k3, k4, k5⟩, Chg.below h8 j3 (fun x hx => by simp at hx; omega)⟩
theorem steal_some (N2 n k : Nat) (hk : k = min ((n + 1) / 2) (N2 + 1)) (hn : 0 < n) : mSteal N2 ⟨none, []⟩ ⟨none, upto n⟩ = (⟨none, ((upto n).take k).tail⟩, ⟨none, (upto n).drop k⟩, some 0) := by
  obtain ⟨m, rfl⟩ : ∃ m, n = m + 1 := ⟨n - 1, by omega⟩
  have e : upto (m + 1) = (0 : Int) :: (List.range m).map fun (i : Nat) => ((i + 1 : Nat) : Int) := by
    simp [upto, List.range_succ_eq_map, Function.comp_def]
  have hl := upto_len (m + 1)
  unfold mSteal
  simp only
  rw [e] at hl ⊢
  simp only [hl, List.length_nil, Nat.sub_zero, List.nil_append, ← hk]
theorem upto_drop_at (n k i : Nat) (h : k + i < n) : ((upto n).drop k)[i]? = some ((k + i : Nat) : Int) := by
  rw [List.getElem?_drop, List.getElem?_eq_getElem (by rw [upto_len]; exact h), upto_at]
theorem rest_eq (n k : Nat) (h1 : 1 ≤ k) (h2 : k ≤ n) : ((upto n).take k).tail ++ (upto n).drop k = (upto n).tail := by
  obtain ⟨j, rfl⟩ : ∃ j, k = j + 1 := ⟨k - 1, by omega⟩
  cases hu : upto n with
  | nil => have := upto_len n; rw [hu] at this; simp at this; omega
  | cons x t => simp
theorem tail_at (n i : Nat) (h : i < (upto n).tail.length) : (upto n).tail[i] = ((i + 1 : Nat) : Int) := by
  rw [List.getElem_tail, upto_at]
set_option maxRecDepth 100000 in
set_option maxHeartbeats 4000000 in
theorem walk (a0 a1 : Int) (w : World) (v0 : (Lit.int .i64 a0).wf = true) (v1 : (Lit.int .i64 a1).wf = true) :
    Calls Try.prog 9 #[.int .i64 a0, .int .i64 a1] w fun e w' => e = .returned (.bool true) ∧ Below w.heap.size w w' := by
  obtain ⟨n, hn, hn1, -⟩ := small_of a0 50 (by omega)
  obtain ⟨r, hr, hr1, -⟩ := small_of a1 40 (by omega)
  have hn' : (bits BinOp.and IntKind.i64 a0 255).tmod 50 = (n : Int) := hn
  have hr' : (bits BinOp.and IntKind.i64 a1 255).tmod 40 = (r : Int) := hr
  clear v0 v1 hn hr
  have hroom : roomOf (2 + (r : Int)) = 2 + r := by unfold roomOf; omega
  have HRM := Lib.hid hroom; clear hroom
  obtain ⟨i0, hi0, hz0, hz1, hz2⟩ := info_parts info_int
  have Hi := Lib.hid hi0; clear hi0
  have Hz0 := Lib.hid hz0; clear hz0
  have Hz1 := Lib.hid hz1; clear hz1
  have Hz2 := Lib.hid hz2; clear hz2
  go_enter Try.func9, Try.ntmps9
  go_wp2_with fail
  refine (awake8_any _).mono ?_
  rintro e w1 ⟨rfl, hb1⟩
  have B1 := Lib.hid hb1; clear hb1
  go_wp2_with fail
  refine (lnew_any 60 w1).mono ?_
  rintro e w2 ⟨pa, ga, rfl, h1, h2, h3, h4⟩
  rw [show roomOf 60 = 60 from rfl] at h1
  have H1 := Lib.hid h1
  have H4 := Lib.hid h4
  have HP1 : Hid (w1.heap.size ≤ pa ∧ w1.heap.size ≤ ga) := Lib.hid ⟨h2, h3⟩
  clear h1 h2 h3 h4
  go_wp2_with fail
  refine (lnew_any (2 + (r : Int)) w2).mono ?_
  rintro e w3 ⟨pb, gb, rfl, h1, h2, h3, h4⟩
  rw [HRM.out] at h1
  obtain ⟨b, hb⟩ : ∃ b, b = w3.heap.size := ⟨_, rfl⟩
  have hst : S8 w1 (w3.alloc (.cells #[.slice none 0 0] 62)) pa ga pb gb (2 + r) b ⟨none, upto 0⟩ ⟨none, []⟩ := by
    have l1 := H1.out.lt
    have l3 := h1.lt
    have s1 := H4.out.size
    have s2 := h4.size
    have hp := HP1.out
    exact ⟨[b], (H1.out.below h4).below (below_alloc1 _ _), h1.below (below_alloc1 _ _), GloAt.new w3 _ hb, ⟨by simp; omega, by simp; omega, by simp; omega, by simp; omega⟩, ⟨by omega, by omega, by omega, by omega⟩, ⟨hp.1, hp.2, by omega, by omega, fun x hx => by simp at hx; omega⟩, (below_on H4.out h4).alloc (by omega) _⟩
  have HST := Lib.hid hst
  clear hst h1 h2 h3 h4 H1 H4
  rw [hb] at HST
  go_wp2_with fail
  rw [← hb] at HST ⊢
  clear hb
  go_loopw [26] (fun iv wr => ∃ i : Nat, i ≤ n ∧ iv = .int .i64 i ∧ Hid (S8 w1 wr pa ga pb gb (2 + r) b ⟨none, upto i⟩ ⟨none, []⟩)) (fun iv _ => n - (intOf iv).toNat)
  case atStart => exact ⟨0, by omega, rfl, HST.out⟩
  case round =>
    obtain ⟨i, hi, rfl, hs⟩ := hrel
    by_cases hlt : i < n
    · go_wp2_with fail
      refine (s8_put hs.out (by omega)).mono ?_
      rintro e w4 ⟨rfl, h4⟩
      have H4 := Lib.hid h4; clear h4
      go_wp2
      exact ⟨⟨i + 1, by omega, by go_num, H4⟩, by simp [intOf]; omega⟩
    · obtain rfl : i = n := by omega
      cases hi0 : i with
      | zero =>
        subst hi0
        have hsv : mSteal (2 + r) ⟨none, []⟩ ⟨none, upto 0⟩ = (⟨none, []⟩, ⟨none, []⟩, none) := by simp [mSteal, upto]
        have hc := s8_steal hs.out
        rw [hsv] at hc
        have HC := Lib.hid hc
        clear hc hsv
        go_wp2_with fail
        refine HC.out.mono ?_
        rintro e w4 ⟨rfl, h4⟩
        have hb9 := below_on B1.out h4.bel
        clear h4 HC
        unfold gotv
        simp only [Option.getD_none, Option.isSome_none]
        go_wp2
        go_ret
        exact ⟨rfl, hb9⟩
      | succ m =>
        rw [← hi0]
        have hip : 0 < i := by omega
        clear hi0
        obtain ⟨k, hk⟩ : ∃ k, k = min ((i + 1) / 2) (2 + r + 1) := ⟨_, rfl⟩
        have hsv := steal_some (2 + r) i k hk hip
        have hc := s8_steal hs.out
        rw [hsv] at hc
        have HC := Lib.hid hc
        clear hc hsv
        have hk1 : 1 ≤ k ∧ k ≤ i := by omega
        have hrest := rest_eq i k hk1.1 hk1.2
        obtain ⟨X, hX⟩ : ∃ X, X = ((upto i).take k).tail := ⟨_, rfl⟩
        obtain ⟨Y, hY⟩ : ∃ Y, Y = (upto i).drop k := ⟨_, rfl⟩
        have hXl : X.length = k - 1 := by rw [hX, List.length_tail, List.length_take, upto_len]; omega
        have hYl : Y.length = i - k := by rw [hY, List.length_drop, upto_len]
        rw [← hX, ← hY] at HC hrest
        have HXL := Lib.hid hXl
        have HYL := Lib.hid hYl
        have HRS := Lib.hid hrest
        obtain ⟨hf, hhf⟩ : ∃ hf, hf = (i + 1) / 2 := ⟨_, rfl⟩
        have hquo : ((i : Int) + 1).tdiv 2 = (hf : Int) := by rw [hhf, Int.tdiv_eq_ediv_of_nonneg (by omega)]; rfl
        have hcase : ((hf : Int) ≤ 3 + (r : Int) ∧ k = hf) ∨ (3 + (r : Int) < (hf : Int) ∧ (k : Int) = 3 + (r : Int)) := by omega
        have hne : ((i : Int) == 0) = false := by rw [beq_eq_false_iff_ne]; omega
        have hhf2 : hf ≤ 100 := by omega
        clear hX hY hXl hYl hrest hk hhf
        rcases hcase with ⟨hle, rfl⟩ | ⟨hle, hk3⟩
        · have HKV : Hid ((k : Int) = (k : Int) ∧ 1 ≤ k ∧ k ≤ i) := Lib.hid ⟨rfl, hk1⟩
          go_wp2_with fail
          refine HC.out.mono ?_
          rintro e w4 ⟨rfl, h4⟩
          have H4 := Lib.hid h4
          clear h4 HC
          unfold gotv
          simp only [Option.getD_some, Option.isSome_some]
          obtain ⟨F, j1, j2, -⟩ := H4.out
          have LB := llen_any _ _ _ _ _ j2
          have LA := llen_any _ _ _ _ _ j1
          simp only [Option.isSome_none] at LA LB
          rw [show ((X.length : Int) + if false = true then 1 else 0) = (k : Int) - 1 by rw [HXL.out]; have := HKV.out; simp; omega] at LB
          rw [show ((Y.length : Int) + if false = true then 1 else 0) = (i : Int) - (k : Int) by rw [HYL.out]; have := HKV.out; simp; omega] at LA
          have HLA := Lib.hid LA
          have HLB := Lib.hid LB
          clear j1 j2 LA LB
          go_wp2_with fail
          refine HLB.out.mono ?_
          rintro e w5 ⟨rfl, hw5⟩
          subst hw5
          go_wp2_with fail
          refine HLA.out.mono ?_
          rintro e w6 ⟨rfl, hw6⟩
          subst hw6
          clear HLA HLB
          obtain ⟨F, j1, j2, -⟩ := H4.out
          have J2 := Lib.hid j2
          clear j1 j2
          go_wp2_with fail
          refine (llist_any _ _ _ _ _ J2.out).mono ?_
          rintro e w7 ⟨q1, rfl, k3, k4, k5⟩
          have H7 := Lib.hid (H4.out.step k5)
          have K7 := Lib.hid k4
          have Q1 : Hid (w1.heap.size ≤ q1) := Lib.hid (Nat.le_trans H4.out.bel.size k3)
          clear k3 k4 k5 J2
          obtain ⟨F, j1, j2, -⟩ := H7.out
          have J1 := Lib.hid j1
          clear j1 j2
          go_wp2_with fail
          refine (llist_any _ _ _ _ _ J1.out).mono ?_
          rintro e w8 ⟨q2, rfl, k3, k4, k5⟩
          have B8 := Lib.hid (below_on B1.out (H7.out.step k5).bel)
          have B81 := Lib.hid (H7.out.step k5).bel
          have K8 := Lib.hid (K7.out.below k5)
          have I8 := Lib.hid k4.ints
          clear k3 k4 k5 J1
          simp only [HXL.out, HYL.out] at K8 ⊢
          go_wp2_with (at_builtin; refine wpList_append_row (l := X) (m := Y) rfl _ _ 26 rfl 3 i0 _ Try.underlying26 Hi.out Hz0.out Hz1.out Hz2.out rfl rfl rfl HXL.out.symm HYL.out.symm K8.out I8.out (by rw [HXL.out, HYL.out]; omega) ?_)
          intro a2 c2 w9 k9 c9 f9
          have hb9 : Below w.heap.size w w9 := below_on B1.out (Chg.below B81.out c9 (fun x hx => by simp [blk] at hx; have := Q1.out; omega))
          have HB9 := Lib.hid hb9
          have K9 := Lib.hid k9.ints
          have hlen : (X ++ Y).length = i - 1 := by rw [List.length_append, HXL.out, HYL.out]; omega
          have HLEN := Lib.hid hlen
          have hnum : k - 1 + (i - k) = i - 1 := by omega
          clear hb9 k9 c9 f9 hlen
          try simp only [hnum]
          go_wp2_with fail
          go_loopw [82] (fun jv wr => ∃ j : Nat, j ≤ i - 1 ∧ jv = .int .i64 j ∧ wr = w9) (fun jv _ => i - 1 - (intOf jv).toNat)
          case atStart => exact ⟨0, by omega, rfl, rfl⟩
          case round =>
            obtain ⟨j, hj, rfl, rfl⟩ := hrel
            by_cases hlt2 : j < i - 1
            · obtain ⟨b9, o9, rfl, g9⟩ := K9.out j (by rw [HLEN.out]; exact hlt2)
              have hxj : (X ++ Y)[j]'(by rw [HLEN.out]; exact hlt2) = ((j + 1 : Nat) : Int) := by
                have := tail_at i j (by rw [List.length_tail, upto_len]; exact hlt2)
                simp only [HRS.out]; exact this
              rw [hxj] at g9
              clear hxj
              rw [show ((j + 1 : Nat) : Int) = (j : Int) + 1 by omega] at g9
              have hji : (j : Int) < ((i - 1 : Nat) : Int) := by omega
              go_wp2
              exact ⟨⟨j + 1, by omega, by go_num, trivial⟩, by simp [intOf]; omega⟩
            · obtain rfl : j = i - 1 := by omega
              go_wp2
              go_ret
              exact ⟨rfl, HB9.out⟩
        · have HKV : Hid ((k : Int) = 3 + (r : Int) ∧ 1 ≤ k ∧ k ≤ i) := Lib.hid ⟨hk3, hk1⟩
          clear hk3
          go_wp2_with fail
          refine HC.out.mono ?_
          rintro e w4 ⟨rfl, h4⟩
          have H4 := Lib.hid h4
          clear h4 HC
          unfold gotv
          simp only [Option.getD_some, Option.isSome_some]
          obtain ⟨F, j1, j2, -⟩ := H4.out
          have LB := llen_any _ _ _ _ _ j2
          have LA := llen_any _ _ _ _ _ j1
          simp only [Option.isSome_none] at LA LB
          rw [show ((X.length : Int) + if false = true then 1 else 0) = (3 + (r : Int)) - 1 by rw [HXL.out]; have := HKV.out; simp; omega] at LB
          rw [show ((Y.length : Int) + if false = true then 1 else 0) = (i : Int) - (3 + (r : Int)) by rw [HYL.out]; have := HKV.out; simp; omega] at LA
          have HLA := Lib.hid LA
          have HLB := Lib.hid LB
          clear j1 j2 LA LB
          go_wp2_with fail
          refine HLB.out.mono ?_
          rintro e w5 ⟨rfl, hw5⟩
          subst hw5
          go_wp2_with fail
          refine HLA.out.mono ?_
          rintro e w6 ⟨rfl, hw6⟩
          subst hw6
          clear HLA HLB
          obtain ⟨F, j1, j2, -⟩ := H4.out
          have J2 := Lib.hid j2
          clear j1 j2
          go_wp2_with fail
          refine (llist_any _ _ _ _ _ J2.out).mono ?_
          rintro e w7 ⟨q1, rfl, k3, k4, k5⟩
          have H7 := Lib.hid (H4.out.step k5)
          have K7 := Lib.hid k4
          have Q1 : Hid (w1.heap.size ≤ q1) := Lib.hid (Nat.le_trans H4.out.bel.size k3)
          clear k3 k4 k5 J2
          obtain ⟨F, j1, j2, -⟩ := H7.out
          have J1 := Lib.hid j1
          clear j1 j2
          go_wp2_with fail
          refine (llist_any _ _ _ _ _ J1.out).mono ?_
          rintro e w8 ⟨q2, rfl, k3, k4, k5⟩
          have B8 := Lib.hid (below_on B1.out (H7.out.step k5).bel)
          have B81 := Lib.hid (H7.out.step k5).bel
          have K8 := Lib.hid (K7.out.below k5)
          have I8 := Lib.hid k4.ints
          clear k3 k4 k5 J1
          simp only [HXL.out, HYL.out] at K8 ⊢
          go_wp2_with (at_builtin; refine wpList_append_row (l := X) (m := Y) rfl _ _ 26 rfl 3 i0 _ Try.underlying26 Hi.out Hz0.out Hz1.out Hz2.out rfl rfl rfl HXL.out.symm HYL.out.symm K8.out I8.out (by rw [HXL.out, HYL.out]; omega) ?_)
          intro a2 c2 w9 k9 c9 f9
          have hb9 : Below w.heap.size w w9 := below_on B1.out (Chg.below B81.out c9 (fun x hx => by simp [blk] at hx; have := Q1.out; omega))
          have HB9 := Lib.hid hb9
          have K9 := Lib.hid k9.ints
          have hlen : (X ++ Y).length = i - 1 := by rw [List.length_append, HXL.out, HYL.out]; omega
          have HLEN := Lib.hid hlen
          have hnum : k - 1 + (i - k) = i - 1 := by omega
          clear hb9 k9 c9 f9 hlen
          try simp only [hnum]
          go_wp2_with fail
          go_loopw [82] (fun jv wr => ∃ j : Nat, j ≤ i - 1 ∧ jv = .int .i64 j ∧ wr = w9) (fun jv _ => i - 1 - (intOf jv).toNat)
          case atStart => exact ⟨0, by omega, rfl, rfl⟩
          case round =>
            obtain ⟨j, hj, rfl, rfl⟩ := hrel
            by_cases hlt2 : j < i - 1
            · obtain ⟨b9, o9, rfl, g9⟩ := K9.out j (by rw [HLEN.out]; exact hlt2)
              have hxj : (X ++ Y)[j]'(by rw [HLEN.out]; exact hlt2) = ((j + 1 : Nat) : Int) := by
                have := tail_at i j (by rw [List.length_tail, upto_len]; exact hlt2)
                simp only [HRS.out]; exact this
              rw [hxj] at g9
              clear hxj
              rw [show ((j + 1 : Nat) : Int) = (j : Int) + 1 by omega] at g9
              have hji : (j : Int) < ((i - 1 : Nat) : Int) := by omega
              go_wp2
              exact ⟨⟨j + 1, by omega, by go_num, trivial⟩, by simp [intOf]; omega⟩
            · obtain rfl : j = i - 1 := by omega
              go_wp2
              go_ret
              exact ⟨rfl, HB9.out⟩
end Go.Proofs.Ytfkomjahdidimaa.localSteals
