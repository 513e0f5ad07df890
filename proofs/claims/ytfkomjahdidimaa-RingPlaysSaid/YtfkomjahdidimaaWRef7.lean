/-
  The walks of the document's ring: a list.
-/
import Derived.Test.YtfkomjahdidimaaWRing3
open Go Go.RowKit
set_option linter.unusedVariables false
namespace Go.Proofs.Ytfkomjahdidimaa
/-- The document's ring as a value. -/
def xval (a : Option Addr) (n cap N : Nat) : Value := .agg #[.slice a n cap, .int .i64 (N : Int)]
theorem RowAt.one (w : World) (x : Int) (t : TypeId) {b : Nat} (hb : b = w.heap.size) : RowAt (w.alloc (.cells #[.int .i64 x] t)) (some ⟨b, 0, none⟩) 1 [x] := RowAt.new w [x] t (by simp [maxLen]) hb
theorem RowAt.empty (w : World) (t : TypeId) {b : Nat} (hb : b = w.heap.size) : RowAt (w.alloc (.cells #[] t)) (some ⟨b, 0, none⟩) 0 [] := RowAt.new w [] t (by simp [maxLen]) hb
theorem below_alloc2 (w : World) (o1 o2 : Obj) : Below w.heap.size w ((w.alloc o1).alloc o2) := (below_alloc1 _ _).alloc (by simp) _
theorem below_alloc3 (w : World) (o1 o2 o3 : Obj) : Below w.heap.size w (((w.alloc o1).alloc o2).alloc o3) := (below_alloc2 _ _ _).alloc (by simp; omega) _
set_option maxRecDepth 100000 in
set_option maxHeartbeats 1000000 in
theorem xnew_any (z : Int) (w : World) : Calls Try.prog 12 #[.int .i64 z] w fun r w' => r = .returned (xval none 0 0 (roomOf z)) ∧ Below w.heap.size w w' := by
  obtain ⟨N, hN⟩ : ∃ N, N = roomOf z := ⟨_, rfl⟩
  have hV : (N : Int) = 1 ∧ z < 1 ∨ (N : Int) = 1 ∧ z = 1 ∨ (N : Int) = z ∧ 1 < z ∧ z ≤ 1024 ∨ (N : Int) = 1024 ∧ 1024 < z := by rw [hN]; unfold roomOf; omega
  rw [← hN]
  clear hN
  rcases hV with ⟨hV, hz⟩ | ⟨hV, rfl⟩ | ⟨hV, hz, hz'⟩ | ⟨hV, hz⟩
  all_goals
    unfold xval
    rw [hV]
    have HV := Lib.hid hV; clear hV
    go_enter Try.func12, Try.ntmps12
    go_wp2
    exact bodyPost_ret (by simp [results, Try.results12, go_sem]) rfl ⟨rfl, (Below.refl _ _).alloc (Nat.le_refl _) _⟩
set_option maxRecDepth 100000 in
set_option maxHeartbeats 1000000 in
theorem xpush_any (w : World) (a : Option Addr) (cap N : Nat) (l : List Int) (v : Int) (h : RowAt w a cap l) (hl : l.length < N) (hN : N ≤ 1024) :
    Calls Try.prog 13 #[xval a l.length cap N, .int .i64 v] w fun r w' => ∃ a' cap', r = .returned (.tuple #[xval a' (l.length + 1) cap' N, .bool true]) ∧ RowAt w' a' cap' (l ++ [v]) ∧ (∀ x ∈ blk a', w.heap.size ≤ x) ∧ Below w.heap.size w w' := by
  obtain ⟨n, hn⟩ : ∃ n, n = l.length := ⟨_, rfl⟩
  have hb : ((n : Int) == (N : Int)) = false := by rw [beq_eq_false_iff_ne]; omega
  rw [← hn]
  unfold xval
  have H := Lib.hid h.ints
  clear h
  obtain ⟨i0, hi0, hz0, hz1, hz2⟩ := info_parts info_int
  have Hi := Lib.hid hi0; clear hi0
  have Hz0 := Lib.hid hz0; clear hz0
  have Hz1 := Lib.hid hz1; clear hz1
  have Hz2 := Lib.hid hz2; clear hz2
  have hnN : n < N := by omega
  have HN := Lib.hid hn; clear hn hl
  go_enter Try.func13, Try.ntmps13
  go_wp2_with (at_builtin; refine wpList_append_row (l := []) (m := l) rfl _ _ 26 rfl 3 i0 _ Try.underlying26 Hi.out Hz0.out Hz1.out Hz2.out rfl rfl rfl rfl HN.out (RowAt.empty _ _ (by simp)) (H.out.below (below_alloc3 _ _ _ _)) (by have := HN.out; simp; omega) ?_)
  intro a1 c1 w1 k1 ch1 f1
  have B0 : Blk w1 w.heap.size [.slice a n cap, .int .i64 (N : Int)] := (((Blk.mk _ _ _ _ rfl).alloc _).alloc _).chg ch1 (by simp [blk] <;> omega)
  have B1 : Blk w1 (w.heap.size + 1) [.slice none 0 0, .int .i64 0] := ((Blk.mk _ _ _ _ (by simp)).alloc _).chg ch1 (by simp [blk] <;> omega)
  have hb1 : Below w.heap.size w w1 := Chg.below (below_alloc3 _ _ _ _) ch1 (fun x hx => by simp [blk] at hx; omega)
  have hf1 : ∀ x ∈ blk a1, w.heap.size + 2 ≤ x := fun x hx => by
    rcases f1 x hx with h | h
    · simp [blk] at h; omega
    · omega
  obtain ⟨s0, hs0⟩ : ∃ s0, s0 = w.heap.size := ⟨_, rfl⟩
  rw [← hs0] at B0 B1 hf1 ⊢
  have HS0 := Lib.hid hs0
  have HB0 := Lib.hid B0
  have HB1 := Lib.hid B1
  have HBel := Lib.hid hb1
  have HF1 := Lib.hid hf1
  have K1 := Lib.hid k1
  obtain ⟨g0, _⟩ := B0 0 _ rfl
  clear B0 B1 hb1 hf1 k1 ch1 f1 hs0
  go_wp2_with (at_builtin; refine wpList_append_row (l := l) (m := [v]) rfl _ _ 26 rfl 3 i0 _ Try.underlying26 Hi.out Hz0.out Hz1.out Hz2.out rfl rfl rfl HN.out rfl (K1.out.below (below_alloc1 _ _)) (RowAt.one _ _ _ rfl).ints (by have := HN.out; simp; omega) ?_)
  intro a2 c2 w2 k2 ch2 f2
  have ch2' : Chg (blk a1) w1 w2 := (Chg.of_below (below_alloc1 _ _)).trans ch2 (fun x hx => .inl hx)
  have B0 := HB0.out.chg ch2' (fun hx => by have := HF1.out _ hx; omega)
  have B1 := HB1.out.chg ch2' (fun hx => by have := HF1.out _ hx; omega)
  have hb2 : Below w.heap.size w w2 := Chg.below HBel.out ch2' (fun x hx => by have := HF1.out _ hx; have := HS0.out; omega)
  have hf2 : ∀ x ∈ blk a2, s0 + 2 ≤ x := fun x hx => by
    rcases f2 x hx with h | h
    · exact HF1.out x h
    · have h1 := HBel.out.size
      have h2 := HB1.out.lt (by simp)
      omega
  have HB0' := Lib.hid B0
  have HB1' := Lib.hid B1
  have HBel' := Lib.hid hb2
  have HF2 := Lib.hid hf2
  have K2 := Lib.hid k2
  obtain ⟨g0, m0⟩ := B0 0 _ rfl
  obtain ⟨g1, m1⟩ := B0 1 _ rfl
  obtain ⟨r0, t0⟩ := B1 0 _ rfl
  obtain ⟨r1, t1⟩ := B1 1 _ rfl
  clear B0 B1 hb2 hf2 k2 ch2 ch2' f2 HB0 HB1 HBel HF1 K1
  have HN2 := HN.out
  have hend : ∀ v1 v2 v3, RowAt (((w2.setCell ⟨s0, 0, none⟩ v1).setCell ⟨s0 + 1, 0, none⟩ v2).setCell ⟨s0 + 1, 1, none⟩ v3) a2 c2 (l ++ [v]) ∧ (∀ x ∈ blk a2, w.heap.size ≤ x) ∧ Below w.heap.size w (((w2.setCell ⟨s0, 0, none⟩ v1).setCell ⟨s0 + 1, 0, none⟩ v2).setCell ⟨s0 + 1, 1, none⟩ v3) := fun v1 v2 v3 => by
    have hc : Chg [s0, s0 + 1] w2 (((w2.setCell ⟨s0, 0, none⟩ v1).setCell ⟨s0 + 1, 0, none⟩ v2).setCell ⟨s0 + 1, 1, none⟩ v3) := (((Chg.refl _ _).setCell _ (.inl (by simp))).setCell _ (.inl (by simp))).setCell _ (.inl (by simp))
    have := HS0.out
    exact ⟨K2.out.chg hc (fun x hx => by have := HF2.out x hx; simp; omega), fun x hx => by have := HF2.out x hx; omega, Chg.below HBel'.out hc (fun x hx => by simp at hx; omega)⟩
  have HE := Lib.hid hend; clear hend
  go_wp2
  exact bodyPost_ret (v := .tuple #[.agg #[.slice a2 (n + 1) c2, .int .i64 (N : Int)], .bool true]) (by simp [results, Try.results13, go_sem, r0, r1]; exact HN2.symm) rfl ⟨a2, c2, rfl, HE.out _ _ _⟩
set_option maxRecDepth 100000 in
set_option maxHeartbeats 1000000 in
theorem xpush_full (w : World) (a : Option Addr) (n cap N : Nat) (v : Int) (hn : n = N) :
    Calls Try.prog 13 #[xval a n cap N, .int .i64 v] w fun r w' => r = .returned (.tuple #[xval a n cap N, .bool false]) ∧ Below w.heap.size w w' := by
  subst hn
  unfold xval
  go_enter Try.func13, Try.ntmps13
  go_wp2
  exact bodyPost_ret (v := .tuple #[.agg #[.slice a n cap, .int .i64 (n : Int)], .bool false]) (by simp [results, Try.results13, go_sem]) rfl ⟨rfl, below_alloc2 _ _ _⟩
theorem size_int : ∀ w, (sizeOf (Try.prog.elem 26)).run Try.prog w = .ok 1 w := by
  obtain ⟨i0, hi, hz0, hz1, hz2⟩ := info_parts info_int
  intro w
  have e : Try.prog.elem 26 = 3 := by kernel_rfl
  rw [e]; simp [sizeOf, typeInfo, hi, hz1]
theorem under_ints : Try.prog.underlying 26 = some (.slice (Try.prog.elem 26)) := by
  have e : Try.prog.elem 26 = 3 := by kernel_rfl
  rw [e]; exact Try.underlying26
set_option maxRecDepth 100000 in
set_option maxHeartbeats 1000000 in
theorem xtake_any (w : World) (a : Option Addr) (cap N : Nat) (l : List Int) (k : Int) (h : RowAt w a cap l) (hl : l.length ≤ 100000) :
    Calls Try.prog 15 #[xval a l.length cap N, .int .i64 k] w fun r w' => ∃ a1 c1 a2 c2, r = .returned (.tuple #[xval a1 (l.length - takes k l.length) c1 N, .slice a2 (takes k l.length) c2]) ∧
      RowAt w' a1 c1 (l.drop (takes k l.length)) ∧ RowAt w' a2 c2 (l.take (takes k l.length)) ∧ (∀ x ∈ blk a1 ++ blk a2, w.heap.size ≤ x) ∧ Below w.heap.size w w' := by
  obtain ⟨K, hK⟩ : ∃ K, K = takes k l.length := ⟨_, rfl⟩
  have hKl := takes_le k l.length
  have hKn : K = min k.toNat l.length := by rw [hK]; rfl
  rw [← hK] at hKl ⊢
  have hV : (K = 0 ∧ k < 0) ∨ (K = 0 ∧ k = 0) ∨ (k = (K : Int) ∧ 0 < K ∧ K < l.length) ∨ (K = l.length ∧ 0 < l.length ∧ k = (l.length : Int)) ∨ (K = l.length ∧ 0 < l.length ∧ (l.length : Int) < k) ∨ (K = 0 ∧ l.length = 0 ∧ 0 < k) := by omega
  have hcap := h.1
  clear hK hKn
  obtain ⟨at1, hs1, hr1, hk1⟩ := slice_from under_ints size_int h K hKl
  have hs0 : ∀ w', (Instr.slice 26 (.slice a l.length cap) none (some (.int .i64 (K : Int))) none).run Try.prog w' = .ok (.slice a K cap) w' := fun w' => slice_head w' under_ints size_int a l.length cap K (by have := h.1; omega)
  have hi1 : IntsAt w at1 (l.drop K) := hr1.ints
  have hi0 : IntsAt w a (l.take K) := (h.take K).ints
  have HI1 := Lib.hid hi1; clear hi1 hr1 hk1
  have HI0 := Lib.hid hi0; clear hi0 h
  obtain ⟨n, hn⟩ : ∃ n, n = l.length := ⟨_, rfl⟩
  rw [← hn] at hV hKl hs1 hs0 hl hcap ⊢
  have HN := Lib.hid hn; clear hn
  unfold xval
  obtain ⟨i0, hi0, hz0, hz1, hz2⟩ := info_parts info_int
  have Hi := Lib.hid hi0; clear hi0
  have Hz0 := Lib.hid hz0; clear hz0
  have Hz1 := Lib.hid hz1; clear hz1
  have Hz2 := Lib.hid hz2; clear hz2
  have hl1 : (l.take K).length = K := by rw [List.length_take]; have := HN.out; omega
  have hl2 : (l.drop K).length = n - K := by rw [List.length_drop, HN.out]
  have HL1 := Lib.hid hl1; clear hl1
  have HL2 := Lib.hid hl2; clear hl2
  generalize hA : l.take K = A at *
  generalize hB : l.drop K = B at *
  clear hA hB
  obtain ⟨s0, hs0'⟩ : ∃ s0, s0 = w.heap.size := ⟨_, rfl⟩
  have HS0 := Lib.hid hs0'
  have hst : Blk ((w.alloc (.cells #[.slice a n cap, .int .i64 (N : Int)] 28)).alloc (.cells #[.slice none 0 0, .int .i64 0] 28)) s0 [.slice a n cap, .int .i64 (N : Int)] ∧
      Blk ((w.alloc (.cells #[.slice a n cap, .int .i64 (N : Int)] 28)).alloc (.cells #[.slice none 0 0, .int .i64 0] 28)) (s0 + 1) [.slice none 0 0, .int .i64 0] ∧
      Below w.heap.size w ((w.alloc (.cells #[.slice a n cap, .int .i64 (N : Int)] 28)).alloc (.cells #[.slice none 0 0, .int .i64 0] 28)) := ⟨(Blk.mk _ _ _ _ hs0').alloc _, Blk.mk _ _ _ _ (by simp; omega), below_alloc2 _ _ _⟩
  have HST := Lib.hid hst; clear hst
  go_enter Try.func15, Try.ntmps15
  go_upto_region 1 with fail
  go_cut [1] (fun s1 wx => s1 = .int .i64 (K : Int) ∧ Hid (Blk wx s0 [.slice a n cap, .int .i64 (N : Int)] ∧ Blk wx (s0 + 1) [.slice none 0 0, .int .i64 0] ∧ Below w.heap.size w wx))
  case first =>
    rcases hV with ⟨rfl, hz⟩ | ⟨rfl, rfl⟩ | ⟨rfl, hz, hz'⟩ | ⟨rfl, hz, rfl⟩ | ⟨rfl, hz, hz'⟩ | ⟨rfl, rfl, hz⟩
    all_goals
      clear hs0 hs1
      go_wp2_with fail
      go_meet
      exact ⟨rfl, HST.out⟩
  case rest =>
    obtain ⟨rfl, hr⟩ := hcut
    rw [← hs0']
    clear hs0' hV HST
    have g0 : ∀ o, (wc.alloc o).cell? ⟨s0, 0, none⟩ = some (.slice a n cap) := fun o => ((hr.out.1.alloc o) 0 _ rfl).1
    go_wp2_with (at_builtin; refine wpList_append_row (l := []) (m := A) rfl _ _ 26 rfl 3 i0 _ Try.underlying26 Hi.out Hz0.out Hz1.out Hz2.out rfl rfl rfl rfl HL1.out.symm (RowAt.empty _ _ (by simp)) ((HI0.out.below hr.out.2.2).below (below_alloc1 _ _)) (by have := HL1.out; simp only [List.length_nil]; omega) ?_)
    intro a1 c1 w1 k1 ch1 f1
    have hsz := hr.out.2.1.lt (by simp)
    have c1' : Chg [] wc w1 := (Chg.of_below (below_alloc1 _ _)).trans ch1 (fun x hx => by simp [blk] at hx; omega)
    have hf1 : ∀ x ∈ blk a1, s0 + 2 ≤ x := fun x hx => by
      rcases f1 x hx with h | h
      · simp [blk] at h; omega
      · omega
    have B0 := hr.out.1.chg c1' (by simp)
    have B1 := hr.out.2.1.chg c1' (by simp)
    have b1 := below_on hr.out.2.2 c1'.to_below0
    have HI1' := Lib.hid (HI1.out.below b1)
    have HB0 := Lib.hid B0
    have HB1 := Lib.hid B1
    have HBel := Lib.hid b1
    have HF1 := Lib.hid hf1
    have hk1 : RowAt w1 a1 c1 A := by simpa using k1
    have K1 := Lib.hid hk1
    have h0 : ∀ o, (w1.alloc o).cell? ⟨s0, 0, none⟩ = some (.slice a n cap) := fun o => ((HB0.out.alloc o) 0 _ rfl).1
    clear B0 B1 b1 hf1 k1 hk1 ch1 f1 hsz c1' HI0 HI1 g0
    go_wp2_with (at_builtin; refine wpList_append_row (l := []) (m := B) rfl _ _ 26 rfl 3 i0 _ Try.underlying26 Hi.out Hz0.out Hz1.out Hz2.out rfl rfl rfl rfl HL2.out.symm (RowAt.empty _ _ rfl) (HI1'.out.below (below_alloc1 _ _)) (by have := HL2.out; simp only [List.length_nil]; omega) ?_)
    intro a2 c2 w2 k2 ch2 f2
    have hsz := HB1.out.lt (by simp)
    have c2' : Chg [] w1 w2 := (Chg.of_below (below_alloc1 _ _)).trans ch2 (fun x hx => by simp [blk] at hx; omega)
    have hf2 : ∀ x ∈ blk a2, s0 + 2 ≤ x := fun x hx => by
      rcases f2 x hx with h | h
      · simp [blk] at h; omega
      · omega
    have B0 := HB0.out.chg c2' (by simp)
    have B1 := HB1.out.chg c2' (by simp)
    have hb2 := below_on HBel.out c2'.to_below0
    have hk2 : RowAt w2 a2 c2 B := by simpa using k2
    have K1' := Lib.hid (K1.out.below c2'.to_below0)
    have HB0' := Lib.hid B0
    have HB1' := Lib.hid B1
    have HBel' := Lib.hid hb2
    have HF2 := Lib.hid hf2
    have K2 := Lib.hid hk2
    obtain ⟨j0, m0⟩ := B0 0 _ rfl
    obtain ⟨j1, m1⟩ := B0 1 _ rfl
    obtain ⟨r0, t0⟩ := B1 0 _ rfl
    obtain ⟨r1, t1⟩ := B1 1 _ rfl
    clear B0 B1 hb2 hf2 k2 hk2 ch2 f2 HB0 HB1 HBel hsz c2' HI1' hs0 hs1
    have hend : ∀ v1 v2 v3, RowAt (((w2.setCell ⟨s0, 0, none⟩ v1).setCell ⟨s0 + 1, 0, none⟩ v2).setCell ⟨s0 + 1, 1, none⟩ v3) a2 c2 B ∧ RowAt (((w2.setCell ⟨s0, 0, none⟩ v1).setCell ⟨s0 + 1, 0, none⟩ v2).setCell ⟨s0 + 1, 1, none⟩ v3) a1 c1 A ∧
        (∀ x ∈ blk a2 ++ blk a1, w.heap.size ≤ x) ∧ Below w.heap.size w (((w2.setCell ⟨s0, 0, none⟩ v1).setCell ⟨s0 + 1, 0, none⟩ v2).setCell ⟨s0 + 1, 1, none⟩ v3) := fun v1 v2 v3 => by
      have hc : Chg [s0, s0 + 1] w2 (((w2.setCell ⟨s0, 0, none⟩ v1).setCell ⟨s0 + 1, 0, none⟩ v2).setCell ⟨s0 + 1, 1, none⟩ v3) := (((Chg.refl _ _).setCell _ (.inl (by simp))).setCell _ (.inl (by simp))).setCell _ (.inl (by simp))
      have := HS0.out
      refine ⟨K2.out.chg hc (fun x hx => by have := HF2.out x hx; simp; omega), K1'.out.chg hc (fun x hx => by have := HF1.out x hx; simp; omega), fun x hx => ?_, Chg.below HBel'.out hc (fun x hx => by simp at hx; omega)⟩
      rcases List.mem_append.1 hx with h | h
      · have := HF2.out x h; omega
      · have := HF1.out x h; omega
    have HE := Lib.hid hend; clear hend
    go_wp2
    exact bodyPost_ret (v := .tuple #[.agg #[.slice a2 (n - K) c2, .int .i64 (N : Int)], .slice a1 K c1]) (by simp [results, Try.results15, go_sem, r0, r1]) rfl ⟨a2, c2, a1, c1, rfl, HE.out _ _ _⟩
end Go.Proofs.Ytfkomjahdidimaa
