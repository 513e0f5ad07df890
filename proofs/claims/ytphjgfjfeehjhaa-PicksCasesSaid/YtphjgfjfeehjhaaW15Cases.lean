/-
  The walk of the law PicksCases.
-/
import Derived.Test.YtphjgfjfeehjhaaWPx5
import Derived.Test.YtphjgfjfeehjhaaWPx3
import Derived.Test.YtphjgfjfeehjhaaWPx1
import Derived.Test.YtphjgfjfeehjhaaWPk2
import Derived.Test.YtphjgfjfeehjhaaWPk3
import Derived.Test.YtphjgfjfeehjhaaWPk4
import Derived.Test.YtphjgfjfeehjhaaWSame7
open Go Go.RowKit
set_option linter.unusedVariables false
namespace Go.Proofs.Ytphjgfjfeehjhaa.picksCases
theorem set3 (As : List Asr) (X Y Z A A' : Asr) (R : List Asr) : (As ++ X :: Y :: Z :: A :: R).set (As.length + 3) A' = As ++ X :: Y :: Z :: A' :: R := by rw [List.set_append_right _ _ (by omega), Nat.add_sub_cancel_left]; rfl
theorem set4 (As : List Asr) (X Y Z A B B' : Asr) (R : List Asr) : (As ++ X :: Y :: Z :: A :: B :: R).set (As.length + 4) B' = As ++ X :: Y :: Z :: A :: B' :: R := by rw [List.set_append_right _ _ (by omega), Nat.add_sub_cancel_left]; rfl
theorem at5 (As : List Asr) (X Y Z A B C : Asr) (R : List Asr) : (As ++ X :: Y :: Z :: A :: B :: C :: R)[As.length + 5]? = some C := by rw [List.getElem?_append_right (by omega), Nat.add_sub_cancel_left]; rfl
theorem _root_.Go.Proofs.Ytphjgfjfeehjhaa.Own.oaTurn {w0 w w' : World} {As : List Asr} {X Y Z : Asr} {R : List Asr} {s : Nat} {a a' : Option Addr} {cap cap' n n' : Nat} {cs cs' : List Value} (h : Own w0 w (As ++ X :: Y :: Z :: RowGA s a cap n cs :: R)) (hr : RowG s w' a' cap' n' cs') (c : Chg (blk a) w w') (hf : ∀ x ∈ blk a', x ∈ blk a ∨ w.heap.size ≤ x) :
    Own w0 w' (As ++ X :: Y :: Z :: RowGA s a' cap' n' cs' :: R) := by
  have h1 := (Own.rowTurn (h.pick (As.length + 3) (at3 _ _ _ _ _ _)) hr c hf).back (by simp)
  rwa [set3] at h1
theorem _root_.Go.Proofs.Ytphjgfjfeehjhaa.Own.taTurn {w0 w w' : World} {As : List Asr} {X Y Z A : Asr} {R : List Asr} {s : Nat} {a a' : Option Addr} {cap cap' n n' : Nat} {cs cs' : List Value} (h : Own w0 w (As ++ X :: Y :: Z :: A :: RowGA s a cap n cs :: R)) (hr : RowG s w' a' cap' n' cs') (c : Chg (blk a) w w') (hf : ∀ x ∈ blk a', x ∈ blk a ∨ w.heap.size ≤ x) :
    Own w0 w' (As ++ X :: Y :: Z :: A :: RowGA s a' cap' n' cs' :: R) := by
  have h1 := (Own.rowTurn (h.pick (As.length + 4) (at4 _ _ _ _ _ _ _)) hr c hf).back (by simp)
  rwa [set4] at h1
theorem drop5 {w0 w : World} {As : List Asr} {A B C D E F : Asr} (h : Own w0 w (As ++ A :: B :: C :: D :: E :: [F])) : Own w0 w (As ++ A :: B :: C :: D :: [E]) := Own.dropR (As := As ++ [A, B, C, D, E]) (Bs := [F]) (by simpa using h) |> fun h => by simpa using h
theorem info_c0 : (Try.prog.info? 34).map (fun i => (i.zero, i.size, i.bytes)) = some (some (.agg #[.int .i64 0, .int .i64 0, .int .i64 0]), 3, 24) := by kernel_rfl
theorem info_x0 : (Try.prog.info? 33).map (fun i => (i.zero, i.size, i.bytes)) = some (some (.agg #[.int .i64 0, .int .i64 0, .int .i64 0]), 3, 24) := by kernel_rfl
theorem and_7i (x : Int) : bits BinOp.and IntKind.i64 x 7 = x % 8 := by
  show IntKind.i64.wrap (((BitVec.ofInt 64 x) &&& (BitVec.ofInt 64 7)).toNat : Int) = x % 8
  have e : (BitVec.ofInt 64 7).toNat = 7 := by decide
  rw [BitVec.toNat_and, e, show (7 : Nat) = 2 ^ 3 - 1 from rfl, Nat.and_two_pow_sub_one_eq_mod, IntKind.wrap_i64, BitVec.toNat_ofInt]; omega
theorem _root_.Go.Proofs.Ytphjgfjfeehjhaa.Own.waitTurn {w0 w : World} {As : List Asr} {X P A B : Asr} {R : List Asr} (h : Own w0 w (X :: P :: A :: B :: (As ++ R))) : Own w0 w (As ++ A :: X :: P :: B :: R) := by
  refine h.perm ?_
  have e1 : (X :: P :: A :: B :: (As ++ R)).Perm (A :: X :: P :: B :: (As ++ R)) := List.perm_middle (l₁ := [X, P]) (a := A)
  have e2 : (A :: X :: P :: B :: (As ++ R)).Perm (A :: X :: P :: B :: (R ++ As)) := (((List.perm_append_comm (l₁ := As) (l₂ := R)).cons B).cons P).cons X |>.cons A
  exact (e1.trans e2).trans (List.perm_append_comm (l₁ := A :: X :: P :: B :: R) (l₂ := As))
theorem wasF_lim (g : Int) (regs : List Int) : ∀ (ks : List Cs3) (n i : Nat) (Cs : List Ch), Lim n Cs → Lim (n + ks.length) (wasF g regs i ks Cs)
  | [], n, i, Cs, h => h
  | k :: t, n, i, Cs, h => by
    unfold wasF
    exact (wasF_lim g regs t (n + 1) (i + 1) _ (waF_lim n g regs i k Cs h)).mono (by simp only [List.length_cons]; omega)
theorem leF_lim (n : Nat) (g : Int) (Cs : List Ch) (h : Lim n Cs) : Lim n (Cs.map (leF g)) := fun C hC => by
  obtain ⟨D, hD, rfl⟩ := List.mem_map.1 hC
  obtain ⟨h1, h2, h3⟩ := h D hD
  have := dropW_len g D.S
  have := dropW_len g D.R
  unfold leF
  simp only
  omega
theorem wasF_len (g : Int) (regs : List Int) : ∀ (ks : List Cs3) (i : Nat) (Cs : List Ch), (wasF g regs i ks Cs).length = Cs.length
  | [], i, Cs => rfl
  | k :: t, i, Cs => by
    unfold wasF
    rw [wasF_len g regs t (i + 1), waF_len]
theorem cells_blk {w : World} {b : Nat} {l : List Int} (h : Blk w b (intc l)) : CellsAt w (some ⟨b, 0, none⟩) (intc l) := fun j v hj => ⟨b, 0, rfl, by rw [Nat.zero_add]; exact (h j v hj).1⟩
/-- The cases are in two rows. -/
def LpSt (w1 wr : World) (la : Option Addr) (lc : Nat) (xa : Option Addr) (xc : Nat) (ps : List Pl) (Cs : List Ch) (xs : List Rf) (rs : List Rw) (i : Nat) (oa : Option Addr) (oc : Nat) (ta : Option Addr) (tc : Nat) : Prop :=
  ∃ ks : List Cs3, ks.length = i ∧ CasOK 3 ks ∧ TwoSt w1 wr 3 la lc xa xc ps Cs xs rs [RowGA 3 oa oc i (c3s ks), RowGA 3 ta tc i (c3s ks)]
theorem LpSt.next {w1 wr : World} {la : Option Addr} {lc : Nat} {xa : Option Addr} {xc : Nat} {ps : List Pl} {Cs : List Ch} {xs : List Rf} {rs : List Rw} {i : Nat} {oa : Option Addr} {oc : Nat} {ta : Option Addr} {tc : Nat} {ks : List Cs3} {y ch rg cb : Nat}
    (h1 : ks.length = i ∧ CasOK 3 ks) (h2 : ps.length = 3 ∧ Alike ps Cs xs ∧ (∀ x ∈ xs, x.In rs) ∧ (∀ p ∈ ps, p.2 ≤ 16)) (hy : y < 3) (hc : ch < 3) (hg : rg < 8)
    (o : Own w1 wr (chs ps Cs ++ RowGA 1 la lc 3 (ptrs ps) :: RowGA 5 xa xc 3 (rfs xs) :: PoolR rs :: RowGA 3 oa oc (i + 1) (c3s ks ++ c3s [((y : Int), (ch : Int), (rg : Int))]) :: RowGA 3 ta tc (i + 1) (c3s ks ++ c3s [((y : Int), (ch : Int), (rg : Int))]) :: [CelA cb [.int .i64 (y : Int), .int .i64 (ch : Int), .int .i64 (rg : Int)]])) :
    LpSt w1 wr la lc xa xc ps Cs xs rs (i + 1) oa oc ta tc := by
  refine ⟨ks ++ [((y : Int), (ch : Int), (rg : Int))], by simp [h1.1], fun k hk => ?_, h2.1, h2.2.1, h2.2.2.1, h2.2.2.2, ?_⟩
  · rcases List.mem_append.1 hk with h | h
    · exact h1.2 k h
    · obtain rfl := by simpa using h
      simp only
      refine ⟨by omega, by omega, fun _ => by omega, by omega, by omega⟩
  · have e : c3s (ks ++ [((y : Int), (ch : Int), (rg : Int))]) = c3s ks ++ c3s [((y : Int), (ch : Int), (rg : Int))] := by unfold c3s; rw [List.flatMap_append]
    rw [e]
    exact drop5 o
set_option maxRecDepth 100000 in
set_option maxHeartbeats 16000000 in
theorem walk (r0 r1 r2 : Int) (a1 : Option Addr) (len1 cap1 : Nat) (acts : List Ac4) (a2 : Option Addr) (len2 cap2 : Nat) (raw : List Ac3) (g0 g1 g2 g3 g4 g5 g6 g7 : Int) (g : Int) (w : World) (ha : IsActsK4 .i64 .i64 .i64 .i64 w a1 len1 cap1 acts) (hc : IsActs3 w a2 len2 cap2 raw) (hg : (Lit.int .i64 g).wf = true) :
    Calls Try.prog 3 #[.agg #[.int .i64 r0, .int .i64 r1, .int .i64 r2], .slice a1 len1 cap1, .slice a2 len2 cap2, .agg #[.int .i64 g0, .int .i64 g1, .int .i64 g2, .int .i64 g3, .int .i64 g4, .int .i64 g5, .int .i64 g6, .int .i64 g7], .int .i64 g] w fun e w' => e = .returned (.bool true) ∧ Below w.heap.size w w' := by
  obtain ⟨h11, h12, h13, h14, -⟩ := ha
  obtain ⟨h21, h22, h23, h24, -⟩ := hc
  unfold maxLen at h13 h23
  have HA := Lib.hid h14
  have HC := Lib.hid h24
  have HL1 := Lib.hid h11
  have HL2 := Lib.hid h21
  have hl1 : len1 ≤ 9223372036854775807 := by omega
  have hl2 : len2 ≤ 9223372036854775807 := by omega
  clear h11 h12 h13 h14 h21 h22 h23 h24
  obtain ⟨C0, hi0, hz0, hz1, hz2⟩ := info_parts info_c0
  have Ci := Lib.hid hi0; clear hi0
  have Cz0 := Lib.hid hz0; clear hz0
  have Cz1 := Lib.hid hz1; clear hz1
  have Cz2 := Lib.hid hz2; clear hz2
  obtain ⟨X0, hi0, hz0, hz1, hz2⟩ := info_parts info_x0
  have Xi := Lib.hid hi0; clear hi0
  have Xz0 := Lib.hid hz0; clear hz0
  have Xz1 := Lib.hid hz1; clear hz1
  have Xz2 := Lib.hid hz2; clear hz2
  obtain ⟨rb, hrb⟩ : ∃ rb, rb = w.heap.size + 1 := ⟨_, rfl⟩
  have hbox : Blk ((w.alloc (.cells #[.int .i64 r0, .int .i64 r1, .int .i64 r2] 22)).alloc (.cells #[.int .i64 g0, .int .i64 g1, .int .i64 g2, .int .i64 g3, .int .i64 g4, .int .i64 g5, .int .i64 g6, .int .i64 g7] 25)) rb [.int .i64 g0, .int .i64 g1, .int .i64 g2, .int .i64 g3, .int .i64 g4, .int .i64 g5, .int .i64 g6, .int .i64 g7] := Blk.mk _ _ _ _ (by simp [hrb])
  have hbr : Blk ((w.alloc (.cells #[.int .i64 r0, .int .i64 r1, .int .i64 r2] 22)).alloc (.cells #[.int .i64 g0, .int .i64 g1, .int .i64 g2, .int .i64 g3, .int .i64 g4, .int .i64 g5, .int .i64 g6, .int .i64 g7] 25)) w.heap.size [.int .i64 r0, .int .i64 r1, .int .i64 r2] := (Blk.mk w [.int .i64 r0, .int .i64 r1, .int .i64 r2] 22 _ rfl).below (below_alloc1 _ _)
  have hb0 : Below w.heap.size w ((w.alloc (.cells #[.int .i64 r0, .int .i64 r1, .int .i64 r2] 22)).alloc (.cells #[.int .i64 g0, .int .i64 g1, .int .i64 g2, .int .i64 g3, .int .i64 g4, .int .i64 g5, .int .i64 g6, .int .i64 g7] 25)) := below_alloc2 _ _ _
  have HBOX := Lib.hid hbox
  have HBR := Lib.hid hbr
  have HB0 := Lib.hid hb0
  clear hbox hbr hb0
  go_enter Try.func3, Try.ntmps3
  go_upto_region 1 with fail
  rw [← hrb]
  generalize ((w.alloc (.cells #[.int .i64 r0, .int .i64 r1, .int .i64 r2] 22)).alloc (.cells #[.int .i64 g0, .int .i64 g1, .int .i64 g2, .int .i64 g3, .int .i64 g4, .int .i64 g5, .int .i64 g6, .int .i64 g7] 25)) = W0 at *
  clear hrb
  go_wp2_with fail
  refine (awake15_any _).mono ?_
  rintro e w1 ⟨rfl, hb1⟩
  have B1 := Lib.hid (below_on HB0.out hb1)
  have BOX := Lib.hid (HBOX.out.below hb1)
  obtain ⟨y0, -⟩ := (HBR.out.below hb1) 0 _ rfl
  obtain ⟨y1, -⟩ := (HBR.out.below hb1) 1 _ rfl
  obtain ⟨y2, -⟩ := (HBR.out.below hb1) 2 _ rfl
  clear hb1 HBOX HBR HB0
  have hmd := made_any w1 r0 r1 r2 a1 len1 cap1 acts (HA.out.below B1.out) HL1.out hl1
  have HMD := Lib.hid hmd
  clear hmd
  go_wp2_with fail
  refine HMD.out.mono ?_
  rintro r w2 ⟨la, lc, xa, xc, ps, Cs, xs, rs, rfl, h2, hlim⟩
  have H2 := Lib.hid (show ps.length = 3 ∧ Alike ps Cs xs ∧ (∀ x ∈ xs, x.In rs) ∧ (∀ p ∈ ps, p.2 ≤ 16) from ⟨h2.1, h2.2.1, h2.2.2.1, h2.2.2.2.1⟩)
  have HLIM := Lib.hid hlim
  have hst : LpSt w1 ((w2.alloc (.cells #[] 34)).alloc (.cells #[] 33)) la lc xa xc ps Cs xs rs 0 (some ⟨w2.heap.size, 0, none⟩) 0 (some ⟨w2.heap.size + 1, 0, none⟩) 0 := by
    have o1 := h2.2.2.2.2.add (below_alloc1 w2 (.cells #[] 34)) (A := RowGA 3 (some ⟨w2.heap.size, 0, none⟩) 0 0 (c3s [])) (F := [w2.heap.size]) ⟨rfl, RowG.zero (by simp)⟩ (fun x hx => by simp at hx; omega)
    have o2 := (Own.sink o1).add (below_alloc1 _ (.cells #[] 33)) (A := RowGA 3 (some ⟨w2.heap.size + 1, 0, none⟩) 0 0 (c3s [])) (F := [w2.heap.size + 1]) ⟨rfl, RowG.zero (by simp)⟩ (fun x hx => by simp at hx; simp; omega)
    have o3 := Own.rot o2
    exact ⟨[], rfl, fun k hk => by simp at hk, h2.1, h2.2.1, h2.2.2.1, h2.2.2.2.1, by simpa using o3⟩
  have HST := Lib.hid hst
  clear hst h2 hlim HMD y0 y1 y2 HA HL1
  go_wp2_with fail
  go_loopw [13, 14, 15] (fun s13 s14 s15 wr => ∃ i : Nat, ∃ oa oc ta tc, i ≤ len2 ∧ i ≤ 8 ∧ s15 = .int .i64 i ∧ s13 = .slice oa i oc ∧ s14 = .slice ta i tc ∧ Hid (LpSt w1 wr la lc xa xc ps Cs xs rs i oa oc ta tc)) (fun _ _ s15 _ => 8 - (intOf s15).toNat)
  case atStart => exact ⟨0, _, 0, _, 0, by omega, by omega, rfl, rfl, rfl, HST⟩
  case round =>
    obtain ⟨i, oa, oc, ta, tc, hi1, hi2, rfl, rfl, rfl, hr⟩ := hrel
    obtain ⟨ks, hk1, hk2, hk3⟩ := hr.out
    clear HST
    by_cases hlt : i < len2 ∧ i < 8
    · obtain ⟨z1, z2⟩ := hlt
      have hil : i < raw.length := by have := HL2.out; omega
      obtain ⟨b, off, rfl, q0, q1, q2⟩ := HC.out i hil
      have hbw := below_on B1.out hk3.2.2.2.2.bel
      have q0 := cell_below q0 hbw
      have q1 := cell_below q1 hbw
      have q2 := cell_below q2 hbw
      obtain ⟨x, hx⟩ : ∃ x, x = raw[i] := ⟨_, rfl⟩
      rw [← hx] at q0 q1 q2
      obtain ⟨x0, x1, x2⟩ := x
      simp only at q0 q1 q2
      obtain ⟨y, hy, hy3, -⟩ := small_of x0 3 (by omega)
      have hy : (bits BinOp.and IntKind.i64 x0 255).tmod 3 = (y : Int) := hy
      obtain ⟨ch, hch, hch3, -⟩ := small_of x1 3 (by omega)
      have hch : (bits BinOp.and IntKind.i64 x1 255).tmod 3 = (ch : Int) := hch
      obtain ⟨rg, hrg, hrg8⟩ : ∃ rg : Nat, bits BinOp.and IntKind.i64 x2 7 = (rg : Int) ∧ rg < 8 := ⟨(x2 % 8).toNat, by rw [and_7i]; omega, by omega⟩
      have z1' : (i : Int) < (len2 : Int) := by omega
      have z2' : (i : Int) < 8 := by omega
      have HK := Lib.hid (And.intro hk1 hk2)
      have HO := Lib.hid hk3.2.2.2.2
      clear hr hk1 hk2 hk3 hbw hx
      go_upto_region 8 with fail
      have hS : ∀ wx, Below wr.heap.size wr wx → (wx.cell? ⟨b, off + i * 3, none⟩ = some (.int .i64 x0) ∧ wx.cell? ⟨b, off + i * 3 + 1, none⟩ = some (.int .i64 x1) ∧ wx.cell? ⟨b, off + i * 3 + 2, none⟩ = some (.int .i64 x2)) := fun wx hb => ⟨cell_below q0 hb, cell_below q1 hb, cell_below q2 hb⟩
      have HS := Lib.hid hS
      clear q0 q1 q2 hS
      refine wp_region_lexH (fun wx => wx.cell? ⟨b, off + i * 3, none⟩ = some (.int .i64 x0) ∧ wx.cell? ⟨b, off + i * 3 + 1, none⟩ = some (.int .i64 x1) ∧ wx.cell? ⟨b, off + i * 3 + 2, none⟩ = some (.int .i64 x2)) 23 (Array.replicate 23 false) (by kernel_rfl) (by kernel_rfl) ?_
      refine wpAnyH_seg 0 21 _ #[true, true, true, true, true, true, true, true, true, true, true, true, true, true, true, true, true, true, true, true, true, false, false] 2 (by kernel_rfl) noPanic_put (HS.out _ (below_drew1 wr)) (by kernel_rfl) ?_
      simp only [List.take_succ_cons, List.take_zero, List.drop_zero]
      repeat (first
        | (refine wpSegH_no (by rfl) ?_; simp only [Act.put, List.setIfInBounds_toArray, List.set_cons_zero, List.set_cons_succ])
        | (refine wpSegH_yes (by rfl) ?_; apply Exists.intro; apply And.intro; (· (intro wx hS; (try dsimp only at hS); go_simp; first | done | with_reducible rfl)); simp only [Act.put, List.setIfInBounds_toArray, List.set_cons_zero, List.set_cons_succ]))
      refine wpSegH_nil ?_
      refine wpAnyH_one 21 _ #[true, true, true, true, true, true, true, true, true, true, true, true, true, true, true, true, true, true, true, true, true, true, false] 1 (by kernel_rfl) (fun K hK => ?_)
      have HKK := Lib.hid hK
      clear hK
      simp only [List.drop_succ_cons, List.drop_zero]
      refine headH_mk (by rfl) ?_
      go_simp
      refine HKK.out _ _ (HS.out _ (below_on (below_drew1 wr) (below_alloc1 _ _))) ?_
      clear HKK K
      refine wpAnyH_one 22 _ #[true, true, true, true, true, true, true, true, true, true, true, true, true, true, true, true, true, true, true, true, true, true, true] 0 (by kernel_rfl) (fun K hK => ?_)
      have HKK := Lib.hid hK
      clear hK
      simp only [List.drop_succ_cons, List.drop_zero]
      refine headH_mk (by rfl) ?_
      go_simp
      refine HKK.out _ _ (HS.out _ (by repeat (first | exact below_on (below_drew1 wr) (below_alloc1 _ _) | refine Below.setCell ?_ (by simp) _))) ?_
      clear HKK K
      refine wpAnyH_done (by kernel_rfl) (NoPanic.normal ?_) _
      obtain ⟨cb, hcb⟩ : ∃ cb, cb = wr.heap.size := ⟨_, rfl⟩
      rw [← hcb]
      have hWO : Own w1 (wr.alloc (.cells #[.int .i64 (y : Int), .int .i64 (ch : Int), .int .i64 (rg : Int)] 33)).drew (chs ps Cs ++ RowGA 1 la lc 3 (ptrs ps) :: RowGA 5 xa xc 3 (rfs xs) :: PoolR rs :: RowGA 3 oa oc i (c3s ks) :: RowGA 3 ta tc i (c3s ks) :: [CelA cb [.int .i64 (y : Int), .int .i64 (ch : Int), .int .i64 (rg : Int)]]) := by
        have o := (Own.rot (HO.out.alloc [.int .i64 (y : Int), .int .i64 (ch : Int), .int .i64 (rg : Int)] 33 hcb)).step (below_drew1 _)
        simpa using o
      have HWO := Lib.hid hWO
      clear hWO HS HO hcb
      go_upto_region 9 with fail
      generalize (wr.alloc (.cells #[.int .i64 (y : Int), .int .i64 (ch : Int), .int .i64 (rg : Int)] 33)).drew = W at *
      have LToa : ∀ x ∈ blk oa, x < W.heap.size := (HWO.out.rowG ((chs ps Cs).length + 3) (at3 _ _ _ _ _ _)).lt
      have LTta : ∀ x ∈ blk ta, x < W.heap.size := (HWO.out.rowG ((chs ps Cs).length + 4) (at4 _ _ _ _ _ _ _)).lt
      have SCB : ∀ {wx : World} {A B C D E : Asr}, Own w1 wx (chs ps Cs ++ A :: B :: C :: D :: E :: [CelA cb [.int .i64 (y : Int), .int .i64 (ch : Int), .int .i64 (rg : Int)]]) → (wx.cell? ⟨cb, 0, none⟩ = some (.int .i64 (y : Int)) ∧ wx.cell? ⟨cb, 1, none⟩ = some (.int .i64 (ch : Int)) ∧ wx.cell? ⟨cb, 2, none⟩ = some (.int .i64 (rg : Int))) := fun h => by
        have hB := h.cel ((chs ps Cs).length + 5) (at5 _ _ _ _ _ _ _ _)
        exact ⟨(hB 0 _ rfl).1, (hB 1 _ rfl).1, (hB 2 _ rfl).1⟩
      clear hy hch hrg z1' z2'
      refine wp_region_lexH (fun wx => wx.cell? ⟨cb, 0, none⟩ = some (.int .i64 (y : Int)) ∧ wx.cell? ⟨cb, 1, none⟩ = some (.int .i64 (ch : Int)) ∧ wx.cell? ⟨cb, 2, none⟩ = some (.int .i64 (rg : Int))) 10 (Array.replicate 10 false) (by kernel_rfl) (by kernel_rfl) ?_
      have oA := HWO.out.step (below_drew1 W)
      have sA : W.heap.size ≤ W.drew.heap.size := Nat.le_refl _
      refine wpAnyH_seg 0 2 _ #[true, true, false, false, false, false, false, false, false, false] 8 (by kernel_rfl) noPanic_put (SCB oA) (by kernel_rfl) ?_
      simp only [List.take_succ_cons, List.take_zero, List.drop_zero]
      repeat (first
        | (refine wpSegH_no (by rfl) ?_; simp only [Act.put, List.setIfInBounds_toArray, List.set_cons_zero, List.set_cons_succ])
        | (refine wpSegH_yes (by rfl) ?_; apply Exists.intro; apply And.intro; (· (intro wx hS; (try dsimp only at hS); go_simp; first | done | with_reducible rfl)); simp only [Act.put, List.setIfInBounds_toArray, List.set_cons_zero, List.set_cons_succ]))
      refine wpSegH_nil ?_
      refine wpAnyH_seg 4 2 _ #[true, true, false, false, true, true, false, false, false, false] 6 (by kernel_rfl) noPanic_put (SCB oA) (by kernel_rfl) ?_
      simp only [List.take_succ_cons, List.take_zero, List.drop_succ_cons, List.drop_zero]
      repeat (first
        | (refine wpSegH_no (by rfl) ?_; simp only [Act.put, List.setIfInBounds_toArray, List.set_cons_zero, List.set_cons_succ])
        | (refine wpSegH_yes (by rfl) ?_; apply Exists.intro; apply And.intro; (· (intro wx hS; (try dsimp only at hS); go_simp; first | done | with_reducible rfl)); simp only [Act.put, List.setIfInBounds_toArray, List.set_cons_zero, List.set_cons_succ]))
      refine wpSegH_nil ?_
      refine wpAnyH_two 2 6 _ #[true, true, true, false, true, true, false, false, false, false] #[true, true, false, false, true, true, true, false, false, false] 5 (by kernel_rfl) (fun K hK => ?_) (fun K hK => ?_)
      · skip
        have HKK := Lib.hid hK
        clear hK
        simp only [List.drop_succ_cons, List.drop_zero]
        refine headH_mk (by rfl) ?_
        go_simp
        have o1 := oA.step (below_alloc1 W.drew (.cells #[.int .i64 (y : Int), .int .i64 (ch : Int), .int .i64 (rg : Int)] 34))
        have s1 : W.heap.size ≤ (W.drew.alloc (.cells #[.int .i64 (y : Int), .int .i64 (ch : Int), .int .i64 (rg : Int)] 34)).heap.size := Nat.le_trans sA (below_alloc1 W.drew (.cells #[.int .i64 (y : Int), .int .i64 (ch : Int), .int .i64 (rg : Int)] 34)).size
        have q2 : CellsAt (W.drew.alloc (.cells #[.int .i64 (y : Int), .int .i64 (ch : Int), .int .i64 (rg : Int)] 34)) (some ⟨W.drew.heap.size, 0, none⟩) (c3s [((y : Int), (ch : Int), (rg : Int))]) := CellsAt.new _ [.int .i64 (y : Int), .int .i64 (ch : Int), .int .i64 (rg : Int)] _ rfl
        have t2 := sA
        refine HKK.out _ _ (SCB o1) ?_
        clear HKK K
        refine wpAnyH_two 3 6 _ #[true, true, true, true, true, true, false, false, false, false] #[true, true, true, false, true, true, true, false, false, false] 4 (by kernel_rfl) (fun K hK => ?_) (fun K hK => ?_)
        · skip
          have HKK := Lib.hid hK
          clear hK
          simp only [List.drop_succ_cons, List.drop_zero]
          refine headH_mk (by rfl) ?_
          refine wp_append_rowG (n := i) (m := 1) (cs := c3s ks) (ds := c3s [((y : Int), (ch : Int), (rg : Int))]) _ _ 31 (by rfl) 34 C0 _ Try.underlying31 Ci.out Cz0.out Cz1.out Cz2.out rfl (by omega) (by omega) (by rfl) (by rfl) (o1.rowG ((chs ps Cs).length + 3) (at3 _ _ _ _ _ _)) (by first | exact q2 | (have hq := q2; simp at hq ⊢; exact hq)) rfl (wtc_one _) (by omega) ?_
          intro a2 c2 w2 k2 ch2 f2
          have o2 := o1.oaTurn k2 ch2 f2
          have s2 : W.heap.size ≤ w2.heap.size := Nat.le_trans s1 ch2.size
          refine HKK.out _ _ (SCB o2) ?_
          clear HKK K
          refine wpAnyH_one 6 _ #[true, true, true, true, true, true, true, false, false, false] 3 (by kernel_rfl) (fun K hK => ?_)
          have HKK := Lib.hid hK
          clear hK
          simp only [List.drop_succ_cons, List.drop_zero]
          refine headH_mk (by rfl) ?_
          go_simp
          have o3 := o2.step (below_alloc1 w2 (.cells #[.int .i64 (y : Int), .int .i64 (ch : Int), .int .i64 (rg : Int)] 33))
          have s3 : W.heap.size ≤ (w2.alloc (.cells #[.int .i64 (y : Int), .int .i64 (ch : Int), .int .i64 (rg : Int)] 33)).heap.size := Nat.le_trans s2 (below_alloc1 w2 (.cells #[.int .i64 (y : Int), .int .i64 (ch : Int), .int .i64 (rg : Int)] 33)).size
          have q6 : CellsAt (w2.alloc (.cells #[.int .i64 (y : Int), .int .i64 (ch : Int), .int .i64 (rg : Int)] 33)) (some ⟨w2.heap.size, 0, none⟩) (c3s [((y : Int), (ch : Int), (rg : Int))]) := CellsAt.new _ [.int .i64 (y : Int), .int .i64 (ch : Int), .int .i64 (rg : Int)] _ rfl
          have t6 := s2
          refine HKK.out _ _ (SCB o3) ?_
          clear HKK K
          refine wpAnyH_one 7 _ #[true, true, true, true, true, true, true, true, false, false] 2 (by kernel_rfl) (fun K hK => ?_)
          have HKK := Lib.hid hK
          clear hK
          simp only [List.drop_succ_cons, List.drop_zero]
          refine headH_mk (by rfl) ?_
          refine wp_append_rowG (n := i) (m := 1) (cs := c3s ks) (ds := c3s [((y : Int), (ch : Int), (rg : Int))]) _ _ 24 (by rfl) 33 X0 _ Try.underlying24 Xi.out Xz0.out Xz1.out Xz2.out rfl (by omega) (by omega) (by rfl) (by rfl) (o3.rowG ((chs ps Cs).length + 4) (at4 _ _ _ _ _ _ _)) (by first | exact q6 | (have hq := q6; simp at hq ⊢; exact hq)) rfl (wtc_one _) (by omega) ?_
          intro a4 c4 w4 k4 ch4 f4
          have o4 := o3.taTurn k4 ch4 f4
          have s4 : W.heap.size ≤ w4.heap.size := Nat.le_trans s3 ch4.size
          refine HKK.out _ _ (SCB o4) ?_
          clear HKK K
          refine wpAnyH_seg 8 2 _ #[true, true, true, true, true, true, true, true, true, true] 0 (by kernel_rfl) noPanic_put (SCB o4) (by kernel_rfl) ?_
          simp only [List.take_succ_cons, List.take_zero, List.drop_succ_cons, List.drop_zero]
          repeat (first
            | (refine wpSegH_no (by rfl) ?_; simp only [Act.put, List.setIfInBounds_toArray, List.set_cons_zero, List.set_cons_succ])
            | (refine wpSegH_yes (by rfl) ?_; apply Exists.intro; apply And.intro; (· (intro wx hS; (try dsimp only at hS); go_simp; first | done | with_reducible rfl)); simp only [Act.put, List.setIfInBounds_toArray, List.set_cons_zero, List.set_cons_succ]))
          refine wpSegH_nil ?_
          refine wpAnyH_done (by kernel_rfl) (NoPanic.normal ?_) _
          have HR := Lib.hid (LpSt.next HK.out H2.out hy3 hch3 hrg8 o4)
          clear SCB LToa LTta HWO
          go_wp2
          exact ⟨⟨i + 1, a2, c2, a4, c4, by omega, by omega, by go_num, by simp, by simp, HR⟩, by simp [intOf]; omega⟩
        · skip
          have HKK := Lib.hid hK
          clear hK
          simp only [List.drop_succ_cons, List.drop_zero]
          refine headH_mk (by rfl) ?_
          go_simp
          have o2 := o1.step (below_alloc1 (W.drew.alloc (.cells #[.int .i64 (y : Int), .int .i64 (ch : Int), .int .i64 (rg : Int)] 34)) (.cells #[.int .i64 (y : Int), .int .i64 (ch : Int), .int .i64 (rg : Int)] 33))
          have s2 : W.heap.size ≤ ((W.drew.alloc (.cells #[.int .i64 (y : Int), .int .i64 (ch : Int), .int .i64 (rg : Int)] 34)).alloc (.cells #[.int .i64 (y : Int), .int .i64 (ch : Int), .int .i64 (rg : Int)] 33)).heap.size := Nat.le_trans s1 (below_alloc1 (W.drew.alloc (.cells #[.int .i64 (y : Int), .int .i64 (ch : Int), .int .i64 (rg : Int)] 34)) (.cells #[.int .i64 (y : Int), .int .i64 (ch : Int), .int .i64 (rg : Int)] 33)).size
          have q6 : CellsAt ((W.drew.alloc (.cells #[.int .i64 (y : Int), .int .i64 (ch : Int), .int .i64 (rg : Int)] 34)).alloc (.cells #[.int .i64 (y : Int), .int .i64 (ch : Int), .int .i64 (rg : Int)] 33)) (some ⟨(W.drew.alloc (.cells #[.int .i64 (y : Int), .int .i64 (ch : Int), .int .i64 (rg : Int)] 34)).heap.size, 0, none⟩) (c3s [((y : Int), (ch : Int), (rg : Int))]) := CellsAt.new _ [.int .i64 (y : Int), .int .i64 (ch : Int), .int .i64 (rg : Int)] _ rfl
          have t6 := s1
          have q2 := q2.below (below_alloc1 (W.drew.alloc (.cells #[.int .i64 (y : Int), .int .i64 (ch : Int), .int .i64 (rg : Int)] 34)) (.cells #[.int .i64 (y : Int), .int .i64 (ch : Int), .int .i64 (rg : Int)] 33))
          refine HKK.out _ _ (SCB o2) ?_
          clear HKK K
          refine wpAnyH_one 3 _ #[true, true, true, true, true, true, true, false, false, false] 3 (by kernel_rfl) (fun K hK => ?_)
          have HKK := Lib.hid hK
          clear hK
          simp only [List.drop_succ_cons, List.drop_zero]
          refine headH_mk (by rfl) ?_
          refine wp_append_rowG (n := i) (m := 1) (cs := c3s ks) (ds := c3s [((y : Int), (ch : Int), (rg : Int))]) _ _ 31 (by rfl) 34 C0 _ Try.underlying31 Ci.out Cz0.out Cz1.out Cz2.out rfl (by omega) (by omega) (by rfl) (by rfl) (o2.rowG ((chs ps Cs).length + 3) (at3 _ _ _ _ _ _)) (by first | exact q2 | (have hq := q2; simp at hq ⊢; exact hq)) rfl (wtc_one _) (by omega) ?_
          intro a3 c3 w3 k3 ch3 f3
          have o3 := o2.oaTurn k3 ch3 f3
          have s3 : W.heap.size ≤ w3.heap.size := Nat.le_trans s2 ch3.size
          have q6 := q6.chg ch3 (fun x hx hx2 => by simp [blk] at hx; have := LToa x hx2; have := t6; first | omega | (simp at this; omega))
          refine HKK.out _ _ (SCB o3) ?_
          clear HKK K
          refine wpAnyH_one 7 _ #[true, true, true, true, true, true, true, true, false, false] 2 (by kernel_rfl) (fun K hK => ?_)
          have HKK := Lib.hid hK
          clear hK
          simp only [List.drop_succ_cons, List.drop_zero]
          refine headH_mk (by rfl) ?_
          refine wp_append_rowG (n := i) (m := 1) (cs := c3s ks) (ds := c3s [((y : Int), (ch : Int), (rg : Int))]) _ _ 24 (by rfl) 33 X0 _ Try.underlying24 Xi.out Xz0.out Xz1.out Xz2.out rfl (by omega) (by omega) (by rfl) (by rfl) (o3.rowG ((chs ps Cs).length + 4) (at4 _ _ _ _ _ _ _)) (by first | exact q6 | (have hq := q6; simp at hq ⊢; exact hq)) rfl (wtc_one _) (by omega) ?_
          intro a4 c4 w4 k4 ch4 f4
          have o4 := o3.taTurn k4 ch4 f4
          have s4 : W.heap.size ≤ w4.heap.size := Nat.le_trans s3 ch4.size
          refine HKK.out _ _ (SCB o4) ?_
          clear HKK K
          refine wpAnyH_seg 8 2 _ #[true, true, true, true, true, true, true, true, true, true] 0 (by kernel_rfl) noPanic_put (SCB o4) (by kernel_rfl) ?_
          simp only [List.take_succ_cons, List.take_zero, List.drop_succ_cons, List.drop_zero]
          repeat (first
            | (refine wpSegH_no (by rfl) ?_; simp only [Act.put, List.setIfInBounds_toArray, List.set_cons_zero, List.set_cons_succ])
            | (refine wpSegH_yes (by rfl) ?_; apply Exists.intro; apply And.intro; (· (intro wx hS; (try dsimp only at hS); go_simp; first | done | with_reducible rfl)); simp only [Act.put, List.setIfInBounds_toArray, List.set_cons_zero, List.set_cons_succ]))
          refine wpSegH_nil ?_
          refine wpAnyH_done (by kernel_rfl) (NoPanic.normal ?_) _
          have HR := Lib.hid (LpSt.next HK.out H2.out hy3 hch3 hrg8 o4)
          clear SCB LToa LTta HWO
          go_wp2
          exact ⟨⟨i + 1, a3, c3, a4, c4, by omega, by omega, by go_num, by simp, by simp, HR⟩, by simp [intOf]; omega⟩
      · skip
        have HKK := Lib.hid hK
        clear hK
        simp only [List.drop_succ_cons, List.drop_zero]
        refine headH_mk (by rfl) ?_
        go_simp
        have o1 := oA.step (below_alloc1 W.drew (.cells #[.int .i64 (y : Int), .int .i64 (ch : Int), .int .i64 (rg : Int)] 33))
        have s1 : W.heap.size ≤ (W.drew.alloc (.cells #[.int .i64 (y : Int), .int .i64 (ch : Int), .int .i64 (rg : Int)] 33)).heap.size := Nat.le_trans sA (below_alloc1 W.drew (.cells #[.int .i64 (y : Int), .int .i64 (ch : Int), .int .i64 (rg : Int)] 33)).size
        have q6 : CellsAt (W.drew.alloc (.cells #[.int .i64 (y : Int), .int .i64 (ch : Int), .int .i64 (rg : Int)] 33)) (some ⟨W.drew.heap.size, 0, none⟩) (c3s [((y : Int), (ch : Int), (rg : Int))]) := CellsAt.new _ [.int .i64 (y : Int), .int .i64 (ch : Int), .int .i64 (rg : Int)] _ rfl
        have t6 := sA
        refine HKK.out _ _ (SCB o1) ?_
        clear HKK K
        refine wpAnyH_one 2 _ #[true, true, true, false, true, true, true, false, false, false] 4 (by kernel_rfl) (fun K hK => ?_)
        have HKK := Lib.hid hK
        clear hK
        simp only [List.drop_succ_cons, List.drop_zero]
        refine headH_mk (by rfl) ?_
        go_simp
        have o2 := o1.step (below_alloc1 (W.drew.alloc (.cells #[.int .i64 (y : Int), .int .i64 (ch : Int), .int .i64 (rg : Int)] 33)) (.cells #[.int .i64 (y : Int), .int .i64 (ch : Int), .int .i64 (rg : Int)] 34))
        have s2 : W.heap.size ≤ ((W.drew.alloc (.cells #[.int .i64 (y : Int), .int .i64 (ch : Int), .int .i64 (rg : Int)] 33)).alloc (.cells #[.int .i64 (y : Int), .int .i64 (ch : Int), .int .i64 (rg : Int)] 34)).heap.size := Nat.le_trans s1 (below_alloc1 (W.drew.alloc (.cells #[.int .i64 (y : Int), .int .i64 (ch : Int), .int .i64 (rg : Int)] 33)) (.cells #[.int .i64 (y : Int), .int .i64 (ch : Int), .int .i64 (rg : Int)] 34)).size
        have q2 : CellsAt ((W.drew.alloc (.cells #[.int .i64 (y : Int), .int .i64 (ch : Int), .int .i64 (rg : Int)] 33)).alloc (.cells #[.int .i64 (y : Int), .int .i64 (ch : Int), .int .i64 (rg : Int)] 34)) (some ⟨(W.drew.alloc (.cells #[.int .i64 (y : Int), .int .i64 (ch : Int), .int .i64 (rg : Int)] 33)).heap.size, 0, none⟩) (c3s [((y : Int), (ch : Int), (rg : Int))]) := CellsAt.new _ [.int .i64 (y : Int), .int .i64 (ch : Int), .int .i64 (rg : Int)] _ rfl
        have t2 := s1
        have q6 := q6.below (below_alloc1 (W.drew.alloc (.cells #[.int .i64 (y : Int), .int .i64 (ch : Int), .int .i64 (rg : Int)] 33)) (.cells #[.int .i64 (y : Int), .int .i64 (ch : Int), .int .i64 (rg : Int)] 34))
        refine HKK.out _ _ (SCB o2) ?_
        clear HKK K
        refine wpAnyH_one 3 _ #[true, true, true, true, true, true, true, false, false, false] 3 (by kernel_rfl) (fun K hK => ?_)
        have HKK := Lib.hid hK
        clear hK
        simp only [List.drop_succ_cons, List.drop_zero]
        refine headH_mk (by rfl) ?_
        refine wp_append_rowG (n := i) (m := 1) (cs := c3s ks) (ds := c3s [((y : Int), (ch : Int), (rg : Int))]) _ _ 31 (by rfl) 34 C0 _ Try.underlying31 Ci.out Cz0.out Cz1.out Cz2.out rfl (by omega) (by omega) (by rfl) (by rfl) (o2.rowG ((chs ps Cs).length + 3) (at3 _ _ _ _ _ _)) (by first | exact q2 | (have hq := q2; simp at hq ⊢; exact hq)) rfl (wtc_one _) (by omega) ?_
        intro a3 c3 w3 k3 ch3 f3
        have o3 := o2.oaTurn k3 ch3 f3
        have s3 : W.heap.size ≤ w3.heap.size := Nat.le_trans s2 ch3.size
        have q6 := q6.chg ch3 (fun x hx hx2 => by simp [blk] at hx; have := LToa x hx2; have := t6; first | omega | (simp at this; omega))
        refine HKK.out _ _ (SCB o3) ?_
        clear HKK K
        refine wpAnyH_one 7 _ #[true, true, true, true, true, true, true, true, false, false] 2 (by kernel_rfl) (fun K hK => ?_)
        have HKK := Lib.hid hK
        clear hK
        simp only [List.drop_succ_cons, List.drop_zero]
        refine headH_mk (by rfl) ?_
        refine wp_append_rowG (n := i) (m := 1) (cs := c3s ks) (ds := c3s [((y : Int), (ch : Int), (rg : Int))]) _ _ 24 (by rfl) 33 X0 _ Try.underlying24 Xi.out Xz0.out Xz1.out Xz2.out rfl (by omega) (by omega) (by rfl) (by rfl) (o3.rowG ((chs ps Cs).length + 4) (at4 _ _ _ _ _ _ _)) (by first | exact q6 | (have hq := q6; simp at hq ⊢; exact hq)) rfl (wtc_one _) (by omega) ?_
        intro a4 c4 w4 k4 ch4 f4
        have o4 := o3.taTurn k4 ch4 f4
        have s4 : W.heap.size ≤ w4.heap.size := Nat.le_trans s3 ch4.size
        refine HKK.out _ _ (SCB o4) ?_
        clear HKK K
        refine wpAnyH_seg 8 2 _ #[true, true, true, true, true, true, true, true, true, true] 0 (by kernel_rfl) noPanic_put (SCB o4) (by kernel_rfl) ?_
        simp only [List.take_succ_cons, List.take_zero, List.drop_succ_cons, List.drop_zero]
        repeat (first
          | (refine wpSegH_no (by rfl) ?_; simp only [Act.put, List.setIfInBounds_toArray, List.set_cons_zero, List.set_cons_succ])
          | (refine wpSegH_yes (by rfl) ?_; apply Exists.intro; apply And.intro; (· (intro wx hS; (try dsimp only at hS); go_simp; first | done | with_reducible rfl)); simp only [Act.put, List.setIfInBounds_toArray, List.set_cons_zero, List.set_cons_succ]))
        refine wpSegH_nil ?_
        refine wpAnyH_done (by kernel_rfl) (NoPanic.normal ?_) _
        have HR := Lib.hid (LpSt.next HK.out H2.out hy3 hch3 hrg8 o4)
        clear SCB LToa LTta HWO
        go_wp2
        exact ⟨⟨i + 1, a3, c3, a4, c4, by omega, by omega, by go_num, by simp, by simp, HR⟩, by simp [intOf]; omega⟩
    · have hcase : (i < len2 ∧ ¬ i < 8) ∨ ¬ i < len2 := by omega
      have hown : ∀ wx, Below wr.heap.size wr wx → CellsAt wx oa (c3s ks) ∧ CellsAt wx ta (c3s ks) := fun wx hb => ⟨((hk3.step hb).2.2.2.2.rowG ((chs ps Cs).length + 3) (at3 _ _ _ _ _ _)).cells, ((hk3.step hb).2.2.2.2.rowG ((chs ps Cs).length + 4) (at4 _ _ _ _ _ _ _)).cells⟩
      obtain ⟨e, he⟩ : ∃ e, e = elF 0 ks := ⟨_, rfl⟩
      obtain ⟨L, hLe⟩ : ∃ L, L = enF (goesB ps Cs) 0 ks := ⟨_, rfl⟩
      have hLl : L.length ≤ 8 := by have := enF_len (goesB ps Cs) ks 0; rw [hLe]; omega
      have h1 := fun wx hb => else_any wx oa i oc ks (hown wx hb).1 hk1.symm (by omega)
      have h2 := fun wx hb => xelse_any wx ta i tc ks (hown wx hb).2 hk1.symm (by omega)
      have h3 := fun wx hb => enabled_any (hk3.step hb).2.2.2.2 hk3.1.symm (by have := hk3.2.1.len; omega) oa i oc ks (hown wx hb).1 hk1.symm (by omega) hk2
      have h4 := fun wx hb => xenabled_any wx xa 3 xc xs ((hk3.step hb).2.2.2.2.rowG ((chs ps Cs).length + 1) (at1 _ _ _ _)).cells (by have := hk3.2.1.len; have := hk3.1; omega) ps Cs hk3.2.1 ta i tc ks (hown wx hb).2 hk1.symm (by omega) hk2 (HLIM.out.mono (by omega))
      rw [← he] at h1 h2
      obtain ⟨pe, hpe⟩ : ∃ pe, pe = (if e < 0 then (0 : Int) else e) := ⟨_, rfl⟩
      obtain ⟨qe, hqe⟩ : ∃ qe, qe = !decide (e < 0) := ⟨_, rfl⟩
      rw [← hpe, ← hqe] at h1
      have HPQ := Lib.hid (And.intro hpe hqe)
      clear hpe hqe
      rw [← hLe] at h3 h4
      have HF1 := Lib.hid h1
      have HF2 := Lib.hid h2
      have HF3 := Lib.hid h3
      have HF4 := Lib.hid h4
      have HOWN := Lib.hid hown
      have HK := Lib.hid (And.intro hk1 hk2)
      have H3 := Lib.hid hk3
      have hq : (len2 : Int) ≤ 9223372036854775807 := by omega
      clear hr hk1 hk2 hk3 hown h1 h2 h3 h4 he hLe
      go_upto_region 6 with fail
      go_cut [39] (fun s wx => s = .bool false ∧ wx = wr)
      case first =>
        rcases hcase with ⟨c1, c2⟩ | c1
        case' inl => have c1 : (i : Int) < (len2 : Int) := by omega
        case' inl => have c2 : ¬ (i : Int) < 8 := by omega
        case' inr => have c1 : ¬ (i : Int) < (len2 : Int) := by omega
        all_goals
          go_wp2_with fail
          go_meet
          exact ⟨rfl, rfl⟩
      case rest =>
        obtain ⟨rfl, hwc⟩ := hcut
        have hwc := hwc.symm
        subst hwc
        go_wp2_with fail
        refine (HF1.out _ (Below.refl _ _)).mono ?_
        rintro r w4 ⟨rfl, b4⟩
        go_wp2_with fail
        refine (HF2.out _ b4).mono ?_
        rintro r w5 ⟨rfl, b50⟩
        have b5 := below_on b4 b50
        clear b4 b50
        have B5 := Lib.hid b5
        clear b5
        go_upto_region 12 with fail
        go_cut [107] (fun s wx => s = .bool false ∧ Hid (Below wr.heap.size wr wx))
        case first =>
          go_wp2_with fail
          refine (HF3.out _ B5.out).mono ?_
          rintro r w6 ⟨u1, v1, rfl, k1, -, b60⟩
          have b6 := below_on B5.out b60
          clear b60
          go_wp2_with fail
          refine (HF4.out _ b6).mono ?_
          rintro r w7 ⟨u2, v2, rfl, k2, -, b70⟩
          have hsm := same_any w7 u1 u2 v1 v2 L (fun j hj => (k1.below b70).cells.int j hj) (fun j hj => k2.cells.int j hj) (by unfold maxLen; omega)
          have HSM := Lib.hid hsm
          have B7 := Lib.hid (below_on b6 b70)
          clear b6 b70 k1 k2 hsm HF1 HF2 HF3 HF4
          go_wp2_with fail
          refine HSM.out.mono ?_
          rintro r w8 ⟨rfl, m8, rfl⟩
          by_cases hneg : e < 0
          · have hneg2 : ¬ (0 : Int) ≤ e := by omega
            have hB := Lib.hid (below_drewN B7.out m8)
            obtain ⟨hpe, hqe⟩ := HPQ.out
            simp only [hneg, if_true, decide_true, Bool.not_true] at hpe hqe
            subst hpe hqe
            go_wp2_with fail
            go_meet
            exact ⟨by first | rfl | simp [hneg2], hB⟩
          · have hneg2 : (0 : Int) ≤ e := by omega
            have hB := Lib.hid (below_drewN B7.out m8)
            obtain ⟨hpe, hqe⟩ := HPQ.out
            simp only [hneg, if_false, decide_false, Bool.not_false] at hpe hqe
            subst hpe hqe
            go_wp2_with fail
            go_meet
            exact ⟨by first | rfl | simp [hneg2], hB⟩
        case rest =>
          obtain ⟨rfl, hB8⟩ := hcut
          have hcl : ps.length = Cs.length := by have := H3.out.2.1.len; omega
          have hn3 : 3 = ps.length := H3.out.1.symm
          have hwt := wait_any (H3.out.step hB8.out).2.2.2.2 hn3 hcl g oa i oc ks (some ⟨rb, 0, none⟩) 8 8 [g0, g1, g2, g3, g4, g5, g6, g7] (fun w' Cs' o => ⟨(o.rowG ((chs ps Cs').length + 3) (at3 _ _ _ _ _ _)).cells, cells_blk (BOX.out.below o.bel)⟩) HK.out.1.symm (by omega) rfl rfl HK.out.2 40 HLIM.out (by omega)
          obtain ⟨Cs9, hCs9⟩ : ∃ Cs9, Cs9 = wasF g [g0, g1, g2, g3, g4, g5, g6, g7] 0 ks Cs := ⟨_, rfl⟩
          rw [← hCs9] at hwt
          have HW := Lib.hid hwt
          have hcl9 : Cs9.length = Cs.length := by rw [hCs9]; exact wasF_len _ _ _ _ _
          have HLIM2 := Lib.hid (show Lim 50 Cs9 from by rw [hCs9]; exact (wasF_lim g [g0, g1, g2, g3, g4, g5, g6, g7] ks 40 0 Cs HLIM.out).mono (by have := HK.out.1; omega))
          have HC9 := Lib.hid (And.intro hCs9 (And.intro hcl hcl9))
          clear hwt hCs9 hcl hcl9 hn3 HOWN B5 HF1 HF2 HF3 HF4
          go_wp2_with fail
          refine HW.out.mono ?_
          rintro r w9 ⟨rfl, o9⟩
          have q := BOX.out.below o9.bel
          obtain ⟨z0, -⟩ := q 0 _ rfl
          obtain ⟨z1, -⟩ := q 1 _ rfl
          obtain ⟨z2, -⟩ := q 2 _ rfl
          obtain ⟨z3, -⟩ := q 3 _ rfl
          obtain ⟨z4, -⟩ := q 4 _ rfl
          obtain ⟨z5, -⟩ := q 5 _ rfl
          obtain ⟨z6, -⟩ := q 6 _ rfl
          obtain ⟨z7, -⟩ := q 7 _ rfl
          have hxw := xwait_any (o9.front.pick 2 rfl) xa 3 xc xs (o9.rowG ((chs ps Cs9).length + 1) (at1 _ _ _ _)).cells (by have := H3.out.2.1.len; have := H3.out.1; omega) H3.out.2.2.1 g ta i tc ks (o9.rowG ((chs ps Cs9).length + 4) (at4 _ _ _ _ _ _ _)).cells HK.out.1.symm (by omega) g0 g1 g2 g3 g4 g5 g6 g7 HK.out.2 40 (by rw [H3.out.2.1.2]; exact HLIM.out) (by omega) (by omega)
          rw [H3.out.2.1.2, ← HC9.out.1] at hxw
          have HXW := Lib.hid hxw
          clear q hxw o9 HW
          go_wp2_with fail
          refine HXW.out.mono ?_
          rintro r w10 ⟨xa2, xc2, xs2, rs2, rfl, hN2, hC2, hin2, -, o10, -⟩
          have HT : Hid (TwoSt w1 w10 3 la lc xa2 xc2 ps Cs9 xs2 rs2 [RowGA 5 xa xc 3 (rfs xs), RowGA 3 oa oc i (c3s ks), RowGA 3 ta tc i (c3s ks)]) := Lib.hid ⟨H3.out.1, ⟨by rw [hN2]; exact H3.out.2.1.1, hC2⟩, hin2, H3.out.2.2.2.1, o10.waitTurn⟩
          clear hN2 hC2 hin2 o10 HXW HC9 z0 z1 z2 z3 z4 z5 z6 z7 H3 hB8 HK BOX HLIM hq hLl HL2 HC
          go_wp2_with fail
          go_loopw [120] (fun s wr => ∃ j : Nat, j ≤ 3 ∧ s = .int .i64 j ∧ Hid (TwoSt w1 wr 3 la lc xa2 xc2 ps Cs9 xs2 rs2 [RowGA 5 xa xc 3 (rfs xs), RowGA 3 oa oc i (c3s ks), RowGA 3 ta tc i (c3s ks)])) (fun s _ => 3 - (intOf s).toNat)
          case atStart => exact ⟨0, by omega, rfl, HT⟩
          case round =>
            obtain ⟨j, hj, rfl, hr⟩ := hrel
            clear HT
            by_cases hlt : j < 3
            · have hj3 : (j : Int) < 3 := by omega
              have hxl := hr.out.2.1.len
              obtain ⟨X, hX⟩ : ∃ X, (xs2)[j]? = some X := ⟨_, List.getElem?_eq_getElem (by have := hr.out.1; omega)⟩
              obtain ⟨hC, p, hp⟩ := hr.out.2.1.at hX
              have hlm := HLIM2.out X.C (List.mem_of_getElem? hC)
              have ho := hr.out.2.2.2.2
              obtain ⟨lb, lo, rfl, gp⟩ := chPtr ho hp
              obtain ⟨xb, xo, rfl, x0, x1, x2, x3, x4⟩ := (ho.rowG ((chs ps (Cs9)).length + 1) (at1 _ _ _ _)).cells.rf hX
              have hS : ∀ wx, Below wr.heap.size wr wx → (wx.cell? ⟨lb, lo + j, none⟩ = some (.pointer (some ⟨p, 0, none⟩)) ∧ wx.cell? ⟨xb, xo + j * 5, none⟩ = some (.int .i64 (X.N : Int)) ∧ wx.cell? ⟨xb, xo + j * 5 + 1, none⟩ = some (.slice X.ba X.C.buf.length X.bc) ∧ wx.cell? ⟨xb, xo + j * 5 + 2, none⟩ = some (.slice X.sa X.C.S.length X.sc) ∧ wx.cell? ⟨xb, xo + j * 5 + 3, none⟩ = some (.slice X.ra X.C.R.length X.rc) ∧ wx.cell? ⟨xb, xo + j * 5 + 4, none⟩ = some (.bool X.C.cl)) := fun wx hb => ⟨cell_below gp hb, cell_below x0 hb, cell_below x1 hb, cell_below x2 hb, cell_below x3 hb, cell_below x4 hb⟩
              have HS := Lib.hid hS
              obtain ⟨R', hR, -⟩ := ho.chPick hp hC
              have HCS := Lib.hid (fun (wx : World) (hb : Below wr.heap.size wr wx) => cstate_any (hR.step hb) (by omega) (by omega) (by omega))
              have HRF := Lib.hid (show X.At wr from ho.pool ((chs ps (Cs9)).length + 2) (at2 _ _ _ _ _) (hr.out.2.2.1 X (List.mem_of_getElem? hX)))
              have HTW := hr
              clear hr hxl hX hC hp ho gp x0 x1 x2 x3 x4 hS hR
              go_upto_region 19 with fail
              refine wp_region_lexH (fun wx => wx.cell? ⟨lb, lo + j, none⟩ = some (.pointer (some ⟨p, 0, none⟩)) ∧ wx.cell? ⟨xb, xo + j * 5, none⟩ = some (.int .i64 (X.N : Int)) ∧ wx.cell? ⟨xb, xo + j * 5 + 1, none⟩ = some (.slice X.ba X.C.buf.length X.bc) ∧ wx.cell? ⟨xb, xo + j * 5 + 2, none⟩ = some (.slice X.sa X.C.S.length X.sc) ∧ wx.cell? ⟨xb, xo + j * 5 + 3, none⟩ = some (.slice X.ra X.C.R.length X.rc) ∧ wx.cell? ⟨xb, xo + j * 5 + 4, none⟩ = some (.bool X.C.cl)) 11 (Array.replicate 11 false) (by kernel_rfl) (by kernel_rfl) ?_
              refine wpAnyH_seg 0 4 _ #[true, true, true, true, false, false, false, false, false, false, false] 7 (by kernel_rfl) noPanic_put (HS.out _ (below_drew1 wr)) (by kernel_rfl) ?_
              simp only [List.take_succ_cons, List.take_zero, List.drop_zero]
              repeat (first
                | (refine wpSegH_no (by rfl) ?_; simp only [Act.put, List.setIfInBounds_toArray, List.set_cons_zero, List.set_cons_succ])
                | (refine wpSegH_yes (by rfl) ?_; apply Exists.intro; apply And.intro; (· (intro wx hS; (try dsimp only at hS); go_simp; first | done | with_reducible rfl)); simp only [Act.put, List.setIfInBounds_toArray, List.set_cons_zero, List.set_cons_succ]))
              refine wpSegH_nil ?_
              refine wpAnyH_seg 5 4 _ #[true, true, true, true, false, true, true, true, true, false, false] 3 (by kernel_rfl) noPanic_put (HS.out _ (below_drew1 wr)) (by kernel_rfl) ?_
              simp only [List.take_succ_cons, List.take_zero, List.drop_succ_cons, List.drop_zero]
              repeat (first
                | (refine wpSegH_no (by rfl) ?_; simp only [Act.put, List.setIfInBounds_toArray, List.set_cons_zero, List.set_cons_succ])
                | (refine wpSegH_yes (by rfl) ?_; apply Exists.intro; apply And.intro; (· (intro wx hS; (try dsimp only at hS); go_simp; first | done | with_reducible rfl)); simp only [Act.put, List.setIfInBounds_toArray, List.set_cons_zero, List.set_cons_succ]))
              refine wpSegH_nil ?_
              refine wpAnyH_one 4 _ #[true, true, true, true, true, true, true, true, true, false, false] 2 (by kernel_rfl) (fun K hK => ?_)
              have HKK := Lib.hid hK
              clear hK
              simp only [List.drop_succ_cons, List.drop_zero]
              refine headH_mk (by rfl) ?_
              go_simp
              refine (HCS.out _ (below_drew1 wr)).mono ?_
              rintro r w7 ⟨a1, c1, a2, c2, a3, c3, rfl, o7, b7⟩
              have hb7 := below_on (below_drew1 wr) b7
              refine HKK.out _ _ (HS.out _ hb7) ?_
              clear HKK K
              have hsm := same13_any w7 X.N X.C a1 c1 a2 c2 a3 c3 X.ba X.bc X.sa X.sc X.ra X.rc (o7.rowG 2 rfl).cells (o7.rowG 1 rfl).cells (o7.rowG 0 rfl).cells (HRF.out.below hb7) (by omega) (by omega) (by omega)
              unfold xcv at hsm
              have HSM := Lib.hid hsm
              have HB7 := Lib.hid hb7
              clear hsm hb7 o7 b7
              refine wpAnyH_one 9 _ #[true, true, true, true, true, true, true, true, true, true, false] 1 (by kernel_rfl) (fun K hK => ?_)
              have HKK := Lib.hid hK
              clear hK
              simp only [List.drop_succ_cons, List.drop_zero]
              refine headH_mk (by rfl) ?_
              go_simp
              refine HSM.out.mono ?_
              rintro r w8 ⟨rfl, b8⟩
              have hb8 := below_on HB7.out b8
              refine HKK.out _ _ (HS.out _ hb8) ?_
              clear HKK K
              refine wpAnyH_seg 10 1 _ #[true, true, true, true, true, true, true, true, true, true, true] 0 (by kernel_rfl) noPanic_put (HS.out _ hb8) (by kernel_rfl) ?_
              simp only [List.take_succ_cons, List.take_zero, List.drop_succ_cons, List.drop_zero]
              repeat (first
                | (refine wpSegH_no (by rfl) ?_; simp only [Act.put, List.setIfInBounds_toArray, List.set_cons_zero, List.set_cons_succ])
                | (refine wpSegH_yes (by rfl) ?_; apply Exists.intro; apply And.intro; (· (intro wx hS; (try dsimp only at hS); go_simp; first | done | with_reducible rfl)); simp only [Act.put, List.setIfInBounds_toArray, List.set_cons_zero, List.set_cons_succ]))
              refine wpSegH_nil ?_
              refine wpAnyH_done (by kernel_rfl) (NoPanic.normal ?_) _
              have HT : Hid (TwoSt w1 w8 3 (some ⟨lb, lo, none⟩) lc (some ⟨xb, xo, none⟩) xc2 ps Cs9 xs2 rs2 [RowGA 5 xa xc 3 (rfs xs), RowGA 3 oa oc i (c3s ks), RowGA 3 ta tc i (c3s ks)]) := Lib.hid (HTW.out.step hb8)
              clear b8 hb8 HB7 HSM HRF HCS HS HTW hlm
              go_wp2
              exact ⟨⟨j + 1, by omega, by go_num, HT⟩, by simp [intOf]; omega⟩
            · have hge : ¬ (j : Int) < 3 := by omega
              have HT := hr
              clear hr hlt hj
              have hwt := leave_any HT.out.2.2.2.2 HT.out.1.symm (by have := HT.out.2.1.len; omega) g (HLIM2.out.mono (by omega)) (by omega)
              obtain ⟨CsX, hCsX⟩ : ∃ CsX, CsX = Cs9.map (leF g) := ⟨_, rfl⟩
              rw [← hCsX] at hwt
              have HW := Lib.hid hwt
              have HLIM3 := Lib.hid (show Lim 50 CsX from by rw [hCsX]; exact leF_lim 50 g Cs9 HLIM2.out)
              have HCX := Lib.hid hCsX
              have H3 := HT
              have HLM9 := HLIM2
              clear hwt hCsX HT HLIM2
              go_wp2_with fail
              refine HW.out.mono ?_
              rintro r w12 ⟨rfl, o12⟩
              have hxw := xleave_any (o12.front.pick 2 rfl) xa2 3 xc2 xs2 (o12.rowG ((chs ps CsX).length + 1) (at1 _ _ _ _)).cells (by have := H3.out.2.1.len; have := H3.out.1; omega) H3.out.2.2.1 g (by rw [H3.out.2.1.2]; exact (HLM9.out.mono (by omega))) (by omega)
              rw [H3.out.2.1.2, ← HCX.out] at hxw
              have HXW := Lib.hid hxw
              clear hxw o12 HW
              go_wp2_with fail
              refine HXW.out.mono ?_
              rintro r w13 ⟨xa3, xc3, xs3, rs3, rfl, hN2, hC2, hin2, -, o10, -⟩
              have HT : Hid (TwoSt w1 w13 3 la lc xa3 xc3 ps CsX xs3 rs3 [RowGA 5 xa2 xc2 3 (rfs xs2), RowGA 5 xa xc 3 (rfs xs), RowGA 3 oa oc i (c3s ks), RowGA 3 ta tc i (c3s ks)]) := Lib.hid ⟨H3.out.1, ⟨by rw [hN2]; exact H3.out.2.1.1, hC2⟩, hin2, H3.out.2.2.2.1, o10.waitTurn⟩
              have HLIM2 := HLIM3
              clear hN2 hC2 hin2 o10 HXW HCX H3 HLIM3
              go_wp2_with fail
              go_loopw [143] (fun s wr => ∃ j : Nat, j ≤ 3 ∧ s = .int .i64 j ∧ Hid (TwoSt w1 wr 3 la lc xa3 xc3 ps CsX xs3 rs3 [RowGA 5 xa2 xc2 3 (rfs xs2), RowGA 5 xa xc 3 (rfs xs), RowGA 3 oa oc i (c3s ks), RowGA 3 ta tc i (c3s ks)])) (fun s _ => 3 - (intOf s).toNat)
              case atStart => exact ⟨0, by omega, rfl, HT⟩
              case round =>
                obtain ⟨j, hj, rfl, hr⟩ := hrel
                clear HT
                by_cases hlt : j < 3
                · have hj3 : (j : Int) < 3 := by omega
                  have hxl := hr.out.2.1.len
                  obtain ⟨X, hX⟩ : ∃ X, (xs3)[j]? = some X := ⟨_, List.getElem?_eq_getElem (by have := hr.out.1; omega)⟩
                  obtain ⟨hC, p, hp⟩ := hr.out.2.1.at hX
                  have hlm := HLIM2.out X.C (List.mem_of_getElem? hC)
                  have ho := hr.out.2.2.2.2
                  obtain ⟨lb, lo, rfl, gp⟩ := chPtr ho hp
                  obtain ⟨xb, xo, rfl, x0, x1, x2, x3, x4⟩ := (ho.rowG ((chs ps (CsX)).length + 1) (at1 _ _ _ _)).cells.rf hX
                  have hS : ∀ wx, Below wr.heap.size wr wx → (wx.cell? ⟨lb, lo + j, none⟩ = some (.pointer (some ⟨p, 0, none⟩)) ∧ wx.cell? ⟨xb, xo + j * 5, none⟩ = some (.int .i64 (X.N : Int)) ∧ wx.cell? ⟨xb, xo + j * 5 + 1, none⟩ = some (.slice X.ba X.C.buf.length X.bc) ∧ wx.cell? ⟨xb, xo + j * 5 + 2, none⟩ = some (.slice X.sa X.C.S.length X.sc) ∧ wx.cell? ⟨xb, xo + j * 5 + 3, none⟩ = some (.slice X.ra X.C.R.length X.rc) ∧ wx.cell? ⟨xb, xo + j * 5 + 4, none⟩ = some (.bool X.C.cl)) := fun wx hb => ⟨cell_below gp hb, cell_below x0 hb, cell_below x1 hb, cell_below x2 hb, cell_below x3 hb, cell_below x4 hb⟩
                  have HS := Lib.hid hS
                  obtain ⟨R', hR, -⟩ := ho.chPick hp hC
                  have HCS := Lib.hid (fun (wx : World) (hb : Below wr.heap.size wr wx) => cstate_any (hR.step hb) (by omega) (by omega) (by omega))
                  have HRF := Lib.hid (show X.At wr from ho.pool ((chs ps (CsX)).length + 2) (at2 _ _ _ _ _) (hr.out.2.2.1 X (List.mem_of_getElem? hX)))
                  have HTW := hr
                  clear hr hxl hX hC hp ho gp x0 x1 x2 x3 x4 hS hR
                  go_upto_region 27 with fail
                  refine wp_region_lexH (fun wx => wx.cell? ⟨lb, lo + j, none⟩ = some (.pointer (some ⟨p, 0, none⟩)) ∧ wx.cell? ⟨xb, xo + j * 5, none⟩ = some (.int .i64 (X.N : Int)) ∧ wx.cell? ⟨xb, xo + j * 5 + 1, none⟩ = some (.slice X.ba X.C.buf.length X.bc) ∧ wx.cell? ⟨xb, xo + j * 5 + 2, none⟩ = some (.slice X.sa X.C.S.length X.sc) ∧ wx.cell? ⟨xb, xo + j * 5 + 3, none⟩ = some (.slice X.ra X.C.R.length X.rc) ∧ wx.cell? ⟨xb, xo + j * 5 + 4, none⟩ = some (.bool X.C.cl)) 11 (Array.replicate 11 false) (by kernel_rfl) (by kernel_rfl) ?_
                  refine wpAnyH_seg 0 4 _ #[true, true, true, true, false, false, false, false, false, false, false] 7 (by kernel_rfl) noPanic_put (HS.out _ (below_drew1 wr)) (by kernel_rfl) ?_
                  simp only [List.take_succ_cons, List.take_zero, List.drop_zero]
                  repeat (first
                    | (refine wpSegH_no (by rfl) ?_; simp only [Act.put, List.setIfInBounds_toArray, List.set_cons_zero, List.set_cons_succ])
                    | (refine wpSegH_yes (by rfl) ?_; apply Exists.intro; apply And.intro; (· (intro wx hS; (try dsimp only at hS); go_simp; first | done | with_reducible rfl)); simp only [Act.put, List.setIfInBounds_toArray, List.set_cons_zero, List.set_cons_succ]))
                  refine wpSegH_nil ?_
                  refine wpAnyH_seg 5 4 _ #[true, true, true, true, false, true, true, true, true, false, false] 3 (by kernel_rfl) noPanic_put (HS.out _ (below_drew1 wr)) (by kernel_rfl) ?_
                  simp only [List.take_succ_cons, List.take_zero, List.drop_succ_cons, List.drop_zero]
                  repeat (first
                    | (refine wpSegH_no (by rfl) ?_; simp only [Act.put, List.setIfInBounds_toArray, List.set_cons_zero, List.set_cons_succ])
                    | (refine wpSegH_yes (by rfl) ?_; apply Exists.intro; apply And.intro; (· (intro wx hS; (try dsimp only at hS); go_simp; first | done | with_reducible rfl)); simp only [Act.put, List.setIfInBounds_toArray, List.set_cons_zero, List.set_cons_succ]))
                  refine wpSegH_nil ?_
                  refine wpAnyH_one 4 _ #[true, true, true, true, true, true, true, true, true, false, false] 2 (by kernel_rfl) (fun K hK => ?_)
                  have HKK := Lib.hid hK
                  clear hK
                  simp only [List.drop_succ_cons, List.drop_zero]
                  refine headH_mk (by rfl) ?_
                  go_simp
                  refine (HCS.out _ (below_drew1 wr)).mono ?_
                  rintro r w7 ⟨a1, c1, a2, c2, a3, c3, rfl, o7, b7⟩
                  have hb7 := below_on (below_drew1 wr) b7
                  refine HKK.out _ _ (HS.out _ hb7) ?_
                  clear HKK K
                  have hsm := same13_any w7 X.N X.C a1 c1 a2 c2 a3 c3 X.ba X.bc X.sa X.sc X.ra X.rc (o7.rowG 2 rfl).cells (o7.rowG 1 rfl).cells (o7.rowG 0 rfl).cells (HRF.out.below hb7) (by omega) (by omega) (by omega)
                  unfold xcv at hsm
                  have HSM := Lib.hid hsm
                  have HB7 := Lib.hid hb7
                  clear hsm hb7 o7 b7
                  refine wpAnyH_one 9 _ #[true, true, true, true, true, true, true, true, true, true, false] 1 (by kernel_rfl) (fun K hK => ?_)
                  have HKK := Lib.hid hK
                  clear hK
                  simp only [List.drop_succ_cons, List.drop_zero]
                  refine headH_mk (by rfl) ?_
                  go_simp
                  refine HSM.out.mono ?_
                  rintro r w8 ⟨rfl, b8⟩
                  have hb8 := below_on HB7.out b8
                  refine HKK.out _ _ (HS.out _ hb8) ?_
                  clear HKK K
                  refine wpAnyH_seg 10 1 _ #[true, true, true, true, true, true, true, true, true, true, true] 0 (by kernel_rfl) noPanic_put (HS.out _ hb8) (by kernel_rfl) ?_
                  simp only [List.take_succ_cons, List.take_zero, List.drop_succ_cons, List.drop_zero]
                  repeat (first
                    | (refine wpSegH_no (by rfl) ?_; simp only [Act.put, List.setIfInBounds_toArray, List.set_cons_zero, List.set_cons_succ])
                    | (refine wpSegH_yes (by rfl) ?_; apply Exists.intro; apply And.intro; (· (intro wx hS; (try dsimp only at hS); go_simp; first | done | with_reducible rfl)); simp only [Act.put, List.setIfInBounds_toArray, List.set_cons_zero, List.set_cons_succ]))
                  refine wpSegH_nil ?_
                  refine wpAnyH_done (by kernel_rfl) (NoPanic.normal ?_) _
                  have HT : Hid (TwoSt w1 w8 3 (some ⟨lb, lo, none⟩) lc (some ⟨xb, xo, none⟩) xc3 ps CsX xs3 rs3 [RowGA 5 xa2 xc2 3 (rfs xs2), RowGA 5 xa xc 3 (rfs xs), RowGA 3 oa oc i (c3s ks), RowGA 3 ta tc i (c3s ks)]) := Lib.hid (HTW.out.step hb8)
                  clear b8 hb8 HB7 HSM HRF HCS HS HTW hlm
                  go_wp2
                  exact ⟨⟨j + 1, by omega, by go_num, HT⟩, by simp [intOf]; omega⟩
                · have hge : ¬ (j : Int) < 3 := by omega
                  have HT := hr
                  clear hr hlt hj
                  go_wp2_with fail
                  go_ret
                  exact ⟨rfl, below_on B1.out HT.out.2.2.2.2.bel⟩
end Go.Proofs.Ytphjgfjfeehjhaa.picksCases
