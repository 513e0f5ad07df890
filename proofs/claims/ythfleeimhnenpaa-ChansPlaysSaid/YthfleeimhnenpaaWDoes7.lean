/-
  Channels: does of the law: Close.
-/
import Derived.Test.YthfleeimhnenpaaWDoes6
import Derived.BigRegion
open Go Go.RowKit
set_option linter.unusedVariables false
namespace Go.Proofs.Ythfleeimhnenpaa
set_option maxRecDepth 100000 in
set_option maxHeartbeats 4000000 in
theorem does_clos {w0 w : World} {R : List Asr} {rs : List Rw} {p N : Nat} {buf : List Int} {S Rv : List Wt} {ba : Option Addr} {bc : Nat} {sa : Option Addr} {sc : Nat} {ra : Option Addr} {rc : Nat} (h : Own w0 w (PoolR rs :: ChanA p N ⟨buf, S, Rv, false⟩ :: R)) (hi : RefIn rs ba bc sa sc ra rc ⟨buf, S, Rv, false⟩) (kd v g cs wn : Int) (K : Int) (hK : (bits BinOp.and IntKind.i64 kd 255).tmod 8 = K) (hKc : K = 7)
    (hl : buf.length ≤ 1000 ∧ S.length ≤ 1000 ∧ Rv.length ≤ 1000) (hN : N ≤ 100) :
    Calls Try.prog 14 #[.pointer (some ⟨p, 0, none⟩), xcv N ⟨buf, S, Rv, false⟩ ba bc sa sc ra rc, .agg #[.int .i64 kd, .int .i64 v, .int .i64 g, .int .i64 cs, .int .i64 wn]] w fun r w' => DoesP p N ⟨buf, S, Rv, false⟩ rs w0 R r w' := by
  unfold xcv
  simp only
  obtain ⟨s0, hs0⟩ : ∃ s0, s0 = w.heap.size := ⟨_, rfl⟩
  obtain ⟨n1, hn1⟩ : ∃ n, n = buf.length := ⟨_, rfl⟩
  obtain ⟨n2, hn2⟩ : ∃ n, n = S.length := ⟨_, rfl⟩
  obtain ⟨n3, hn3⟩ : ∃ n, n = Rv.length := ⟨_, rfl⟩
  rw [← hn1, ← hn2, ← hn3]
  have hO : Own w0 (((w.alloc (.cells #[.int .i64 (N : Int), .slice ba n1 bc, .slice sa n2 sc, .slice ra n3 rc, .bool false] 29)).alloc (.cells #[.int .i64 kd, .int .i64 v, .int .i64 g, .int .i64 cs, .int .i64 wn] 37)).alloc (.cells #[.int .i64 0, .slice none 0 0, .slice none 0 0, .slice none 0 0, .bool false] 29)) (CelA (s0 + 1 + 1) [.int .i64 0, .slice none 0 0, .slice none 0 0, .slice none 0 0, .bool false] :: CelA (s0 + 1) [.int .i64 kd, .int .i64 v, .int .i64 g, .int .i64 cs, .int .i64 wn] :: CelA s0 [.int .i64 (N : Int), .slice ba n1 bc, .slice sa n2 sc, .slice ra n3 rc, .bool false] :: PoolR rs :: ChanA p N ⟨buf, S, Rv, false⟩ :: R) :=
    ((h.alloc [.int .i64 (N : Int), .slice ba n1 bc, .slice sa n2 sc, .slice ra n3 rc, .bool false] _ hs0).alloc [.int .i64 kd, .int .i64 v, .int .i64 g, .int .i64 cs, .int .i64 wn] _ (by simp [hs0])).alloc [.int .i64 0, .slice none 0 0, .slice none 0 0, .slice none 0 0, .bool false] _ (by simp [hs0])
  have HO := Lib.hid hO
  have H1 := Lib.hid (And.intro hn1 (And.intro hn2 hn3))
  have HI := Lib.hid hi
  have HL := Lib.hid hl
  have HS := Lib.hid hs0
  clear hO h hi hn1 hn2 hn3 hl
  go_enter Try.func14, Try.ntmps14
  go_upto_region 1 with fail
  rw [← hs0]
  generalize hW : ((w.alloc (.cells #[.int .i64 (N : Int), .slice ba n1 bc, .slice sa n2 sc, .slice ra n3 rc, .bool false] 29)).alloc (.cells #[.int .i64 kd, .int .i64 v, .int .i64 g, .int .i64 cs, .int .i64 wn] 37)).alloc (.cells #[.int .i64 0, .slice none 0 0, .slice none 0 0, .slice none 0 0, .bool false] 29) = W at *
  have hsz : W.heap.size = s0 + 1 + 1 + 1 := by rw [← hW, hs0]; simp
  have HSZ := Lib.hid hsz
  clear hW hs0 hsz
  obtain ⟨a0, -⟩ := HO.out.cel 1 rfl 0 _ rfl
  obtain ⟨a1, -⟩ := HO.out.cel 1 rfl 1 _ rfl
  have hsc := cclose_any (HO.out.pick 4 rfl)
  have HSC := Lib.hid hsc
  clear hsc
  subst hKc
  go_wp2_with fail
  refine HSC.out.mono ?_
  rintro r w3 ⟨ra1, rc1, sa1, sc1, rfl, h3⟩
  rw [← H1.out.2.1, ← H1.out.2.2]
  have hxd := xclose_any w3 N buf S Rv ba bc sa sc ra rc
  have hrr := (h3.refGet 6 rfl HI.out)
  have HB := Lib.hid hrr
  unfold xcv at hxd
  simp only [List.length_nil] at hxd
  rw [← H1.out.1, ← H1.out.2.1, ← H1.out.2.2] at hxd
  have HXD := Lib.hid hxd
  have H3 := Lib.hid h3
  clear a0 a1 hxd hrr
  obtain ⟨x0, xm0⟩ := h3.cel 5 rfl 0 _ rfl
  obtain ⟨x1, xm1⟩ := h3.cel 5 rfl 1 _ rfl
  obtain ⟨x2, xm2⟩ := h3.cel 5 rfl 2 _ rfl
  obtain ⟨x3, xm3⟩ := h3.cel 5 rfl 3 _ rfl
  obtain ⟨x4, xm4⟩ := h3.cel 5 rfl 4 _ rfl
  have hls0 := World.block_lt_of_cell? _ _ x0
  have hsz3 := h3.1.size
  clear h3
  go_upto_region 24 with fail
  clear HO HSC HS HSZ
  go_wp2_with fail
  refine HXD.out.mono ?_
  rintro r w5 ⟨hr5, hb5⟩
  subst hr5
  have h5 := H3.out.step hb5
  have h6 := h5.alloc [.int .i64 (N : Int), .slice ba n1 bc, .slice none 0 0, .slice none 0 0, .bool true] 29 rfl
  have HB6 := Lib.hid (HB.out.below hb5)
  obtain ⟨zz, -⟩ := h5.cel 3 rfl 0 _ rfl
  have hl28 := World.block_lt_of_cell? _ _ zz
  clear zz
  obtain ⟨s8, hs8⟩ : ∃ s8, s8 = w5.heap.size := ⟨_, rfl⟩
  rw [← hs8] at h6 hl28
  have hb6 := below_alloc1 w5 (.cells #[.int .i64 (N : Int), .slice ba n1 bc, .slice none 0 0, .slice none 0 0, .bool true] 29)
  have HB7 := Lib.hid (HB6.out.below hb6)
  have H6 := Lib.hid h6
  go_upto_region 25 with fail
  rw [← hs8]
  generalize w5.alloc (.cells #[.int .i64 (N : Int), .slice ba n1 bc, .slice none 0 0, .slice none 0 0, .bool true] 29) = W6 at *
  clear h5 h6 hs8 hb6 hb5 x0 xm0 x1 xm1 x2 xm2 x3 xm3 x4 xm4
  obtain ⟨f0, fm0⟩ := H6.out.cel 0 rfl 0 _ rfl
  obtain ⟨f1, fm1⟩ := H6.out.cel 0 rfl 1 _ rfl
  obtain ⟨f2, fm2⟩ := H6.out.cel 0 rfl 2 _ rfl
  obtain ⟨f3, fm3⟩ := H6.out.cel 0 rfl 3 _ rfl
  obtain ⟨f4, fm4⟩ := H6.out.cel 0 rfl 4 _ rfl
  obtain ⟨z0, zm0⟩ := H6.out.cel 4 rfl 0 _ rfl
  obtain ⟨z1, zm1⟩ := H6.out.cel 4 rfl 1 _ rfl
  obtain ⟨z2, zm2⟩ := H6.out.cel 4 rfl 2 _ rfl
  obtain ⟨z3, zm3⟩ := H6.out.cel 4 rfl 3 _ rfl
  obtain ⟨z4, zm4⟩ := H6.out.cel 4 rfl 4 _ rfl
  have hl2 := World.block_lt_of_cell? _ _ z0
  have hl8 := World.block_lt_of_cell? _ _ f0
  have HST : Hid (CR (s0 + 1 + 1) 5 W6 W6) := Lib.hid (CR.start (Room.of_blk (cs := [.int .i64 0, .slice none 0 0, .slice none 0 0, .slice none 0 0, .bool false]) (H6.out.cel 4 rfl) hl2))
  have hK : ∀ w', CR (s0 + 1 + 1) 5 W6 w' → (w'.cell? ⟨s8, 0, none⟩ = some (.int .i64 (N : Int)) ∧ w'.cell? ⟨s8, 1, none⟩ = some (.slice ba n1 bc) ∧ w'.cell? ⟨s8, 2, none⟩ = some (.slice none 0 0) ∧ w'.cell? ⟨s8, 3, none⟩ = some (.slice none 0 0) ∧ w'.cell? ⟨s8, 4, none⟩ = some (.bool true) ∧ CR (s0 + 1 + 1) 5 W6 w') := fun w' h => ⟨cell_chg f0 h.1 (by simp; omega), cell_chg f1 h.1 (by simp; omega), cell_chg f2 h.1 (by simp; omega), cell_chg f3 h.1 (by simp; omega), cell_chg f4 h.1 (by simp; omega), h⟩
  have HK := Lib.hid hK
  have hc12 : ∀ w', CR (s0 + 1 + 1) 5 W6 w' → (CellsAt w' ra1 (wtc Rv) ∧ CellsAt w' ra (wtc Rv)) ∧ CellsAt w' sa1 (wtc S) ∧ CellsAt w' sa (wtc S) := fun w' c => by
    have o7 : Own w0 W6 (CelA s8 [.int .i64 (N : Int), .slice ba n1 bc, .slice none 0 0, .slice none 0 0, .bool true] :: ChanA p N ⟨buf, [], [], true⟩ :: RowGA 3 ra1 rc1 Rv.length (wtc Rv) :: RowGA 3 sa1 sc1 S.length (wtc S) :: CelA (s0 + 1 + 1) [.int .i64 0, .slice none 0 0, .slice none 0 0, .slice none 0 0, .bool false] :: CelA (s0 + 1) [.int .i64 kd, .int .i64 v, .int .i64 g, .int .i64 cs, .int .i64 wn] :: CelA s0 [.int .i64 (N : Int), .slice ba n1 bc, .slice sa n2 sc, .slice ra n3 rc, .bool false] :: PoolR rs :: R) := H6.out
    have o8 := ((o7.pick 4 rfl).far c.1)
    have rr := o8.refGet 6 rfl HI.out
    exact ⟨⟨(o8.rowG 2 rfl).cells, rr.2.2.cells⟩, (o8.rowG 3 rfl).cells, rr.2.1.cells⟩
  have hc1 : ∀ w', CR (s0 + 1 + 1) 5 W6 w' → Calls Try.prog 38 #[.slice ra1 n3 rc1, .slice ra n3 rc] w' fun r w'' => r = .returned (.int .i64 0) ∧ ∃ m, w'' = w'.drewN m := fun w' c => waits_any w' ra1 ra n3 rc1 rc Rv (hc12 w' c).1.1 (hc12 w' c).1.2 H1.out.2.2 (by have := HL.out.2.2; have := H1.out.2.2; omega)
  have hc2 : ∀ w', CR (s0 + 1 + 1) 5 W6 w' → Calls Try.prog 38 #[.slice sa1 n2 sc1, .slice sa n2 sc] w' fun r w'' => r = .returned (.int .i64 0) ∧ ∃ m, w'' = w'.drewN m := fun w' c => waits_any w' sa1 sa n2 sc1 sc S (hc12 w' c).2.1 (hc12 w' c).2.2 H1.out.2.1 (by have := HL.out.2.1; have := H1.out.2.1; omega)
  have hc : ∀ w', CR (s0 + 1 + 1) 5 W6 w' → ∀ a n c b d, ((a, n, c, b, d) = (ra1, n3, rc1, ra, rc) ∨ (a, n, c, b, d) = (sa1, n2, sc1, sa, sc)) → Calls Try.prog 38 #[.slice a n c, .slice b n d] w' fun r w'' => r = .returned (.int .i64 0) ∧ ∃ m, w'' = w'.drewN m := fun w' h9 a n c b d he => by
    rcases he with he | he
    · simp only [Prod.mk.injEq] at he
      obtain ⟨rfl, rfl, rfl, rfl, rfl⟩ := he
      exact hc1 w' h9
    · simp only [Prod.mk.injEq] at he
      obtain ⟨rfl, rfl, rfl, rfl, rfl⟩ := he
      exact hc2 w' h9
  have HC := Lib.hid hc
  clear hc12 hc1 hc2 hc
  have hfin : ∀ wf, Chg [s0 + 1 + 1] W6 wf → DoesP p N ⟨buf, S, Rv, false⟩ rs w0 R (.returned (.tuple #[.agg #[.int .i64 (N : Int), .slice ba n1 bc, .slice none 0 0, .slice none 0 0, .bool true], .bool true])) wf := fun wf c => by
      have o7 : Own w0 W6 (CelA s8 [.int .i64 (N : Int), .slice ba n1 bc, .slice none 0 0, .slice none 0 0, .bool true] :: ChanA p N ⟨buf, [], [], true⟩ :: RowGA 3 ra1 rc1 Rv.length (wtc Rv) :: RowGA 3 sa1 sc1 S.length (wtc S) :: CelA (s0 + 1 + 1) [.int .i64 0, .slice none 0 0, .slice none 0 0, .slice none 0 0, .bool false] :: CelA (s0 + 1) [.int .i64 kd, .int .i64 v, .int .i64 g, .int .i64 cs, .int .i64 wn] :: CelA s0 [.int .i64 (N : Int), .slice ba n1 bc, .slice sa n2 sc, .slice ra n3 rc, .bool false] :: PoolR rs :: R) := H6.out
      have o8 := ((o7.pick 4 rfl).far c)
      have h9 := H1.out
      have o9 := (((((o8.drop.pick 1 rfl).drop.pick 1 rfl).drop.pick 1 rfl).drop.pick 1 rfl).drop.pick 1 rfl)
      have oA := Own.rAdd o9 (Below.refl _ _) (RowG.nil 3 _) (fun x hx => by simp [blk] at hx)
      refine ⟨⟨buf, [], [], true⟩, _, ba, bc, none, 0, none, 0, ?_, ⟨List.mem_cons_of_mem _ HI.out.1, List.mem_cons_self, List.mem_cons_self⟩, fun q hq => List.mem_cons_of_mem _ hq, by simp, by simp, by simp, oA⟩
      unfold xcv
      simp only [List.length_nil]
      rw [← h9.1]
  have HF := Lib.hid hfin
  clear hfin HI HL HB6 HB7 H3 HXD
  go_wp2_with fail
  go_region_held3 (fun w' => w'.cell? ⟨s8, 0, none⟩ = some (.int .i64 (N : Int)) ∧ w'.cell? ⟨s8, 1, none⟩ = some (.slice ba n1 bc) ∧ w'.cell? ⟨s8, 2, none⟩ = some (.slice none 0 0) ∧ w'.cell? ⟨s8, 3, none⟩ = some (.slice none 0 0) ∧ w'.cell? ⟨s8, 4, none⟩ = some (.bool true) ∧ CR (s0 + 1 + 1) 5 W6 w')
    ((refine HK.out _ ?_; repeat (first | exact HST.out | exact cr2 | exact cr1 | exact lim5 (by assumption) | refine CR.drew ?_ | refine CR.drewN ?_ _ | refine CR.set ?_ _ _ | refine CR.step ?_ (below_alloc1 _ _))))
    ((go_at_call 38; refine (HC.out _ (by repeat (first | exact HST.out | exact cr1 | exact lim5 (by assumption) | refine CR.drew ?_ | refine CR.drewN ?_ _ | refine CR.set ?_ _ _)) _ _ _ _ _ (by first | exact .inl rfl | exact .inr rfl)).mono ?_; rintro r w7 ⟨rfl, m7, rfl⟩))
  all_goals
    rename_i hHeld
    clear hHeld
    go_wp2_with fail
    refine bodyPost_ret (v := .tuple #[.agg #[.int .i64 (N : Int), .slice ba n1 bc, .slice none 0 0, .slice none 0 0, .bool true], .bool true]) (by simp [results, Try.results14, go_sem, z0, z1, z2, z3, z4]) rfl ?_
    exact HF.out _ (by repeat (first | (with_reducible exact Chg.refl _ _) | ((with_reducible refine Chg.setIn ?_ ?_); simp) | (with_reducible refine Chg.drew ?_) | (with_reducible refine Chg.drewN ?_ _)))
end Go.Proofs.Ythfleeimhnenpaa
