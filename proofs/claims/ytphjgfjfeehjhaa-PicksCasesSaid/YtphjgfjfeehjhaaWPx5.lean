/-
  The walk of the law's made.
-/
import Derived.Test.YtphjgfjfeehjhaaWPx4
import Derived.Test.YtphjgfjfeehjhaaWPk1
import Derived.Test.YtphjgfjfeehjhaaSegH
import Derived.Test.YtphjgfjfeehjhaaWPx2
import Derived.Deep.CutBlock
open Go Go.RowKit
set_option linter.unusedVariables false
namespace Go.Proofs.Ytphjgfjfeehjhaa
theorem Own.sink {w0 w : World} {As : List Asr} {A X Y Z : Asr} {R : List Asr} (h : Own w0 w (A :: (As ++ X :: Y :: Z :: R))) : Own w0 w (As ++ X :: Y :: Z :: A :: R) := by
  refine h.perm (List.Perm.symm ?_)
  have h1 : (As ++ X :: Y :: Z :: A :: R) = (As ++ [X, Y, Z]) ++ A :: R := by simp
  rw [h1]
  refine List.perm_middle.trans ?_
  rw [List.append_assoc]
  exact List.Perm.refl _
theorem TwoSt.sink {w0 w : World} {n : Nat} {la : Option Addr} {lc : Nat} {xa : Option Addr} {xc : Nat} {ps : List Pl} {Cs : List Ch} {xs : List Rf} {rs : List Rw} {A : Asr} {R : List Asr} (h1 : ps.length = n ∧ Alike ps Cs xs ∧ (∀ x ∈ xs, x.In rs) ∧ (∀ p ∈ ps, p.2 ≤ 16)) (h : Own w0 w (A :: (chs ps Cs ++ RowGA 1 la lc n (ptrs ps) :: RowGA 5 xa xc n (rfs xs) :: PoolR rs :: R))) : TwoSt w0 w n la lc xa xc ps Cs xs rs (A :: R) :=
  ⟨h1.1, h1.2.1, h1.2.2.1, h1.2.2.2, h.sink⟩
theorem at3 (As : List Asr) (X Y Z A : Asr) (R : List Asr) : (As ++ X :: Y :: Z :: A :: R)[As.length + 3]? = some A := by rw [List.getElem?_append_right (by omega), Nat.add_sub_cancel_left]; rfl
theorem at4 (As : List Asr) (X Y Z A B : Asr) (R : List Asr) : (As ++ X :: Y :: Z :: A :: B :: R)[As.length + 4]? = some B := by rw [List.getElem?_append_right (by omega), Nat.add_sub_cancel_left]; rfl
theorem at2 (As : List Asr) (X Y Z : Asr) (R : List Asr) : (As ++ X :: Y :: Z :: R)[As.length + 2]? = some Z := by rw [List.getElem?_append_right (by omega), Nat.add_sub_cancel_left]; rfl
theorem at1 (As : List Asr) (X Y : Asr) (R : List Asr) : (As ++ X :: Y :: R)[As.length + 1]? = some Y := by rw [List.getElem?_append_right (by omega), Nat.add_sub_cancel_left]; rfl
theorem Own.unsink {w0 w : World} {As : List Asr} {A X Y Z : Asr} {R : List Asr} (h : Own w0 w (As ++ X :: Y :: Z :: A :: R)) : Own w0 w (A :: (As ++ X :: Y :: Z :: R)) := by
  refine h.perm ?_
  have h1 : (As ++ X :: Y :: Z :: A :: R) = (As ++ [X, Y, Z]) ++ A :: R := by simp
  rw [h1]
  refine List.perm_middle.trans ?_
  rw [List.append_assoc]
  exact List.Perm.refl _
theorem Own.dropR {w0 w : World} {As Bs : List Asr} (h : Own w0 w (As ++ Bs)) : Own w0 w As := (h.perm (List.perm_append_comm (l₁ := As) (l₂ := Bs))).dropL
theorem Own.drop2 {w0 w : World} {As : List Asr} {A B C D E : Asr} (h : Own w0 w (As ++ A :: B :: C :: D :: [E])) : Own w0 w (As ++ A :: B :: C :: []) := Own.dropR (As := As ++ [A, B, C]) (Bs := [D, E]) (by simpa using h)
theorem Own.xAddIn {w0 w w' : World} {As : List Asr} {A B : Asr} {rs : List Rw} {R : List Asr} (h : Own w0 w (As ++ A :: B :: PoolR rs :: R)) {ba : Option Addr} {bc : Nat} {sa : Option Addr} {sc : Nat} {ra : Option Addr} {rc : Nat} {C : Ch} {ba' : Option Addr} {bc' : Nat} {sa' : Option Addr} {sc' : Nat} {ra' : Option Addr} {rc' : Nat} {C' : Ch}
    (hr : RefIn rs ba bc sa sc ra rc C) (hx : XOut w w' (blk ba ++ (blk sa ++ blk ra)) ba' bc' sa' sc' ra' rc' C') : ∃ rs', Own w0 w' (As ++ A :: B :: PoolR rs' :: R) ∧ RefIn rs' ba' bc' sa' sc' ra' rc' C' ∧ ∀ r ∈ rs, r ∈ rs' := by
  obtain ⟨rs', h1, h2, h3⟩ := Own.xAdd (h.front.pick 2 rfl) hr hx
  exact ⟨rs', Own.rear ((h1.pick 2 rfl).pick 2 rfl), h2, h3⟩
theorem Own.rAddIn {w0 w w' : World} {As : List Asr} {A B : Asr} {rs : List Rw} {R : List Asr} (h : Own w0 w (As ++ A :: B :: PoolR rs :: R)) (hb : Below w.heap.size w w') {s : Nat} {a' : Option Addr} {c' n' : Nat} {cs : List Value}
    (ha : RowG s w' a' c' n' cs) (hx : ∀ x ∈ blk a', w.heap.size ≤ x) : Own w0 w' (As ++ A :: B :: PoolR ((s, a', c', n', cs) :: rs) :: R) := by
  have h1 := Own.rAdd (h.front.pick 2 rfl) hb ha (fun x hx' => .inr (hx x hx'))
  exact Own.rear ((h1.pick 2 rfl).pick 2 rfl)
theorem Own.setIn {w0 w : World} {As : List Asr} {X Y Z : Asr} {R : List Asr} {b : Nat} {cs : List Value} (h : Own w0 w (As ++ X :: Y :: Z :: CelA b cs :: R)) (k : Nat) (v : Value) : Own w0 (w.setCell ⟨b, k, none⟩ v) (As ++ X :: Y :: Z :: CelA b (cs.set k v) :: R) := (h.unsink.set k v).sink
theorem Own.celIn {w0 w : World} {As : List Asr} {X Y Z : Asr} {R : List Asr} {b : Nat} {cs : List Value} (h : Own w0 w (As ++ X :: Y :: Z :: CelA b cs :: R)) : Blk w b cs := h.unsink.cel 0 rfl
def mClose (C : Ch) : Ch := if C.cl then C else ⟨C.buf, [], [], true⟩
theorem cclose_c {w0 w : World} {R : List Asr} {p N : Nat} {C : Ch} (h : Own w0 w (ChanA p N C :: R)) :
    Calls Try.prog 23 #[.pointer (some ⟨p, 0, none⟩)] w fun r w' => ∃ v, r = .returned v ∧ Own w0 w' (ChanA p N (mClose C) :: R) := by
  obtain ⟨buf, S, Rv, cl⟩ := C
  cases cl with
  | true =>
    refine (cclose_over h).mono ?_
    rintro r w' ⟨rfl, rfl⟩
    exact ⟨_, rfl, h⟩
  | false =>
    refine (cclose_any h).mono ?_
    rintro r w' ⟨ra, rc, sa, sc, rfl, o⟩
    exact ⟨_, rfl, ((o.pick 1 rfl).drop.pick 1 rfl).drop⟩
theorem xclose_c (w : World) (N : Nat) (C : Ch) (ba : Option Addr) (bc : Nat) (sa : Option Addr) (sc : Nat) (ra : Option Addr) (rc : Nat) (h : RefAt w ba bc sa sc ra rc C) :
    Calls Try.prog 24 #[xcv N C ba bc sa sc ra rc] w fun r w' => ∃ ba' bc' sa' sc' ra' rc' e1 e2 e3, r = .returned (.tuple #[xcv N (mClose C) ba' bc' sa' sc' ra' rc', e1, e2, e3]) ∧ XOut w w' (blk ba ++ (blk sa ++ blk ra)) ba' bc' sa' sc' ra' rc' (mClose C) := by
  obtain ⟨buf, S, Rv, cl⟩ := C
  cases cl with
  | true =>
    refine (xclose_over w N buf S Rv ba bc sa sc ra rc).mono ?_
    rintro r w' ⟨rfl, hb⟩
    exact ⟨ba, bc, sa, sc, ra, rc, _, _, _, rfl, XOut.same h hb⟩
  | false =>
    refine (xclose_any w N buf S Rv ba bc sa sc ra rc).mono ?_
    rintro r w' ⟨rfl, hb⟩
    exact ⟨ba, bc, none, 0, none, 0, _, _, _, rfl, ⟨h.1.below hb, RowG.nil _ _, RowG.nil _ _⟩, fun x hx => .inl (by simp [blk] at hx ⊢; exact .inl hx), hb⟩
theorem mClose_len (C : Ch) : (mClose C).buf.length ≤ C.buf.length + 1 ∧ (mClose C).S.length ≤ C.S.length + 1 ∧ (mClose C).R.length ≤ C.R.length + 1 := by
  unfold mClose; split <;> simp
/-- Behind the calls of a round: the program's channel and the document's are alike again, the latter beside its row. -/
def MidM (w0 : World) (la : Option Addr) (lc : Nat) (xa : Option Addr) (xc : Nat) (ps : List Pl) (Cs : List Ch) (xs : List Rf) (rs : List Rw) (j yb : Nat) (N : Nat) (B : Nat) (yc : List Value) (wm : World) : Prop :=
  ∃ Y rs' ab ac, yc = rfc Y ∧ Y.N = N ∧ Y.In rs' ∧ (∀ q ∈ rs, q ∈ rs') ∧ (Y.C.buf.length ≤ B ∧ Y.C.S.length ≤ B ∧ Y.C.R.length ≤ B) ∧ Own w0 wm (chs ps (Cs.set j Y.C) ++ RowGA 1 la lc 3 (ptrs ps) :: RowGA 5 xa xc 3 (rfs xs) :: PoolR rs' :: CelA yb yc :: [CelA ab ac])
def Mk2 (w wr : World) (i : Nat) (la : Option Addr) (lc : Nat) (xa : Option Addr) (xc : Nat) : Prop := ∃ ps Cs xs rs, TwoSt w wr 3 la lc xa xc ps Cs xs rs [] ∧ Lim i Cs
/-- .. and in it. -/
theorem MidM.next {w0 wm : World} {la : Option Addr} {lc : Nat} {xb xo : Nat} {xc : Nat} {ps : List Pl} {Cs : List Ch} {xs : List Rf} {rs : List Rw} {j yb : Nat} {X : Rf} {B : Nat} {v0 v1 v2 v3 v4 : Value} (h : MidM w0 la lc (some ⟨xb, xo, none⟩) xc ps Cs xs rs j yb X.N (B + 1) [v0, v1, v2, v3, v4] wm) (hX : xs[j]? = some X)
    (h1 : ps.length = 3 ∧ Alike ps Cs xs ∧ (∀ x ∈ xs, x.In rs) ∧ (∀ p ∈ ps, p.2 ≤ 16)) (h2 : Lim B Cs) :
    Mk2 w0 (((((wm.setCell ⟨xb, xo + j * 5, none⟩ v0).setCell ⟨xb, xo + j * 5 + 1, none⟩ v1).setCell ⟨xb, xo + j * 5 + 2, none⟩ v2).setCell ⟨xb, xo + j * 5 + 3, none⟩ v3).setCell ⟨xb, xo + j * 5 + 4, none⟩ v4) (B + 1) la lc (some ⟨xb, xo, none⟩) xc := by
  obtain ⟨Y, rs', ab, ac, e, hN, hin, hm, hl, ho⟩ := h
  simp only [rfc, List.cons.injEq, and_true] at e
  obtain ⟨rfl, rfl, rfl, rfl, rfl⟩ := e
  have hjl := (List.getElem?_eq_some_iff.1 hX).1
  have o1 := Own.rfSet (ho.front.pick 1 rfl) j Y hjl
  have o2 := Own.rear (As := chs ps (Cs.set j Y.C)) (o1.pick 1 rfl)
  have o3 := o2.drop2
  refine ⟨ps, _, _, rs', ⟨h1.1, h1.2.1.set hX hN, fun x hx => ?_, h1.2.2.2, o3⟩, (h2.mono (by omega)).set _ _ hl⟩
  rcases List.mem_or_eq_of_mem_set hx with h | h
  · exact (h1.2.2.1 x h).mono hm
  · rw [h]; exact hin
def MadeP (w : World) (r : Ending) (w' : World) : Prop := ∃ la lc xa xc ps Cs xs rs, r = .returned (.tuple #[.slice la 3 lc, .slice xa 3 xc]) ∧ TwoSt w w' 3 la lc xa xc ps Cs xs rs [] ∧ Lim 40 Cs
def Mk1 (w wr : World) (i : Nat) (la : Option Addr) (lc : Nat) (xa : Option Addr) (xc : Nat) : Prop := ∃ ps Cs xs, TwoSt w wr i la lc xa xc ps Cs xs [(1, none, 0, 0, []), (3, none, 0, 0, [])] [] ∧ Lim 0 Cs
set_option maxRecDepth 100000 in
set_option maxHeartbeats 16000000 in
theorem made_any (w : World) (r0 r1 r2 : Int) (a : Option Addr) (len cap : Nat) (acts : List Ac4) (ha : ActsK4At .i64 .i64 .i64 .i64 w a acts) (hlen : len = acts.length) (hl : len ≤ 9223372036854775807) :
    Calls Try.prog 5 #[.agg #[.int .i64 r0, .int .i64 r1, .int .i64 r2], .slice a len cap] w fun r w' => MadeP w r w' := by
  have HA := Lib.hid ha
  have HLEN := Lib.hid hlen
  clear ha hlen
  obtain ⟨i0, hi0, hz0, hz1, hz2⟩ := info_parts info_xw
  have Hi := Lib.hid hi0; clear hi0
  have Hz0 := Lib.hid hz0; clear hz0
  have Hz1 := Lib.hid hz1; clear hz1
  have Hz2 := Lib.hid hz2; clear hz2
  obtain ⟨j0, hi0, hz0, hz1, hz2⟩ := info_parts info_xc
  have Ji := Lib.hid hi0; clear hi0
  have Jz0 := Lib.hid hz0; clear hz0
  have Jz1 := Lib.hid hz1; clear hz1
  have Jz2 := Lib.hid hz2; clear hz2
  obtain ⟨p0, hi0, hz0, hz1, hz2⟩ := info_parts info_pc
  have Pi := Lib.hid hi0; clear hi0
  have Pz0 := Lib.hid hz0; clear hz0
  have Pz1 := Lib.hid hz1; clear hz1
  have Pz2 := Lib.hid hz2; clear hz2
  have hidx : ∀ i : Nat, i < 3 → ∃ z, ∀ w, (Instr.index 22 (.agg #[.int .i64 r0, .int .i64 r1, .int .i64 r2]) (.int .i64 (i : Int))).run Try.prog w = .ok (.int .i64 z) w := fun i hi => by
    rcases (by omega : i = 0 ∨ i = 1 ∨ i = 2) with rfl | rfl | rfl
    · exact ⟨r0, fun _ => by kernel_rfl⟩
    · exact ⟨r1, fun _ => by kernel_rfl⟩
    · exact ⟨r2, fun _ => by kernel_rfl⟩
  have HIDX := Lib.hid hidx
  clear hidx
  go_enter Try.func5, Try.ntmps5
  go_upto_region 3 with fail
  have hst : Mk1 w (((w.alloc (.cells #[.int .i64 r0, .int .i64 r1, .int .i64 r2] 22)).alloc (.cells #[] 49)).alloc (.cells #[] 53)) 0 (some ⟨w.heap.size + 1, 0, none⟩) 0 (some ⟨w.heap.size + 1 + 1, 0, none⟩) 0 := by
    have o0 : Own w (w.alloc (.cells #[.int .i64 r0, .int .i64 r1, .int .i64 r2] 22)) [PoolR [(1, none, 0, 0, []), (3, none, 0, 0, [])]] :=
      (Own.nil (below_alloc1 _ _)).add (Below.refl _ _) (A := PoolR [(1, none, 0, 0, []), (3, none, 0, 0, [])]) (F := []) ⟨fun x hx => by simp at hx, fun q hq => by
        simp at hq
        rcases hq with rfl | rfl
        · exact ⟨fun x hx => by simp [blk] at hx, RowG.nil _ _⟩
        · exact ⟨fun x hx => by simp [blk] at hx, RowG.nil _ _⟩⟩ (fun x hx => by simp at hx)
    have o1 := o0.add (below_alloc1 _ (.cells #[] 49)) (A := RowGA 1 (some ⟨w.heap.size + 1, 0, none⟩) 0 0 (ptrs [])) (F := [w.heap.size + 1]) ⟨rfl, RowG.zero (by simp)⟩ (fun x hx => by simp at hx; simp; omega)
    have o2 := o1.add (below_alloc1 _ (.cells #[] 53)) (A := RowGA 5 (some ⟨w.heap.size + 1 + 1, 0, none⟩) 0 0 (rfs [])) (F := [w.heap.size + 1 + 1]) ⟨rfl, RowG.zero (by simp)⟩ (fun x hx => by simp at hx; simp; omega)
    exact ⟨[], [], [], ⟨rfl, ⟨rfl, rfl⟩, fun x hx => by simp at hx, fun x hx => by simp at hx, (o2.pick 1 rfl)⟩, fun C hC => by simp at hC⟩
  have HST := Lib.hid hst
  clear hst
  go_loopw [6, 7, 18] (fun s6 s7 s18 wr => ∃ i : Nat, ∃ la lc xa xc, i ≤ 3 ∧ s18 = .int .i64 i ∧ s6 = .slice la i lc ∧ s7 = .slice xa i xc ∧ Hid (Mk1 w wr i la lc xa xc)) (fun _ _ s18 _ => 3 - (intOf s18).toNat)
  case atStart => exact ⟨0, _, 0, _, 0, by omega, rfl, rfl, rfl, HST⟩
  case round =>
    obtain ⟨i, la, lc, xa, xc, hi, rfl, rfl, rfl, hr⟩ := hrel
    obtain ⟨ps, Cs, xs, h1, h2⟩ := hr.out
    clear HST
    by_cases hlt : i < 3
    · obtain ⟨z, hz⟩ := HIDX.out i hlt
      have hli : (i : Int) < 3 := by omega
      have hcn := fun w' (hb : Below wr.heap.size wr w') => cnew_any (h1.2.2.2.2.step hb) z
      have HCN := Lib.hid hcn
      have H1 := Lib.hid h1
      have H2 := Lib.hid h2
      clear hr h1 h2 hcn
      go_wp2_with fail
      refine (HCN.out _ (Below.refl _ _)).mono ?_
      rintro r w2 ⟨p, rfl, o1, -⟩
      obtain ⟨N, hN⟩ : ∃ N, N = roomC z := ⟨_, rfl⟩
      have hN16 : N ≤ 16 := by rw [hN]; exact roomC_le z
      have hxn := fun w' => xcnew_any z w'
      rw [← hN] at o1 hxn
      unfold xcv at hxn
      simp only [List.length_nil] at hxn
      have HXN := Lib.hid hxn
      have O1 := Lib.hid (o1.step (below_alloc1 w2 (.cells #[.pointer (some ⟨p, 0, none⟩)] 49)))
      have hpr := (o1.perm (List.perm_append_comm (l₁ := [ChanA p N ⟨[], [], [], false⟩]) (l₂ := chs ps Cs ++ RowGA 1 la lc i (ptrs ps) :: RowGA 5 xa xc i (rfs xs) :: PoolR [(1, none, 0, 0, []), (3, none, 0, 0, [])] :: [])))
      have hrow : RowG 1 w2 la lc i (ptrs ps) := (Own.front (As := ChanA p N ⟨[], [], [], false⟩ :: chs ps Cs) o1).rowG 0 rfl
      have HROW := Lib.hid hrow
      clear o1 hxn hN hpr hrow HCN hz
      go_wp2_with (at_builtin; refine wpList_append_rowG (n := i) (m := 1) (cs := ptrs ps) (ds := ptrs [(p, N)]) rfl _ _ 27 rfl 49 p0 _ Try.underlying27 Pi.out Pz0.out Pz1.out Pz2.out rfl (by omega) (by omega) rfl rfl (HROW.out.below (below_alloc1 _ _)) (CellsAt.new _ (ptrs [(p, N)]) _ (by first | rfl | simp)) rfl (ptrs_one _) (by omega) ?_)
      intro la' lc' w3 k1 c1 f1
      have f1 : ∀ x ∈ blk la', x ∈ blk la ∨ (w2.alloc (.cells #[.pointer (some ⟨p, 0, none⟩)] 49)).heap.size ≤ x := fun x hx => by simpa using f1 x hx
      have o3 := Own.rowTurn (Own.front (As := ChanA p N ⟨[], [], [], false⟩ :: chs ps Cs) O1.out) k1 c1 f1
      have HK1 := Lib.hid (show _ ∧ _ ∧ _ from ⟨k1, c1, f1⟩)
      have HROW2 : Hid (RowG 5 w3 xa xc i (rfs xs)) := Lib.hid (o3.rowG 1 rfl)
      clear k1 c1 f1 o3 HROW
      go_wp2_with fail
      refine (HXN.out _).mono ?_
      rintro r w4 ⟨rfl, b34⟩
      have HB34 := Lib.hid b34
      clear b34
      have hone : ∀ u ∈ rfc ⟨N, ⟨[], [], [], false⟩, none, 0, none, 0, none, 0⟩, u.oneCell' = true := fun u hu => by unfold rfc at hu; simp at hu; rcases hu with rfl | rfl | rfl | rfl | rfl <;> rfl
      go_wp2_with (at_builtin; refine wpList_append_rowG (n := i) (m := 1) (cs := rfs xs) (ds := rfc ⟨N, ⟨[], [], [], false⟩, none, 0, none, 0, none, 0⟩) rfl _ _ 28 rfl 53 j0 _ Try.underlying28 Ji.out Jz0.out Jz1.out Jz2.out rfl (by omega) (by omega) rfl rfl ((HROW2.out.below HB34.out).below (below_alloc1 _ _)) (CellsAt.new _ [.int .i64 (N : Int), .slice none 0 0, .slice none 0 0, .slice none 0 0, .bool false] _ (by first | rfl | simp)) rfl hone (by omega) ?_)
      intro xa' xc' w5 k2 c2 f2
      have f2 : ∀ x ∈ blk xa', x ∈ blk xa ∨ (w4.alloc (.cells #[.int .i64 (N : Int), .slice none 0 0, .slice none 0 0, .slice none 0 0, .bool false] 53)).heap.size ≤ x := fun x hx => by simpa using f2 x hx
      have hm := TwoSt.more H1.out hN16 ⟨by simp, by simp⟩ O1.out HK1.out.1 HK1.out.2.1 HK1.out.2.2 (below_on HB34.out (below_alloc1 _ _)) k2 c2 f2
      have HM : Hid (Mk1 w w5 (i + 1) la' lc' xa' xc') := Lib.hid ⟨_, _, _, hm, fun C hC => by
        rcases List.mem_append.1 hC with h | h
        · exact H2.out C h
        · obtain rfl := by simpa using h
          simp⟩
      clear k2 c2 f2 hm H1 H2 O1 HK1 HROW2 HB34
      go_wp2
      exact ⟨⟨i + 1, la', lc', xa', xc', by omega, by go_num, by simp, by simp, HM⟩, by simp [intOf]; omega⟩
    · have hge : ¬ (i : Int) < 3 := by omega
      obtain rfl : i = 3 := by omega
      have HS2 : Hid (Mk2 w wr 0 la lc xa xc) := Lib.hid ⟨ps, Cs, xs, _, h1, h2⟩
      clear hr h1 h2
      go_wp2_with fail
      go_loopw [10] (fun s10 wr => ∃ i : Nat, i ≤ len ∧ i ≤ 20 ∧ s10 = .int .i64 i ∧ Hid (Mk2 w wr i la lc xa xc)) (fun s10 _ => 20 - (intOf s10).toNat)
      case atStart => exact ⟨0, by omega, by omega, rfl, HS2⟩
      case round =>
        obtain ⟨i, hi1, hi2, rfl, hr⟩ := hrel
        clear HS2
        by_cases hlt2 : i < len ∧ i < 20
        · obtain ⟨ps, Cs, xs, rs, h1, h2⟩ := hr.out
          obtain ⟨g1, g2⟩ := hlt2
          have hil : i < acts.length := by have := HLEN.out; omega
          obtain ⟨b, off, rfl, q0, q1, q2, q3⟩ := HA.out i hil
          have hbw := h1.2.2.2.2.bel
          have q0 := cell_below q0 hbw
          have q1 := cell_below q1 hbw
          have q2 := cell_below q2 hbw
          have q3 := cell_below q3 hbw
          obtain ⟨y, hy⟩ : ∃ y, y = acts[i] := ⟨_, rfl⟩
          rw [← hy] at q0 q1 q2 q3
          obtain ⟨kd, wh, g, v⟩ := y
          simp only at q0 q1 q2 q3
          obtain ⟨j, hj, hj3, -⟩ := small_of wh 3 (by omega)
          have hj : (bits BinOp.and IntKind.i64 wh 255).tmod 3 = (j : Int) := hj
          obtain ⟨K, hK, hK5, -⟩ := small_of kd 5 (by omega)
          have hK : (bits BinOp.and IntKind.i64 kd 255).tmod 5 = (K : Int) := hK
          have HKD := Lib.hid hK
          have g1' : (i : Int) < (len : Int) := by omega
          have g2' : (i : Int) < 20 := by omega
          obtain ⟨ab, hab⟩ : ∃ ab, ab = wr.heap.size := ⟨_, rfl⟩
          have hO : Own w (wr.alloc (.cells #[.int .i64 kd, .int .i64 wh, .int .i64 g, .int .i64 v] 60)) (chs ps Cs ++ RowGA 1 la lc 3 (ptrs ps) :: RowGA 5 xa xc 3 (rfs xs) :: PoolR rs :: [CelA ab [.int .i64 kd, .int .i64 wh, .int .i64 g, .int .i64 v]]) :=
            Own.sink (h1.2.2.2.2.alloc [.int .i64 kd, .int .i64 wh, .int .i64 g, .int .i64 v] _ hab)
          have hxl := h1.2.1.len
          obtain ⟨X, hX⟩ : ∃ X, xs[j]? = some X := ⟨_, List.getElem?_eq_getElem (by have := h1.1; omega)⟩
          obtain ⟨hC, p, hp⟩ := h1.2.1.at hX
          have hin := h1.2.2.1 X (List.mem_of_getElem? hX)
          have hN16 : X.N ≤ 16 := h1.2.2.2.1 _ (List.mem_of_getElem? hp)
          have hlm := h2 X.C (List.mem_of_getElem? hC)
          have H12 := Lib.hid (And.intro (show _ ∧ _ ∧ _ ∧ _ from ⟨h1.1, h1.2.1, h1.2.2.1, h1.2.2.2.1⟩) h2)
          have HX := Lib.hid (show _ ∧ _ ∧ _ ∧ _ from ⟨hX, hC, hp, hin⟩)
          have HLM := Lib.hid hlm
          have HO := Lib.hid hO
          clear hr h1 h2 hbw hy hK hxl hX hC hp hin hlm hO
          go_upto_region 12 with fail
          rw [← hab]
          generalize wr.alloc (.cells #[.int .i64 kd, .int .i64 wh, .int .i64 g, .int .i64 v] 60) = W at *
          obtain ⟨lb, lo, rfl, gp⟩ := chPtr HO.out HX.out.2.2.1
          obtain ⟨xb, xo, rfl, x0, x1, x2, x3, x4⟩ := (HO.out.rowG ((chs ps Cs).length + 1) (at1 _ _ _ _)).cells.rf HX.out.1
          have hS : ∀ wx, Below W.heap.size W wx → (wx.cell? ⟨lb, lo + j, none⟩ = some (.pointer (some ⟨p, 0, none⟩)) ∧ wx.cell? ⟨xb, xo + j * 5, none⟩ = some (.int .i64 (X.N : Int)) ∧ wx.cell? ⟨xb, xo + j * 5 + 1, none⟩ = some (.slice X.ba X.C.buf.length X.bc) ∧ wx.cell? ⟨xb, xo + j * 5 + 2, none⟩ = some (.slice X.sa X.C.S.length X.sc) ∧ wx.cell? ⟨xb, xo + j * 5 + 3, none⟩ = some (.slice X.ra X.C.R.length X.rc) ∧ wx.cell? ⟨xb, xo + j * 5 + 4, none⟩ = some (.bool X.C.cl)) := fun wx hb => ⟨cell_below gp hb, cell_below x0 hb, cell_below x1 hb, cell_below x2 hb, cell_below x3 hb, cell_below x4 hb⟩
          have HS := Lib.hid hS
          have hj3' : (j : Int) < 3 := by omega
          clear gp x0 x1 x2 x3 x4 hS q0 q1 q2 q3 hab g1' g2'
          refine wp_region_lexH (fun wx => wx.cell? ⟨lb, lo + j, none⟩ = some (.pointer (some ⟨p, 0, none⟩)) ∧ wx.cell? ⟨xb, xo + j * 5, none⟩ = some (.int .i64 (X.N : Int)) ∧ wx.cell? ⟨xb, xo + j * 5 + 1, none⟩ = some (.slice X.ba X.C.buf.length X.bc) ∧ wx.cell? ⟨xb, xo + j * 5 + 2, none⟩ = some (.slice X.sa X.C.S.length X.sc) ∧ wx.cell? ⟨xb, xo + j * 5 + 3, none⟩ = some (.slice X.ra X.C.R.length X.rc) ∧ wx.cell? ⟨xb, xo + j * 5 + 4, none⟩ = some (.bool X.C.cl)) 11 (Array.replicate 11 false) (by kernel_rfl) (by kernel_rfl) ?_
          refine wpAnyH_seg 0 8 _ #[true, true, true, true, true, true, true, true, false, false, false] 3 (by kernel_rfl) noPanic_put (HS.out _ (below_drew1 W)) (by kernel_rfl) ?_
          simp only [List.take_succ_cons, List.take_zero, List.drop_zero]
          repeat (first
            | (refine wpSegH_no (by rfl) ?_; simp only [Act.put, List.setIfInBounds_toArray, List.set_cons_zero, List.set_cons_succ])
            | (refine wpSegH_yes (by rfl) ?_; apply Exists.intro; apply And.intro; (· (intro wx hS; (try dsimp only at hS); go_simp; first | done | with_reducible rfl)); simp only [Act.put, List.setIfInBounds_toArray, List.set_cons_zero, List.set_cons_succ]))
          refine wpSegH_nil ?_
          refine wpAnyH_one 8 _ #[true, true, true, true, true, true, true, true, true, false, false] 2 (by kernel_rfl) (fun K hK => ?_)
          have HKK := Lib.hid hK
          clear hK
          simp only [List.drop_succ_cons, List.drop_zero]
          refine headH_mk (by rfl) ?_
          go_simp
          refine HKK.out _ _ (HS.out _ (below_on (below_drew1 W) (below_alloc1 _ _))) ?_
          clear HKK K
          refine wpAnyH_seg 9 1 _ #[true, true, true, true, true, true, true, true, true, true, false] 1 (by kernel_rfl) noPanic_put (HS.out _ (below_on (below_drew1 W) (below_alloc1 _ _))) (by kernel_rfl) ?_
          simp only [List.take_succ_cons, List.take_zero, List.drop_succ_cons, List.drop_zero]
          repeat (first
            | (refine wpSegH_no (by rfl) ?_; simp only [Act.put, List.setIfInBounds_toArray, List.set_cons_zero, List.set_cons_succ])
            | (refine wpSegH_yes (by rfl) ?_; apply Exists.intro; apply And.intro; (· (intro wx hS; (try dsimp only at hS); go_simp; first | done | with_reducible rfl)); simp only [Act.put, List.setIfInBounds_toArray, List.set_cons_zero, List.set_cons_succ]))
          refine wpSegH_nil ?_
          refine wpAnyH_one 10 _ #[true, true, true, true, true, true, true, true, true, true, true] 0 (by kernel_rfl) (fun K hK => ?_)
          have HKK := Lib.hid hK
          clear hK
          simp only [List.drop_succ_cons, List.drop_zero]
          refine headH_mk (by rfl) ?_
          go_simp
          refine HKK.out _ _ (HS.out _ (by repeat (first | exact below_on (below_drew1 W) (below_alloc1 _ _) | refine Below.setCell ?_ (by simp) _))) ?_
          clear HKK K
          refine wpAnyH_done (by kernel_rfl) (NoPanic.normal ?_) _
          obtain ⟨yb, hyb⟩ : ∃ yb, yb = W.heap.size := ⟨_, rfl⟩
          rw [← hyb]
          have hO3 : Own w (W.alloc (.cells #[.int .i64 (X.N : Int), .slice X.ba X.C.buf.length X.bc, .slice X.sa X.C.S.length X.sc, .slice X.ra X.C.R.length X.rc, .bool X.C.cl] 53)).drew (chs ps Cs ++ RowGA 1 (some ⟨lb, lo, none⟩) lc 3 (ptrs ps) :: RowGA 5 (some ⟨xb, xo, none⟩) xc 3 (rfs xs) :: PoolR rs :: CelA yb [.int .i64 (X.N : Int), .slice X.ba X.C.buf.length X.bc, .slice X.sa X.C.S.length X.sc, .slice X.ra X.C.R.length X.rc, .bool X.C.cl] :: [CelA ab [.int .i64 kd, .int .i64 wh, .int .i64 g, .int .i64 v]]) :=
            ((HO.out.alloc [.int .i64 (X.N : Int), .slice X.ba X.C.buf.length X.bc, .slice X.sa X.C.S.length X.sc, .slice X.ra X.C.R.length X.rc, .bool X.C.cl] 53 (b := yb) hyb).step (below_drew1 _)).sink
          have O3 := Lib.hid hO3
          have hne : yb ≠ ab := by have h1 : ab < W.heap.size := World.block_lt_of_cell? _ _ (HO.out.cel ((chs ps Cs).length + 3) (at3 _ _ _ _ _ _) 0 _ rfl).1; omega
          have hnx : yb ≠ xb := by have h1 : xb < W.heap.size := World.block_lt_of_cell? _ _ (HS.out _ (Below.refl _ _)).2.1; omega
          clear hO3 HS HO hyb
          generalize (W.alloc (.cells #[.int .i64 (X.N : Int), .slice X.ba X.C.buf.length X.bc, .slice X.sa X.C.S.length X.sc, .slice X.ra X.C.R.length X.rc, .bool X.C.cl] 53)).drew = W3 at *
          have HK5 := Lib.hid hK5
          clear hK5
          have c0 : W3.cell? ⟨ab, 0, none⟩ = some (.int .i64 kd) := (O3.out.cel ((chs ps Cs).length + 4) (at4 _ _ _ _ _ _ _) 0 _ rfl).1
          have hK : (bits BinOp.and IntKind.i64 kd 255).tmod 5 = (K : Int) := HKD.out
          go_upto_block 4 with fail
          clear hK c0
          go_cut [14] (fun s wx => s = .pointer (some ⟨yb, 0, none⟩) ∧ ∃ v0 v1 v2 v3 v4, MidM w (some ⟨lb, lo, none⟩) lc (some ⟨xb, xo, none⟩) xc ps Cs xs rs j yb X.N (i + 1) [v0, v1, v2, v3, v4] wx)
          case rest =>
            obtain ⟨rfl, v0, v1, v2, v3, v4, hM⟩ := hcut
            obtain ⟨Y6, rs6, ab6, ac6, e6, k1, k2, k3, k4, ho6⟩ := hM
            have e7 := e6
            simp only [rfc, List.cons.injEq, and_true] at e7
            obtain ⟨rfl, rfl, rfl, rfl, rfl⟩ := e7
            have HM : Hid (MidM w (some ⟨lb, lo, none⟩) lc (some ⟨xb, xo, none⟩) xc ps Cs xs rs j yb X.N (i + 1) [.int .i64 (Y6.N : Int), .slice Y6.ba Y6.C.buf.length Y6.bc, .slice Y6.sa Y6.C.S.length Y6.sc, .slice Y6.ra Y6.C.R.length Y6.rc, .bool Y6.C.cl] wc) := Lib.hid ⟨Y6, rs6, ab6, ac6, e6, k1, k2, k3, k4, ho6⟩
            have O6 := Lib.hid ho6
            clear e6 k1 k2 k3 k4 O3 HLM HK5 HKD W3
            obtain ⟨f0, -⟩ := O6.out.celIn 0 _ rfl
            obtain ⟨f1, -⟩ := O6.out.celIn 1 _ rfl
            obtain ⟨f2, -⟩ := O6.out.celIn 2 _ rfl
            obtain ⟨f3, -⟩ := O6.out.celIn 3 _ rfl
            obtain ⟨f4, -⟩ := O6.out.celIn 4 _ rfl
            have hrg := O6.out.front.rowG 1 rfl
            have hcap : j * 5 + 5 ≤ xc * 5 := by have h1 := hrg.2.1; omega
            obtain ⟨z0, s0, t0⟩ := hrg.spot (j * 5) (by omega)
            obtain ⟨z1, s1, t1⟩ := hrg.spot (j * 5 + 1) (by omega)
            obtain ⟨z2, s2, t2⟩ := hrg.spot (j * 5 + 2) (by omega)
            obtain ⟨z3, s3, t3⟩ := hrg.spot (j * 5 + 3) (by omega)
            obtain ⟨z4, s4, t4⟩ := hrg.spot (j * 5 + 4) (by omega)
            simp only [← Nat.add_assoc] at s1 s2 s3 s4 t1 t2 t3 t4
            have HR := Lib.hid (MidM.next (X := X) HM.out HX.out.1 H12.out.1 H12.out.2)
            clear hrg O6 ho6 HM HX H12
            go_wp2
            exact ⟨⟨i + 1, by omega, by omega, by go_num, HR⟩, by simp [intOf]; omega⟩
          case first =>
            rcases (by have := HK5.out; omega : K = 0 ∨ K = 1 ∨ K = 2 ∨ K = 3 ∨ K = 4) with rfl | rfl | rfl | rfl | rfl
            · skip
              have c3 : W3.cell? ⟨ab, 3, none⟩ = some (.int .i64 v) := (O3.out.cel ((chs ps Cs).length + 4) (at4 _ _ _ _ _ _ _) 3 _ rfl).1
              obtain ⟨R', hR, hback⟩ := O3.out.chPick HX.out.2.2.1 HX.out.2.1
              have hsc := csend_any hR v (by have := HLM.out; omega) (by have := HLM.out; omega)
              unfold wv at hsc
              have HSC := Lib.hid hsc
              have HBK := Lib.hid hback
              clear hsc hR hback
              go_wp2_with fail
              refine HSC.out.mono ?_
              rintro r w4 ⟨rfl, h4⟩
              have o4 := HBK.out _ _ h4
              obtain ⟨y0, -⟩ := o4.celIn 0 _ rfl
              obtain ⟨y1, -⟩ := o4.celIn 1 _ rfl
              obtain ⟨y2, -⟩ := o4.celIn 2 _ rfl
              obtain ⟨y3, -⟩ := o4.celIn 3 _ rfl
              obtain ⟨y4, -⟩ := o4.celIn 4 _ rfl
              have c3 : w4.cell? ⟨ab, 3, none⟩ = some (.int .i64 v) := (o4.cel ((chs ps (Cs.set j (mSend X.N X.C v).1)).length + 4) (at4 _ _ _ _ _ _ _) 3 _ rfl).1
              have hxs := xsend_any w4 X.N X.C v X.ba X.bc X.sa X.sc X.ra X.rc (o4.refGet ((chs ps (Cs.set j (mSend X.N X.C v).1)).length + 2) (at2 _ _ _ _ _) HX.out.2.2.2) (by have := HLM.out; omega) (by have := HLM.out; omega) (by omega)
              unfold XSent xcv at hxs
              have HXS := Lib.hid hxs
              have O4 := Lib.hid o4
              clear h4 o4 hxs HSC HBK
              go_wp2_with fail
              refine HXS.out.mono ?_
              rintro r w5 ⟨ba, bc, sa, sc, ra, rc, rfl, hxo⟩
              have o4 := O4.out
              clear HXS O4 y0 y1 y2 y3 y4 c3
              obtain ⟨rs', o5, hin5, hm5⟩ := o4.xAddIn HX.out.2.2.2 hxo
              have ho6 : Own w (((((w5.setCell ⟨yb, 0, none⟩ (.int .i64 (X.N : Int))).setCell ⟨yb, 1, none⟩ (.slice ba (mSend X.N X.C v).1.buf.length bc)).setCell ⟨yb, 2, none⟩ (.slice sa (mSend X.N X.C v).1.S.length sc)).setCell ⟨yb, 3, none⟩ (.slice ra (mSend X.N X.C v).1.R.length rc)).setCell ⟨yb, 4, none⟩ (.bool (mSend X.N X.C v).1.cl)) (chs ps (Cs.set j (mSend X.N X.C v).1) ++ RowGA 1 (some ⟨lb, lo, none⟩) lc 3 (ptrs ps) :: RowGA 5 (some ⟨xb, xo, none⟩) xc 3 (rfs xs) :: PoolR rs' :: CelA yb [.int .i64 (X.N : Int), .slice ba (mSend X.N X.C v).1.buf.length bc, .slice sa (mSend X.N X.C v).1.S.length sc, .slice ra (mSend X.N X.C v).1.R.length rc, .bool (mSend X.N X.C v).1.cl] :: [CelA ab [.int .i64 kd, .int .i64 wh, .int .i64 g, .int .i64 v]]) := ((((o5.setIn 0 _).setIn 1 _).setIn 2 _).setIn 3 _).setIn 4 _
              obtain ⟨d0, e0⟩ := o5.celIn 0 _ rfl
              obtain ⟨d1, e1⟩ := o5.celIn 1 _ rfl
              obtain ⟨d2, e2⟩ := o5.celIn 2 _ rfl
              obtain ⟨d3, e3⟩ := o5.celIn 3 _ rfl
              obtain ⟨d4, e4⟩ := o5.celIn 4 _ rfl
              have hlm := mSend_len X.N X.C v
              have HM : Hid (MidM w (some ⟨lb, lo, none⟩) lc (some ⟨xb, xo, none⟩) xc ps Cs xs rs j yb X.N (i + 1) [.int .i64 (X.N : Int), .slice ba (mSend X.N X.C v).1.buf.length bc, .slice sa (mSend X.N X.C v).1.S.length sc, .slice ra (mSend X.N X.C v).1.R.length rc, .bool (mSend X.N X.C v).1.cl] (((((w5.setCell ⟨yb, 0, none⟩ (.int .i64 (X.N : Int))).setCell ⟨yb, 1, none⟩ (.slice ba (mSend X.N X.C v).1.buf.length bc)).setCell ⟨yb, 2, none⟩ (.slice sa (mSend X.N X.C v).1.S.length sc)).setCell ⟨yb, 3, none⟩ (.slice ra (mSend X.N X.C v).1.R.length rc)).setCell ⟨yb, 4, none⟩ (.bool (mSend X.N X.C v).1.cl))) := Lib.hid ⟨⟨X.N, (mSend X.N X.C v).1, ba, bc, sa, sc, ra, rc⟩, rs', ab, _, rfl, rfl, hin5, hm5, by have := HLM.out; simp only; omega, ho6⟩
              clear o4 hxo o5 hin5 hm5 ho6 hlm
              go_wp2_with fail
              go_meet
              exact ⟨rfl, _, _, _, _, _, HM.out⟩
            · skip
              have c3 : W3.cell? ⟨ab, 3, none⟩ = some (.int .i64 v) := (O3.out.cel ((chs ps Cs).length + 4) (at4 _ _ _ _ _ _ _) 3 _ rfl).1
              obtain ⟨R', hR, hback⟩ := O3.out.chPick HX.out.2.2.1 HX.out.2.1
              have hsc := crecv_any hR (by have := HLM.out; omega) (by have := HLM.out; omega)
              unfold gotC at hsc
              have HSC := Lib.hid hsc
              have HBK := Lib.hid hback
              clear hsc hR hback
              go_wp2_with fail
              refine HSC.out.mono ?_
              rintro r w4 ⟨rfl, h4⟩
              have o4 := HBK.out _ _ h4
              obtain ⟨y0, -⟩ := o4.celIn 0 _ rfl
              obtain ⟨y1, -⟩ := o4.celIn 1 _ rfl
              obtain ⟨y2, -⟩ := o4.celIn 2 _ rfl
              obtain ⟨y3, -⟩ := o4.celIn 3 _ rfl
              obtain ⟨y4, -⟩ := o4.celIn 4 _ rfl
              have c3 : w4.cell? ⟨ab, 3, none⟩ = some (.int .i64 v) := (o4.cel ((chs ps (Cs.set j (mRecv X.C).1)).length + 4) (at4 _ _ _ _ _ _ _) 3 _ rfl).1
              have hxs := xrecv_any w4 X.N X.C X.ba X.bc X.sa X.sc X.ra X.rc (o4.refGet ((chs ps (Cs.set j (mRecv X.C).1)).length + 2) (at2 _ _ _ _ _) HX.out.2.2.2) (by have := HLM.out; omega) (by have := HLM.out; omega)
              unfold XGot xcv at hxs
              have HXS := Lib.hid hxs
              have O4 := Lib.hid o4
              clear h4 o4 hxs HSC HBK
              go_wp2_with fail
              refine HXS.out.mono ?_
              rintro r w5 ⟨ba, bc, sa, sc, ra, rc, rfl, hxo⟩
              have o4 := O4.out
              clear HXS O4 y0 y1 y2 y3 y4 c3
              obtain ⟨rs', o5, hin5, hm5⟩ := o4.xAddIn HX.out.2.2.2 hxo
              have ho6 : Own w (((((w5.setCell ⟨yb, 0, none⟩ (.int .i64 (X.N : Int))).setCell ⟨yb, 1, none⟩ (.slice ba (mRecv X.C).1.buf.length bc)).setCell ⟨yb, 2, none⟩ (.slice sa (mRecv X.C).1.S.length sc)).setCell ⟨yb, 3, none⟩ (.slice ra (mRecv X.C).1.R.length rc)).setCell ⟨yb, 4, none⟩ (.bool (mRecv X.C).1.cl)) (chs ps (Cs.set j (mRecv X.C).1) ++ RowGA 1 (some ⟨lb, lo, none⟩) lc 3 (ptrs ps) :: RowGA 5 (some ⟨xb, xo, none⟩) xc 3 (rfs xs) :: PoolR rs' :: CelA yb [.int .i64 (X.N : Int), .slice ba (mRecv X.C).1.buf.length bc, .slice sa (mRecv X.C).1.S.length sc, .slice ra (mRecv X.C).1.R.length rc, .bool (mRecv X.C).1.cl] :: [CelA ab [.int .i64 kd, .int .i64 wh, .int .i64 g, .int .i64 v]]) := ((((o5.setIn 0 _).setIn 1 _).setIn 2 _).setIn 3 _).setIn 4 _
              obtain ⟨d0, e0⟩ := o5.celIn 0 _ rfl
              obtain ⟨d1, e1⟩ := o5.celIn 1 _ rfl
              obtain ⟨d2, e2⟩ := o5.celIn 2 _ rfl
              obtain ⟨d3, e3⟩ := o5.celIn 3 _ rfl
              obtain ⟨d4, e4⟩ := o5.celIn 4 _ rfl
              have hlm := mRecv_len X.C
              have HM : Hid (MidM w (some ⟨lb, lo, none⟩) lc (some ⟨xb, xo, none⟩) xc ps Cs xs rs j yb X.N (i + 1) [.int .i64 (X.N : Int), .slice ba (mRecv X.C).1.buf.length bc, .slice sa (mRecv X.C).1.S.length sc, .slice ra (mRecv X.C).1.R.length rc, .bool (mRecv X.C).1.cl] (((((w5.setCell ⟨yb, 0, none⟩ (.int .i64 (X.N : Int))).setCell ⟨yb, 1, none⟩ (.slice ba (mRecv X.C).1.buf.length bc)).setCell ⟨yb, 2, none⟩ (.slice sa (mRecv X.C).1.S.length sc)).setCell ⟨yb, 3, none⟩ (.slice ra (mRecv X.C).1.R.length rc)).setCell ⟨yb, 4, none⟩ (.bool (mRecv X.C).1.cl))) := Lib.hid ⟨⟨X.N, (mRecv X.C).1, ba, bc, sa, sc, ra, rc⟩, rs', ab, _, rfl, rfl, hin5, hm5, by have := HLM.out; simp only; omega, ho6⟩
              clear o4 hxo o5 hin5 hm5 ho6 hlm
              go_wp2_with fail
              go_meet
              exact ⟨rfl, _, _, _, _, _, HM.out⟩
            · skip
              have c3 : W3.cell? ⟨ab, 3, none⟩ = some (.int .i64 v) := (O3.out.cel ((chs ps Cs).length + 4) (at4 _ _ _ _ _ _ _) 3 _ rfl).1
              obtain ⟨R', hR, hback⟩ := O3.out.chPick HX.out.2.2.1 HX.out.2.1
              have hsc := cclose_c hR
              skip
              have HSC := Lib.hid hsc
              have HBK := Lib.hid hback
              clear hsc hR hback
              go_wp2_with fail
              refine HSC.out.mono ?_
              rintro r w4 ⟨vv, rfl, h4⟩
              have o4 := HBK.out _ _ h4
              obtain ⟨y0, -⟩ := o4.celIn 0 _ rfl
              obtain ⟨y1, -⟩ := o4.celIn 1 _ rfl
              obtain ⟨y2, -⟩ := o4.celIn 2 _ rfl
              obtain ⟨y3, -⟩ := o4.celIn 3 _ rfl
              obtain ⟨y4, -⟩ := o4.celIn 4 _ rfl
              have c3 : w4.cell? ⟨ab, 3, none⟩ = some (.int .i64 v) := (o4.cel ((chs ps (Cs.set j (mClose X.C))).length + 4) (at4 _ _ _ _ _ _ _) 3 _ rfl).1
              have hxs := xclose_c w4 X.N X.C X.ba X.bc X.sa X.sc X.ra X.rc (o4.refGet ((chs ps (Cs.set j (mClose X.C))).length + 2) (at2 _ _ _ _ _) HX.out.2.2.2)
              unfold xcv at hxs
              have HXS := Lib.hid hxs
              have O4 := Lib.hid o4
              clear h4 o4 hxs HSC HBK
              go_wp2_with fail
              refine HXS.out.mono ?_
              rintro r w5 ⟨ba, bc, sa, sc, ra, rc, e1, e2, e3, rfl, hxo⟩
              have o4 := O4.out
              clear HXS O4 y0 y1 y2 y3 y4 c3
              obtain ⟨rs', o5, hin5, hm5⟩ := o4.xAddIn HX.out.2.2.2 hxo
              have ho6 : Own w (((((w5.setCell ⟨yb, 0, none⟩ (.int .i64 (X.N : Int))).setCell ⟨yb, 1, none⟩ (.slice ba (mClose X.C).buf.length bc)).setCell ⟨yb, 2, none⟩ (.slice sa (mClose X.C).S.length sc)).setCell ⟨yb, 3, none⟩ (.slice ra (mClose X.C).R.length rc)).setCell ⟨yb, 4, none⟩ (.bool (mClose X.C).cl)) (chs ps (Cs.set j (mClose X.C)) ++ RowGA 1 (some ⟨lb, lo, none⟩) lc 3 (ptrs ps) :: RowGA 5 (some ⟨xb, xo, none⟩) xc 3 (rfs xs) :: PoolR rs' :: CelA yb [.int .i64 (X.N : Int), .slice ba (mClose X.C).buf.length bc, .slice sa (mClose X.C).S.length sc, .slice ra (mClose X.C).R.length rc, .bool (mClose X.C).cl] :: [CelA ab [.int .i64 kd, .int .i64 wh, .int .i64 g, .int .i64 v]]) := ((((o5.setIn 0 _).setIn 1 _).setIn 2 _).setIn 3 _).setIn 4 _
              obtain ⟨d0, e0⟩ := o5.celIn 0 _ rfl
              obtain ⟨d1, e1⟩ := o5.celIn 1 _ rfl
              obtain ⟨d2, e2⟩ := o5.celIn 2 _ rfl
              obtain ⟨d3, e3⟩ := o5.celIn 3 _ rfl
              obtain ⟨d4, e4⟩ := o5.celIn 4 _ rfl
              have hlm := mClose_len X.C
              have HM : Hid (MidM w (some ⟨lb, lo, none⟩) lc (some ⟨xb, xo, none⟩) xc ps Cs xs rs j yb X.N (i + 1) [.int .i64 (X.N : Int), .slice ba (mClose X.C).buf.length bc, .slice sa (mClose X.C).S.length sc, .slice ra (mClose X.C).R.length rc, .bool (mClose X.C).cl] (((((w5.setCell ⟨yb, 0, none⟩ (.int .i64 (X.N : Int))).setCell ⟨yb, 1, none⟩ (.slice ba (mClose X.C).buf.length bc)).setCell ⟨yb, 2, none⟩ (.slice sa (mClose X.C).S.length sc)).setCell ⟨yb, 3, none⟩ (.slice ra (mClose X.C).R.length rc)).setCell ⟨yb, 4, none⟩ (.bool (mClose X.C).cl))) := Lib.hid ⟨⟨X.N, (mClose X.C), ba, bc, sa, sc, ra, rc⟩, rs', ab, _, rfl, rfl, hin5, hm5, by have := HLM.out; simp only; omega, ho6⟩
              clear o4 hxo o5 hin5 hm5 ho6 hlm
              go_wp2_with fail
              go_meet
              exact ⟨rfl, _, _, _, _, _, HM.out⟩
            · skip
              have c2 : W3.cell? ⟨ab, 2, none⟩ = some (.int .i64 g) := (O3.out.cel ((chs ps Cs).length + 4) (at4 _ _ _ _ _ _ _) 2 _ rfl).1
              have c3 : W3.cell? ⟨ab, 3, none⟩ = some (.int .i64 v) := (O3.out.cel ((chs ps Cs).length + 4) (at4 _ _ _ _ _ _ _) 3 _ rfl).1
              obtain ⟨R', hR, hback⟩ := O3.out.chPick HX.out.2.2.1 HX.out.2.1
              have hl2 : X.C.S.length ≤ 1000 := by have := HLM.out; omega
              have hsc := cwaits_any (buf := X.C.buf) (S := X.C.S) (Rv := X.C.R) (cl := X.C.cl) hR (g, 0, v) (by omega)
              unfold wv at hsc
              simp only at hsc
              have HSC := Lib.hid hsc
              have HBK := Lib.hid hback
              clear hsc hR hback W
              go_wp2_with fail
              refine HSC.out.mono ?_
              rintro r W ⟨rfl, h4⟩
              have hWO : Own w W (chs ps (Cs.set j ⟨X.C.buf, X.C.S ++ [(g, 0, v)], X.C.R, X.C.cl⟩) ++ RowGA 1 (some ⟨lb, lo, none⟩) lc 3 (ptrs ps) :: RowGA 5 (some ⟨xb, xo, none⟩) xc 3 (rfs xs) :: PoolR rs :: CelA yb [.int .i64 (X.N : Int), .slice X.ba X.C.buf.length X.bc, .slice X.sa X.C.S.length X.sc, .slice X.ra X.C.R.length X.rc, .bool X.C.cl] :: [CelA ab [.int .i64 kd, .int .i64 wh, .int .i64 g, .int .i64 v]]) := HBK.out _ _ h4
              have HWO := Lib.hid hWO
              clear c2 c3 h4 hWO HSC HBK O3
              go_upto_region 27 with fail
              have a2 : W.cell? ⟨yb, 2, none⟩ = some (.slice X.sa X.C.S.length X.sc) := (HWO.out.celIn 2 _ rfl).1
              have c2 : W.cell? ⟨ab, 2, none⟩ = some (.int .i64 g) := (HWO.out.cel ((chs ps (Cs.set j ⟨X.C.buf, X.C.S ++ [(g, 0, v)], X.C.R, X.C.cl⟩)).length + 4) (at4 _ _ _ _ _ _ _) 2 _ rfl).1
              have c3 : W.cell? ⟨ab, 3, none⟩ = some (.int .i64 v) := (HWO.out.cel ((chs ps (Cs.set j ⟨X.C.buf, X.C.S ++ [(g, 0, v)], X.C.R, X.C.cl⟩)).length + 4) (at4 _ _ _ _ _ _ _) 3 _ rfl).1
              have hsl : yb < W.heap.size := World.block_lt_of_cell? _ _ a2
              have hsl0 : ab < W.heap.size := World.block_lt_of_cell? _ _ c2
              have HROW : Hid (RowG 3 W X.sa X.sc X.C.S.length (wtc X.C.S)) := Lib.hid (HWO.out.refGet ((chs ps (Cs.set j ⟨X.C.buf, X.C.S ++ [(g, 0, v)], X.C.R, X.C.cl⟩)).length + 2) (at2 _ _ _ _ _) HX.out.2.2.2).2.1
              have hln : (X.C.S ++ [(g, 0, v)]).length = X.C.S.length + 1 := by simp
              have HPP : Hid (∀ wx, Below W.heap.size W wx → wx.cell? ⟨ab, 2, none⟩ = some (.int .i64 g) ∧ wx.cell? ⟨ab, 3, none⟩ = some (.int .i64 v)) := Lib.hid fun wx hb => ⟨cell_below c2 hb, cell_below c3 hb⟩
              have HPQ : Hid (∀ wx, Chg [yb] W wx → wx.cell? ⟨ab, 2, none⟩ = some (.int .i64 g) ∧ wx.cell? ⟨ab, 3, none⟩ = some (.int .i64 v)) := Lib.hid fun wx hc => ⟨cell_chg c2 hc (by simpa using Ne.symm hne), cell_chg c3 hc (by simpa using Ne.symm hne)⟩
              clear c3
              refine wp_region_lexH (fun wx => wx.cell? ⟨ab, 2, none⟩ = some (.int .i64 g) ∧ wx.cell? ⟨ab, 3, none⟩ = some (.int .i64 v)) 13 (Array.replicate 13 false) (by kernel_rfl) (by kernel_rfl) ?_
              refine wpAnyH_seg 1 1 _ #[false, true, false, false, false, false, false, false, false, false, false, false, false] 12 (by kernel_rfl) noPanic_put (HPP.out _ (below_drew1 W)) (by kernel_rfl) ?_
              simp only [List.take_succ_cons, List.take_zero, List.drop_succ_cons, List.drop_zero]
              repeat (first
                | (refine wpSegH_no (by rfl) ?_; simp only [Act.put, List.setIfInBounds_toArray, List.set_cons_zero, List.set_cons_succ])
                | (refine wpSegH_yes (by rfl) ?_; apply Exists.intro; apply And.intro; (· (intro wx hS; (try dsimp only at hS); go_simp; first | done | with_reducible rfl)); simp only [Act.put, List.setIfInBounds_toArray, List.set_cons_zero, List.set_cons_succ]))
              refine wpSegH_nil ?_
              refine wpAnyH_seg 4 5 _ #[false, true, false, false, true, true, true, true, true, false, false, false, false] 7 (by kernel_rfl) noPanic_put (HPP.out _ (below_drew1 W)) (by kernel_rfl) ?_
              simp only [List.take_succ_cons, List.take_zero, List.drop_succ_cons, List.drop_zero]
              repeat (first
                | (refine wpSegH_no (by rfl) ?_; simp only [Act.put, List.setIfInBounds_toArray, List.set_cons_zero, List.set_cons_succ])
                | (refine wpSegH_yes (by rfl) ?_; apply Exists.intro; apply And.intro; (· (intro wx hS; (try dsimp only at hS); go_simp; first | done | with_reducible rfl)); simp only [Act.put, List.setIfInBounds_toArray, List.set_cons_zero, List.set_cons_succ]))
              refine wpSegH_nil ?_
              refine wpAnyH_three 0 2 9 _ #[true, true, false, false, true, true, true, true, true, false, false, false, false] #[false, true, true, false, true, true, true, true, true, false, false, false, false] #[false, true, false, false, true, true, true, true, true, true, false, false, false] 6 (by kernel_rfl) (fun K hK => ?_) (fun K hK => ?_) (fun K hK => ?_)
              · skip
                have HKK := Lib.hid hK
                clear hK
                simp only [List.drop_zero]
                refine headH_mk (by rfl) ?_
                go_simp
                refine HKK.out _ _ (HPP.out _ (by repeat (first | exact Below.refl _ _ | refine Below.drew ?_ | refine below_drewN ?_ _ | refine Below.alloc ?_ (by first | (simp; done) | (simp; omega)) _))) ?_
                clear HKK K
                refine wpAnyH_two 2 9 _ #[true, true, true, false, true, true, true, true, true, false, false, false, false] #[true, true, false, false, true, true, true, true, true, true, false, false, false] 5 (by kernel_rfl) (fun K hK => ?_) (fun K hK => ?_)
                · skip
                  have HKK := Lib.hid hK
                  clear hK
                  simp only [List.drop_succ_cons, List.drop_zero]
                  refine headH_mk (by rfl) ?_
                  go_simp
                  refine HKK.out _ _ (HPP.out _ (by repeat (first | exact Below.refl _ _ | refine Below.drew ?_ | refine below_drewN ?_ _ | refine Below.alloc ?_ (by first | (simp; done) | (simp; omega)) _))) ?_
                  clear HKK K
                  refine wpAnyH_two 3 9 _ #[true, true, true, true, true, true, true, true, true, false, false, false, false] #[true, true, true, false, true, true, true, true, true, true, false, false, false] 4 (by kernel_rfl) (fun K hK => ?_) (fun K hK => ?_)
                  · skip
                    have HKK := Lib.hid hK
                    clear hK
                    simp only [List.drop_succ_cons, List.drop_zero]
                    refine headH_mk (by rfl) ?_
                    refine wp_append_rowG (n := 0) (m := X.C.S.length) (cs := []) (ds := wtc X.C.S) _ _ 51 (by rfl) 66 i0 _ Try.underlying51 Hi.out Hz0.out Hz1.out Hz2.out rfl (by omega) (by omega) (by rfl) (by rfl) (RowG.zero (by first | (simp; done) | (simp; omega))) (HROW.out.below (by repeat (first | exact Below.refl _ _ | refine Below.drew ?_ | refine below_drewN ?_ _ | refine Below.alloc ?_ (by first | (simp; done) | (simp; omega)) _))).cells (by rw [wtc_len]) (wtc_one _) (by omega) ?_
                    intro b1 e1 w4 k1 ch1 f1
                    have hb4 : Below W.heap.size W w4 := Chg.below (by repeat (first | exact Below.refl _ _ | refine Below.drew ?_ | refine below_drewN ?_ _ | refine Below.alloc ?_ (by first | (simp; done) | (simp; omega)) _)) ch1 (fun x hx => by simp [blk] at hx; omega)
                    have hf4 : ∀ x ∈ blk b1, W.heap.size ≤ x := fun x hx => by
                      rcases f1 x hx with h | h
                      · simp [blk] at h; omega
                      · first | omega | (simp at h; omega)
                    have K1 : Hid (RowG 3 w4 b1 e1 X.C.S.length (wtc X.C.S)) := Lib.hid (by simpa using k1)
                    have CH1 := Lib.hid ch1
                    clear k1 ch1 f1
                    refine HKK.out _ _ (HPP.out _ hb4) ?_
                    rw [Nat.zero_add]
                    clear HKK K
                    refine wpAnyH_one 9 _ #[true, true, true, true, true, true, true, true, true, true, false, false, false] 3 (by kernel_rfl) (fun K hK => ?_)
                    have HKK := Lib.hid hK
                    clear hK
                    simp only [List.drop_succ_cons, List.drop_zero]
                    refine headH_mk (by rfl) ?_
                    go_simp
                    refine HKK.out _ _ (HPP.out _ (below_on hb4 (by repeat (first | exact Below.refl _ _ | refine Below.drew ?_ | refine below_drewN ?_ _ | refine Below.alloc ?_ (by first | (simp; done) | (simp; omega)) _)))) ?_
                    clear HKK K
                    refine wpAnyH_one 10 _ #[true, true, true, true, true, true, true, true, true, true, true, false, false] 2 (by kernel_rfl) (fun K hK => ?_)
                    have HKK := Lib.hid hK
                    clear hK
                    simp only [List.drop_succ_cons, List.drop_zero]
                    refine headH_mk (by rfl) ?_
                    refine wp_append_rowG (n := X.C.S.length) (m := 1) (cs := wtc X.C.S) (ds := wtc [(g, 0, v)]) _ _ 51 (by rfl) 66 i0 _ Try.underlying51 Hi.out Hz0.out Hz1.out Hz2.out rfl (by omega) (by omega) (by first | rfl | simp) (by rfl) (K1.out.below (by repeat (first | exact Below.refl _ _ | refine Below.drew ?_ | refine below_drewN ?_ _ | refine Below.alloc ?_ (by first | (simp; done) | (simp; omega)) _))) (CellsAt.new _ (wtc [(g, 0, v)]) _ (by first | rfl | simp)) rfl (wtc_one _) (by omega) ?_
                    intro b2 e2 w5 k2 ch2 f2
                    have hb5 : Below W.heap.size W w5 := Chg.below (below_on hb4 (by repeat (first | exact Below.refl _ _ | refine Below.drew ?_ | refine below_drewN ?_ _ | refine Below.alloc ?_ (by first | (simp; done) | (simp; omega)) _))) ch2 (fun x hx => hf4 x hx)
                    have hf5 : ∀ x ∈ blk b2, W.heap.size ≤ x := fun x hx => by
                      rcases f2 x hx with h | h
                      · exact hf4 x h
                      · have := hb4.size; first | omega | (simp at h; omega)
                    obtain ⟨x2', xm2'⟩ := (HWO.out.step hb5).celIn 2 _ rfl
                    have hrow : RowG 3 w5 b2 e2 (X.C.S ++ [(g, 0, v)]).length (wtc (X.C.S ++ [(g, 0, v)])) := by rw [hln, wtc_app]; exact k2
                    have o6 := (Own.rAddIn HWO.out hb5 hrow hf5).setIn 2 (.slice b2 (X.C.S ++ [(g, 0, v)]).length e2)
                    have hP : MidM w (some ⟨lb, lo, none⟩) lc (some ⟨xb, xo, none⟩) xc ps Cs xs rs j yb X.N (i + 1) [.int .i64 (X.N : Int), .slice X.ba X.C.buf.length X.bc, .slice b2 (X.C.S ++ [(g, 0, v)]).length e2, .slice X.ra X.C.R.length X.rc, .bool X.C.cl] (w5.setCell ⟨yb, 2, none⟩ (.slice b2 (X.C.S.length + 1) e2)) := by
                      rw [← hln]; exact ⟨⟨X.N, ⟨X.C.buf, X.C.S ++ [(g, 0, v)], X.C.R, X.C.cl⟩, X.ba, X.bc, b2, e2, X.ra, X.rc⟩, _, ab, _, rfl, rfl, ⟨List.mem_cons_of_mem _ HX.out.2.2.2.1, List.mem_cons_self, List.mem_cons_of_mem _ HX.out.2.2.2.2.2⟩, fun q hq => List.mem_cons_of_mem _ hq, by have := HLM.out; simp only [List.length_append, List.length_cons, List.length_nil]; omega, o6⟩
                    have HP := Lib.hid hP
                    have hbs := chg_setC hb5 (b := yb) (k := 2) (.slice b2 (X.C.S.length + 1) e2)
                    clear hrow o6 hP k2 ch2 f2 hf5
                    refine HKK.out _ _ (HPP.out _ hb5) ?_
                    clear HKK K
                    refine wpAnyH_seg 11 1 _ #[true, true, true, true, true, true, true, true, true, true, true, true, false] 1 (by kernel_rfl) noPanic_put (HPP.out _ hb5) (by kernel_rfl) ?_
                    simp only [List.take_succ_cons, List.take_zero, List.drop_succ_cons, List.drop_zero]
                    repeat (first
                      | (refine wpSegH_no (by rfl) ?_; simp only [Act.put, List.setIfInBounds_toArray, List.set_cons_zero, List.set_cons_succ])
                      | (refine wpSegH_yes (by rfl) ?_; apply Exists.intro; apply And.intro; (· (intro wx hS; (try dsimp only at hS); go_simp; first | done | with_reducible rfl)); simp only [Act.put, List.setIfInBounds_toArray, List.set_cons_zero, List.set_cons_succ]))
                    refine wpSegH_nil ?_
                    refine wpAnyH_one 12 _ #[true, true, true, true, true, true, true, true, true, true, true, true, true] 0 (by kernel_rfl) (fun K hK => ?_)
                    have HKK := Lib.hid hK
                    clear hK
                    simp only [List.drop_succ_cons, List.drop_zero]
                    refine headH_mk (by rfl) ?_
                    go_simp
                    refine HKK.out _ _ (HPQ.out _ hbs) ?_
                    clear HKK K
                    refine wpAnyH_done (by kernel_rfl) (NoPanic.normal ?_) _
                    go_wp2_with fail
                    go_meet
                    exact ⟨rfl, _, _, _, _, _, HP.out⟩
                  · skip
                    have HKK := Lib.hid hK
                    clear hK
                    simp only [List.drop_succ_cons, List.drop_zero]
                    refine headH_mk (by rfl) ?_
                    go_simp
                    refine HKK.out _ _ (HPP.out _ (by repeat (first | exact Below.refl _ _ | refine Below.drew ?_ | refine below_drewN ?_ _ | refine Below.alloc ?_ (by first | (simp; done) | (simp; omega)) _))) ?_
                    clear HKK K
                    refine wpAnyH_one 3 _ #[true, true, true, true, true, true, true, true, true, true, false, false, false] 3 (by kernel_rfl) (fun K hK => ?_)
                    have HKK := Lib.hid hK
                    clear hK
                    simp only [List.drop_succ_cons, List.drop_zero]
                    refine headH_mk (by rfl) ?_
                    refine wp_append_rowG (n := 0) (m := X.C.S.length) (cs := []) (ds := wtc X.C.S) _ _ 51 (by rfl) 66 i0 _ Try.underlying51 Hi.out Hz0.out Hz1.out Hz2.out rfl (by omega) (by omega) (by rfl) (by rfl) (RowG.zero (by first | (simp; done) | (simp; omega))) (HROW.out.below (by repeat (first | exact Below.refl _ _ | refine Below.drew ?_ | refine below_drewN ?_ _ | refine Below.alloc ?_ (by first | (simp; done) | (simp; omega)) _))).cells (by rw [wtc_len]) (wtc_one _) (by omega) ?_
                    intro b1 e1 w4 k1 ch1 f1
                    have hb4 : Below W.heap.size W w4 := Chg.below (by repeat (first | exact Below.refl _ _ | refine Below.drew ?_ | refine below_drewN ?_ _ | refine Below.alloc ?_ (by first | (simp; done) | (simp; omega)) _)) ch1 (fun x hx => by simp [blk] at hx; omega)
                    have hf4 : ∀ x ∈ blk b1, W.heap.size ≤ x := fun x hx => by
                      rcases f1 x hx with h | h
                      · simp [blk] at h; omega
                      · first | omega | (simp at h; omega)
                    have K1 : Hid (RowG 3 w4 b1 e1 X.C.S.length (wtc X.C.S)) := Lib.hid (by simpa using k1)
                    have CH1 := Lib.hid ch1
                    clear k1 ch1 f1
                    refine HKK.out _ _ (HPP.out _ hb4) ?_
                    rw [Nat.zero_add]
                    clear HKK K
                    refine wpAnyH_one 10 _ #[true, true, true, true, true, true, true, true, true, true, true, false, false] 2 (by kernel_rfl) (fun K hK => ?_)
                    have HKK := Lib.hid hK
                    clear hK
                    simp only [List.drop_succ_cons, List.drop_zero]
                    refine headH_mk (by rfl) ?_
                    refine wp_append_rowG (n := X.C.S.length) (m := 1) (cs := wtc X.C.S) (ds := wtc [(g, 0, v)]) _ _ 51 (by rfl) 66 i0 _ Try.underlying51 Hi.out Hz0.out Hz1.out Hz2.out rfl (by omega) (by omega) (by first | rfl | simp) (by rfl) K1.out (CellsAt.chg (by first | exact CellsAt.new _ (wtc [(g, 0, v)]) _ (by first | rfl | simp) | exact CellsAt.below (CellsAt.new _ (wtc [(g, 0, v)]) _ (by first | rfl | simp)) (by repeat (first | exact Below.refl _ _ | refine Below.drew ?_ | refine below_drewN ?_ _ | refine Below.alloc ?_ (by first | (simp; done) | (simp; omega)) _))) CH1.out (by simp [blk])) rfl (wtc_one _) (by omega) ?_
                    intro b2 e2 w5 k2 ch2 f2
                    have hb5 : Below W.heap.size W w5 := Chg.below hb4 ch2 (fun x hx => hf4 x hx)
                    have hf5 : ∀ x ∈ blk b2, W.heap.size ≤ x := fun x hx => by
                      rcases f2 x hx with h | h
                      · exact hf4 x h
                      · have := hb4.size; first | omega | (simp at h; omega)
                    obtain ⟨x2', xm2'⟩ := (HWO.out.step hb5).celIn 2 _ rfl
                    have hrow : RowG 3 w5 b2 e2 (X.C.S ++ [(g, 0, v)]).length (wtc (X.C.S ++ [(g, 0, v)])) := by rw [hln, wtc_app]; exact k2
                    have o6 := (Own.rAddIn HWO.out hb5 hrow hf5).setIn 2 (.slice b2 (X.C.S ++ [(g, 0, v)]).length e2)
                    have hP : MidM w (some ⟨lb, lo, none⟩) lc (some ⟨xb, xo, none⟩) xc ps Cs xs rs j yb X.N (i + 1) [.int .i64 (X.N : Int), .slice X.ba X.C.buf.length X.bc, .slice b2 (X.C.S ++ [(g, 0, v)]).length e2, .slice X.ra X.C.R.length X.rc, .bool X.C.cl] (w5.setCell ⟨yb, 2, none⟩ (.slice b2 (X.C.S.length + 1) e2)) := by
                      rw [← hln]; exact ⟨⟨X.N, ⟨X.C.buf, X.C.S ++ [(g, 0, v)], X.C.R, X.C.cl⟩, X.ba, X.bc, b2, e2, X.ra, X.rc⟩, _, ab, _, rfl, rfl, ⟨List.mem_cons_of_mem _ HX.out.2.2.2.1, List.mem_cons_self, List.mem_cons_of_mem _ HX.out.2.2.2.2.2⟩, fun q hq => List.mem_cons_of_mem _ hq, by have := HLM.out; simp only [List.length_append, List.length_cons, List.length_nil]; omega, o6⟩
                    have HP := Lib.hid hP
                    have hbs := chg_setC hb5 (b := yb) (k := 2) (.slice b2 (X.C.S.length + 1) e2)
                    clear hrow o6 hP k2 ch2 f2 hf5
                    refine HKK.out _ _ (HPP.out _ hb5) ?_
                    clear HKK K
                    refine wpAnyH_seg 11 1 _ #[true, true, true, true, true, true, true, true, true, true, true, true, false] 1 (by kernel_rfl) noPanic_put (HPP.out _ hb5) (by kernel_rfl) ?_
                    simp only [List.take_succ_cons, List.take_zero, List.drop_succ_cons, List.drop_zero]
                    repeat (first
                      | (refine wpSegH_no (by rfl) ?_; simp only [Act.put, List.setIfInBounds_toArray, List.set_cons_zero, List.set_cons_succ])
                      | (refine wpSegH_yes (by rfl) ?_; apply Exists.intro; apply And.intro; (· (intro wx hS; (try dsimp only at hS); go_simp; first | done | with_reducible rfl)); simp only [Act.put, List.setIfInBounds_toArray, List.set_cons_zero, List.set_cons_succ]))
                    refine wpSegH_nil ?_
                    refine wpAnyH_one 12 _ #[true, true, true, true, true, true, true, true, true, true, true, true, true] 0 (by kernel_rfl) (fun K hK => ?_)
                    have HKK := Lib.hid hK
                    clear hK
                    simp only [List.drop_succ_cons, List.drop_zero]
                    refine headH_mk (by rfl) ?_
                    go_simp
                    refine HKK.out _ _ (HPQ.out _ hbs) ?_
                    clear HKK K
                    refine wpAnyH_done (by kernel_rfl) (NoPanic.normal ?_) _
                    go_wp2_with fail
                    go_meet
                    exact ⟨rfl, _, _, _, _, _, HP.out⟩
                · skip
                  have HKK := Lib.hid hK
                  clear hK
                  simp only [List.drop_succ_cons, List.drop_zero]
                  refine headH_mk (by rfl) ?_
                  go_simp
                  refine HKK.out _ _ (HPP.out _ (by repeat (first | exact Below.refl _ _ | refine Below.drew ?_ | refine below_drewN ?_ _ | refine Below.alloc ?_ (by first | (simp; done) | (simp; omega)) _))) ?_
                  clear HKK K
                  refine wpAnyH_one 2 _ #[true, true, true, false, true, true, true, true, true, true, false, false, false] 4 (by kernel_rfl) (fun K hK => ?_)
                  have HKK := Lib.hid hK
                  clear hK
                  simp only [List.drop_succ_cons, List.drop_zero]
                  refine headH_mk (by rfl) ?_
                  go_simp
                  refine HKK.out _ _ (HPP.out _ (by repeat (first | exact Below.refl _ _ | refine Below.drew ?_ | refine below_drewN ?_ _ | refine Below.alloc ?_ (by first | (simp; done) | (simp; omega)) _))) ?_
                  clear HKK K
                  refine wpAnyH_one 3 _ #[true, true, true, true, true, true, true, true, true, true, false, false, false] 3 (by kernel_rfl) (fun K hK => ?_)
                  have HKK := Lib.hid hK
                  clear hK
                  simp only [List.drop_succ_cons, List.drop_zero]
                  refine headH_mk (by rfl) ?_
                  refine wp_append_rowG (n := 0) (m := X.C.S.length) (cs := []) (ds := wtc X.C.S) _ _ 51 (by rfl) 66 i0 _ Try.underlying51 Hi.out Hz0.out Hz1.out Hz2.out rfl (by omega) (by omega) (by rfl) (by rfl) (RowG.zero (by first | (simp; done) | (simp; omega))) (HROW.out.below (by repeat (first | exact Below.refl _ _ | refine Below.drew ?_ | refine below_drewN ?_ _ | refine Below.alloc ?_ (by first | (simp; done) | (simp; omega)) _))).cells (by rw [wtc_len]) (wtc_one _) (by omega) ?_
                  intro b1 e1 w4 k1 ch1 f1
                  have hb4 : Below W.heap.size W w4 := Chg.below (by repeat (first | exact Below.refl _ _ | refine Below.drew ?_ | refine below_drewN ?_ _ | refine Below.alloc ?_ (by first | (simp; done) | (simp; omega)) _)) ch1 (fun x hx => by simp [blk] at hx; omega)
                  have hf4 : ∀ x ∈ blk b1, W.heap.size ≤ x := fun x hx => by
                    rcases f1 x hx with h | h
                    · simp [blk] at h; omega
                    · first | omega | (simp at h; omega)
                  have K1 : Hid (RowG 3 w4 b1 e1 X.C.S.length (wtc X.C.S)) := Lib.hid (by simpa using k1)
                  have CH1 := Lib.hid ch1
                  clear k1 ch1 f1
                  refine HKK.out _ _ (HPP.out _ hb4) ?_
                  rw [Nat.zero_add]
                  clear HKK K
                  refine wpAnyH_one 10 _ #[true, true, true, true, true, true, true, true, true, true, true, false, false] 2 (by kernel_rfl) (fun K hK => ?_)
                  have HKK := Lib.hid hK
                  clear hK
                  simp only [List.drop_succ_cons, List.drop_zero]
                  refine headH_mk (by rfl) ?_
                  refine wp_append_rowG (n := X.C.S.length) (m := 1) (cs := wtc X.C.S) (ds := wtc [(g, 0, v)]) _ _ 51 (by rfl) 66 i0 _ Try.underlying51 Hi.out Hz0.out Hz1.out Hz2.out rfl (by omega) (by omega) (by first | rfl | simp) (by rfl) K1.out (CellsAt.chg (by first | exact CellsAt.new _ (wtc [(g, 0, v)]) _ (by first | rfl | simp) | exact CellsAt.below (CellsAt.new _ (wtc [(g, 0, v)]) _ (by first | rfl | simp)) (by repeat (first | exact Below.refl _ _ | refine Below.drew ?_ | refine below_drewN ?_ _ | refine Below.alloc ?_ (by first | (simp; done) | (simp; omega)) _))) CH1.out (by simp [blk])) rfl (wtc_one _) (by omega) ?_
                  intro b2 e2 w5 k2 ch2 f2
                  have hb5 : Below W.heap.size W w5 := Chg.below hb4 ch2 (fun x hx => hf4 x hx)
                  have hf5 : ∀ x ∈ blk b2, W.heap.size ≤ x := fun x hx => by
                    rcases f2 x hx with h | h
                    · exact hf4 x h
                    · have := hb4.size; first | omega | (simp at h; omega)
                  obtain ⟨x2', xm2'⟩ := (HWO.out.step hb5).celIn 2 _ rfl
                  have hrow : RowG 3 w5 b2 e2 (X.C.S ++ [(g, 0, v)]).length (wtc (X.C.S ++ [(g, 0, v)])) := by rw [hln, wtc_app]; exact k2
                  have o6 := (Own.rAddIn HWO.out hb5 hrow hf5).setIn 2 (.slice b2 (X.C.S ++ [(g, 0, v)]).length e2)
                  have hP : MidM w (some ⟨lb, lo, none⟩) lc (some ⟨xb, xo, none⟩) xc ps Cs xs rs j yb X.N (i + 1) [.int .i64 (X.N : Int), .slice X.ba X.C.buf.length X.bc, .slice b2 (X.C.S ++ [(g, 0, v)]).length e2, .slice X.ra X.C.R.length X.rc, .bool X.C.cl] (w5.setCell ⟨yb, 2, none⟩ (.slice b2 (X.C.S.length + 1) e2)) := by
                    rw [← hln]; exact ⟨⟨X.N, ⟨X.C.buf, X.C.S ++ [(g, 0, v)], X.C.R, X.C.cl⟩, X.ba, X.bc, b2, e2, X.ra, X.rc⟩, _, ab, _, rfl, rfl, ⟨List.mem_cons_of_mem _ HX.out.2.2.2.1, List.mem_cons_self, List.mem_cons_of_mem _ HX.out.2.2.2.2.2⟩, fun q hq => List.mem_cons_of_mem _ hq, by have := HLM.out; simp only [List.length_append, List.length_cons, List.length_nil]; omega, o6⟩
                  have HP := Lib.hid hP
                  have hbs := chg_setC hb5 (b := yb) (k := 2) (.slice b2 (X.C.S.length + 1) e2)
                  clear hrow o6 hP k2 ch2 f2 hf5
                  refine HKK.out _ _ (HPP.out _ hb5) ?_
                  clear HKK K
                  refine wpAnyH_seg 11 1 _ #[true, true, true, true, true, true, true, true, true, true, true, true, false] 1 (by kernel_rfl) noPanic_put (HPP.out _ hb5) (by kernel_rfl) ?_
                  simp only [List.take_succ_cons, List.take_zero, List.drop_succ_cons, List.drop_zero]
                  repeat (first
                    | (refine wpSegH_no (by rfl) ?_; simp only [Act.put, List.setIfInBounds_toArray, List.set_cons_zero, List.set_cons_succ])
                    | (refine wpSegH_yes (by rfl) ?_; apply Exists.intro; apply And.intro; (· (intro wx hS; (try dsimp only at hS); go_simp; first | done | with_reducible rfl)); simp only [Act.put, List.setIfInBounds_toArray, List.set_cons_zero, List.set_cons_succ]))
                  refine wpSegH_nil ?_
                  refine wpAnyH_one 12 _ #[true, true, true, true, true, true, true, true, true, true, true, true, true] 0 (by kernel_rfl) (fun K hK => ?_)
                  have HKK := Lib.hid hK
                  clear hK
                  simp only [List.drop_succ_cons, List.drop_zero]
                  refine headH_mk (by rfl) ?_
                  go_simp
                  refine HKK.out _ _ (HPQ.out _ hbs) ?_
                  clear HKK K
                  refine wpAnyH_done (by kernel_rfl) (NoPanic.normal ?_) _
                  go_wp2_with fail
                  go_meet
                  exact ⟨rfl, _, _, _, _, _, HP.out⟩
              · skip
                have HKK := Lib.hid hK
                clear hK
                simp only [List.drop_succ_cons, List.drop_zero]
                refine headH_mk (by rfl) ?_
                go_simp
                refine HKK.out _ _ (HPP.out _ (by repeat (first | exact Below.refl _ _ | refine Below.drew ?_ | refine below_drewN ?_ _ | refine Below.alloc ?_ (by first | (simp; done) | (simp; omega)) _))) ?_
                clear HKK K
                refine wpAnyH_two 0 9 _ #[true, true, true, false, true, true, true, true, true, false, false, false, false] #[false, true, true, false, true, true, true, true, true, true, false, false, false] 5 (by kernel_rfl) (fun K hK => ?_) (fun K hK => ?_)
                · skip
                  have HKK := Lib.hid hK
                  clear hK
                  simp only [List.drop_zero]
                  refine headH_mk (by rfl) ?_
                  go_simp
                  refine HKK.out _ _ (HPP.out _ (by repeat (first | exact Below.refl _ _ | refine Below.drew ?_ | refine below_drewN ?_ _ | refine Below.alloc ?_ (by first | (simp; done) | (simp; omega)) _))) ?_
                  clear HKK K
                  refine wpAnyH_two 3 9 _ #[true, true, true, true, true, true, true, true, true, false, false, false, false] #[true, true, true, false, true, true, true, true, true, true, false, false, false] 4 (by kernel_rfl) (fun K hK => ?_) (fun K hK => ?_)
                  · skip
                    have HKK := Lib.hid hK
                    clear hK
                    simp only [List.drop_succ_cons, List.drop_zero]
                    refine headH_mk (by rfl) ?_
                    refine wp_append_rowG (n := 0) (m := X.C.S.length) (cs := []) (ds := wtc X.C.S) _ _ 51 (by rfl) 66 i0 _ Try.underlying51 Hi.out Hz0.out Hz1.out Hz2.out rfl (by omega) (by omega) (by rfl) (by rfl) (RowG.zero (by first | (simp; done) | (simp; omega))) (HROW.out.below (by repeat (first | exact Below.refl _ _ | refine Below.drew ?_ | refine below_drewN ?_ _ | refine Below.alloc ?_ (by first | (simp; done) | (simp; omega)) _))).cells (by rw [wtc_len]) (wtc_one _) (by omega) ?_
                    intro b1 e1 w4 k1 ch1 f1
                    have hb4 : Below W.heap.size W w4 := Chg.below (by repeat (first | exact Below.refl _ _ | refine Below.drew ?_ | refine below_drewN ?_ _ | refine Below.alloc ?_ (by first | (simp; done) | (simp; omega)) _)) ch1 (fun x hx => by simp [blk] at hx; omega)
                    have hf4 : ∀ x ∈ blk b1, W.heap.size ≤ x := fun x hx => by
                      rcases f1 x hx with h | h
                      · simp [blk] at h; omega
                      · first | omega | (simp at h; omega)
                    have K1 : Hid (RowG 3 w4 b1 e1 X.C.S.length (wtc X.C.S)) := Lib.hid (by simpa using k1)
                    have CH1 := Lib.hid ch1
                    clear k1 ch1 f1
                    refine HKK.out _ _ (HPP.out _ hb4) ?_
                    rw [Nat.zero_add]
                    clear HKK K
                    refine wpAnyH_one 9 _ #[true, true, true, true, true, true, true, true, true, true, false, false, false] 3 (by kernel_rfl) (fun K hK => ?_)
                    have HKK := Lib.hid hK
                    clear hK
                    simp only [List.drop_succ_cons, List.drop_zero]
                    refine headH_mk (by rfl) ?_
                    go_simp
                    refine HKK.out _ _ (HPP.out _ (below_on hb4 (by repeat (first | exact Below.refl _ _ | refine Below.drew ?_ | refine below_drewN ?_ _ | refine Below.alloc ?_ (by first | (simp; done) | (simp; omega)) _)))) ?_
                    clear HKK K
                    refine wpAnyH_one 10 _ #[true, true, true, true, true, true, true, true, true, true, true, false, false] 2 (by kernel_rfl) (fun K hK => ?_)
                    have HKK := Lib.hid hK
                    clear hK
                    simp only [List.drop_succ_cons, List.drop_zero]
                    refine headH_mk (by rfl) ?_
                    refine wp_append_rowG (n := X.C.S.length) (m := 1) (cs := wtc X.C.S) (ds := wtc [(g, 0, v)]) _ _ 51 (by rfl) 66 i0 _ Try.underlying51 Hi.out Hz0.out Hz1.out Hz2.out rfl (by omega) (by omega) (by first | rfl | simp) (by rfl) (K1.out.below (by repeat (first | exact Below.refl _ _ | refine Below.drew ?_ | refine below_drewN ?_ _ | refine Below.alloc ?_ (by first | (simp; done) | (simp; omega)) _))) (CellsAt.new _ (wtc [(g, 0, v)]) _ (by first | rfl | simp)) rfl (wtc_one _) (by omega) ?_
                    intro b2 e2 w5 k2 ch2 f2
                    have hb5 : Below W.heap.size W w5 := Chg.below (below_on hb4 (by repeat (first | exact Below.refl _ _ | refine Below.drew ?_ | refine below_drewN ?_ _ | refine Below.alloc ?_ (by first | (simp; done) | (simp; omega)) _))) ch2 (fun x hx => hf4 x hx)
                    have hf5 : ∀ x ∈ blk b2, W.heap.size ≤ x := fun x hx => by
                      rcases f2 x hx with h | h
                      · exact hf4 x h
                      · have := hb4.size; first | omega | (simp at h; omega)
                    obtain ⟨x2', xm2'⟩ := (HWO.out.step hb5).celIn 2 _ rfl
                    have hrow : RowG 3 w5 b2 e2 (X.C.S ++ [(g, 0, v)]).length (wtc (X.C.S ++ [(g, 0, v)])) := by rw [hln, wtc_app]; exact k2
                    have o6 := (Own.rAddIn HWO.out hb5 hrow hf5).setIn 2 (.slice b2 (X.C.S ++ [(g, 0, v)]).length e2)
                    have hP : MidM w (some ⟨lb, lo, none⟩) lc (some ⟨xb, xo, none⟩) xc ps Cs xs rs j yb X.N (i + 1) [.int .i64 (X.N : Int), .slice X.ba X.C.buf.length X.bc, .slice b2 (X.C.S ++ [(g, 0, v)]).length e2, .slice X.ra X.C.R.length X.rc, .bool X.C.cl] (w5.setCell ⟨yb, 2, none⟩ (.slice b2 (X.C.S.length + 1) e2)) := by
                      rw [← hln]; exact ⟨⟨X.N, ⟨X.C.buf, X.C.S ++ [(g, 0, v)], X.C.R, X.C.cl⟩, X.ba, X.bc, b2, e2, X.ra, X.rc⟩, _, ab, _, rfl, rfl, ⟨List.mem_cons_of_mem _ HX.out.2.2.2.1, List.mem_cons_self, List.mem_cons_of_mem _ HX.out.2.2.2.2.2⟩, fun q hq => List.mem_cons_of_mem _ hq, by have := HLM.out; simp only [List.length_append, List.length_cons, List.length_nil]; omega, o6⟩
                    have HP := Lib.hid hP
                    have hbs := chg_setC hb5 (b := yb) (k := 2) (.slice b2 (X.C.S.length + 1) e2)
                    clear hrow o6 hP k2 ch2 f2 hf5
                    refine HKK.out _ _ (HPP.out _ hb5) ?_
                    clear HKK K
                    refine wpAnyH_seg 11 1 _ #[true, true, true, true, true, true, true, true, true, true, true, true, false] 1 (by kernel_rfl) noPanic_put (HPP.out _ hb5) (by kernel_rfl) ?_
                    simp only [List.take_succ_cons, List.take_zero, List.drop_succ_cons, List.drop_zero]
                    repeat (first
                      | (refine wpSegH_no (by rfl) ?_; simp only [Act.put, List.setIfInBounds_toArray, List.set_cons_zero, List.set_cons_succ])
                      | (refine wpSegH_yes (by rfl) ?_; apply Exists.intro; apply And.intro; (· (intro wx hS; (try dsimp only at hS); go_simp; first | done | with_reducible rfl)); simp only [Act.put, List.setIfInBounds_toArray, List.set_cons_zero, List.set_cons_succ]))
                    refine wpSegH_nil ?_
                    refine wpAnyH_one 12 _ #[true, true, true, true, true, true, true, true, true, true, true, true, true] 0 (by kernel_rfl) (fun K hK => ?_)
                    have HKK := Lib.hid hK
                    clear hK
                    simp only [List.drop_succ_cons, List.drop_zero]
                    refine headH_mk (by rfl) ?_
                    go_simp
                    refine HKK.out _ _ (HPQ.out _ hbs) ?_
                    clear HKK K
                    refine wpAnyH_done (by kernel_rfl) (NoPanic.normal ?_) _
                    go_wp2_with fail
                    go_meet
                    exact ⟨rfl, _, _, _, _, _, HP.out⟩
                  · skip
                    have HKK := Lib.hid hK
                    clear hK
                    simp only [List.drop_succ_cons, List.drop_zero]
                    refine headH_mk (by rfl) ?_
                    go_simp
                    refine HKK.out _ _ (HPP.out _ (by repeat (first | exact Below.refl _ _ | refine Below.drew ?_ | refine below_drewN ?_ _ | refine Below.alloc ?_ (by first | (simp; done) | (simp; omega)) _))) ?_
                    clear HKK K
                    refine wpAnyH_one 3 _ #[true, true, true, true, true, true, true, true, true, true, false, false, false] 3 (by kernel_rfl) (fun K hK => ?_)
                    have HKK := Lib.hid hK
                    clear hK
                    simp only [List.drop_succ_cons, List.drop_zero]
                    refine headH_mk (by rfl) ?_
                    refine wp_append_rowG (n := 0) (m := X.C.S.length) (cs := []) (ds := wtc X.C.S) _ _ 51 (by rfl) 66 i0 _ Try.underlying51 Hi.out Hz0.out Hz1.out Hz2.out rfl (by omega) (by omega) (by rfl) (by rfl) (RowG.zero (by first | (simp; done) | (simp; omega))) (HROW.out.below (by repeat (first | exact Below.refl _ _ | refine Below.drew ?_ | refine below_drewN ?_ _ | refine Below.alloc ?_ (by first | (simp; done) | (simp; omega)) _))).cells (by rw [wtc_len]) (wtc_one _) (by omega) ?_
                    intro b1 e1 w4 k1 ch1 f1
                    have hb4 : Below W.heap.size W w4 := Chg.below (by repeat (first | exact Below.refl _ _ | refine Below.drew ?_ | refine below_drewN ?_ _ | refine Below.alloc ?_ (by first | (simp; done) | (simp; omega)) _)) ch1 (fun x hx => by simp [blk] at hx; omega)
                    have hf4 : ∀ x ∈ blk b1, W.heap.size ≤ x := fun x hx => by
                      rcases f1 x hx with h | h
                      · simp [blk] at h; omega
                      · first | omega | (simp at h; omega)
                    have K1 : Hid (RowG 3 w4 b1 e1 X.C.S.length (wtc X.C.S)) := Lib.hid (by simpa using k1)
                    have CH1 := Lib.hid ch1
                    clear k1 ch1 f1
                    refine HKK.out _ _ (HPP.out _ hb4) ?_
                    rw [Nat.zero_add]
                    clear HKK K
                    refine wpAnyH_one 10 _ #[true, true, true, true, true, true, true, true, true, true, true, false, false] 2 (by kernel_rfl) (fun K hK => ?_)
                    have HKK := Lib.hid hK
                    clear hK
                    simp only [List.drop_succ_cons, List.drop_zero]
                    refine headH_mk (by rfl) ?_
                    refine wp_append_rowG (n := X.C.S.length) (m := 1) (cs := wtc X.C.S) (ds := wtc [(g, 0, v)]) _ _ 51 (by rfl) 66 i0 _ Try.underlying51 Hi.out Hz0.out Hz1.out Hz2.out rfl (by omega) (by omega) (by first | rfl | simp) (by rfl) K1.out (CellsAt.chg (by first | exact CellsAt.new _ (wtc [(g, 0, v)]) _ (by first | rfl | simp) | exact CellsAt.below (CellsAt.new _ (wtc [(g, 0, v)]) _ (by first | rfl | simp)) (by repeat (first | exact Below.refl _ _ | refine Below.drew ?_ | refine below_drewN ?_ _ | refine Below.alloc ?_ (by first | (simp; done) | (simp; omega)) _))) CH1.out (by simp [blk])) rfl (wtc_one _) (by omega) ?_
                    intro b2 e2 w5 k2 ch2 f2
                    have hb5 : Below W.heap.size W w5 := Chg.below hb4 ch2 (fun x hx => hf4 x hx)
                    have hf5 : ∀ x ∈ blk b2, W.heap.size ≤ x := fun x hx => by
                      rcases f2 x hx with h | h
                      · exact hf4 x h
                      · have := hb4.size; first | omega | (simp at h; omega)
                    obtain ⟨x2', xm2'⟩ := (HWO.out.step hb5).celIn 2 _ rfl
                    have hrow : RowG 3 w5 b2 e2 (X.C.S ++ [(g, 0, v)]).length (wtc (X.C.S ++ [(g, 0, v)])) := by rw [hln, wtc_app]; exact k2
                    have o6 := (Own.rAddIn HWO.out hb5 hrow hf5).setIn 2 (.slice b2 (X.C.S ++ [(g, 0, v)]).length e2)
                    have hP : MidM w (some ⟨lb, lo, none⟩) lc (some ⟨xb, xo, none⟩) xc ps Cs xs rs j yb X.N (i + 1) [.int .i64 (X.N : Int), .slice X.ba X.C.buf.length X.bc, .slice b2 (X.C.S ++ [(g, 0, v)]).length e2, .slice X.ra X.C.R.length X.rc, .bool X.C.cl] (w5.setCell ⟨yb, 2, none⟩ (.slice b2 (X.C.S.length + 1) e2)) := by
                      rw [← hln]; exact ⟨⟨X.N, ⟨X.C.buf, X.C.S ++ [(g, 0, v)], X.C.R, X.C.cl⟩, X.ba, X.bc, b2, e2, X.ra, X.rc⟩, _, ab, _, rfl, rfl, ⟨List.mem_cons_of_mem _ HX.out.2.2.2.1, List.mem_cons_self, List.mem_cons_of_mem _ HX.out.2.2.2.2.2⟩, fun q hq => List.mem_cons_of_mem _ hq, by have := HLM.out; simp only [List.length_append, List.length_cons, List.length_nil]; omega, o6⟩
                    have HP := Lib.hid hP
                    have hbs := chg_setC hb5 (b := yb) (k := 2) (.slice b2 (X.C.S.length + 1) e2)
                    clear hrow o6 hP k2 ch2 f2 hf5
                    refine HKK.out _ _ (HPP.out _ hb5) ?_
                    clear HKK K
                    refine wpAnyH_seg 11 1 _ #[true, true, true, true, true, true, true, true, true, true, true, true, false] 1 (by kernel_rfl) noPanic_put (HPP.out _ hb5) (by kernel_rfl) ?_
                    simp only [List.take_succ_cons, List.take_zero, List.drop_succ_cons, List.drop_zero]
                    repeat (first
                      | (refine wpSegH_no (by rfl) ?_; simp only [Act.put, List.setIfInBounds_toArray, List.set_cons_zero, List.set_cons_succ])
                      | (refine wpSegH_yes (by rfl) ?_; apply Exists.intro; apply And.intro; (· (intro wx hS; (try dsimp only at hS); go_simp; first | done | with_reducible rfl)); simp only [Act.put, List.setIfInBounds_toArray, List.set_cons_zero, List.set_cons_succ]))
                    refine wpSegH_nil ?_
                    refine wpAnyH_one 12 _ #[true, true, true, true, true, true, true, true, true, true, true, true, true] 0 (by kernel_rfl) (fun K hK => ?_)
                    have HKK := Lib.hid hK
                    clear hK
                    simp only [List.drop_succ_cons, List.drop_zero]
                    refine headH_mk (by rfl) ?_
                    go_simp
                    refine HKK.out _ _ (HPQ.out _ hbs) ?_
                    clear HKK K
                    refine wpAnyH_done (by kernel_rfl) (NoPanic.normal ?_) _
                    go_wp2_with fail
                    go_meet
                    exact ⟨rfl, _, _, _, _, _, HP.out⟩
                · skip
                  have HKK := Lib.hid hK
                  clear hK
                  simp only [List.drop_succ_cons, List.drop_zero]
                  refine headH_mk (by rfl) ?_
                  go_simp
                  refine HKK.out _ _ (HPP.out _ (by repeat (first | exact Below.refl _ _ | refine Below.drew ?_ | refine below_drewN ?_ _ | refine Below.alloc ?_ (by first | (simp; done) | (simp; omega)) _))) ?_
                  clear HKK K
                  refine wpAnyH_one 0 _ #[true, true, true, false, true, true, true, true, true, true, false, false, false] 4 (by kernel_rfl) (fun K hK => ?_)
                  have HKK := Lib.hid hK
                  clear hK
                  simp only [List.drop_zero]
                  refine headH_mk (by rfl) ?_
                  go_simp
                  refine HKK.out _ _ (HPP.out _ (by repeat (first | exact Below.refl _ _ | refine Below.drew ?_ | refine below_drewN ?_ _ | refine Below.alloc ?_ (by first | (simp; done) | (simp; omega)) _))) ?_
                  clear HKK K
                  refine wpAnyH_one 3 _ #[true, true, true, true, true, true, true, true, true, true, false, false, false] 3 (by kernel_rfl) (fun K hK => ?_)
                  have HKK := Lib.hid hK
                  clear hK
                  simp only [List.drop_succ_cons, List.drop_zero]
                  refine headH_mk (by rfl) ?_
                  refine wp_append_rowG (n := 0) (m := X.C.S.length) (cs := []) (ds := wtc X.C.S) _ _ 51 (by rfl) 66 i0 _ Try.underlying51 Hi.out Hz0.out Hz1.out Hz2.out rfl (by omega) (by omega) (by rfl) (by rfl) (RowG.zero (by first | (simp; done) | (simp; omega))) (HROW.out.below (by repeat (first | exact Below.refl _ _ | refine Below.drew ?_ | refine below_drewN ?_ _ | refine Below.alloc ?_ (by first | (simp; done) | (simp; omega)) _))).cells (by rw [wtc_len]) (wtc_one _) (by omega) ?_
                  intro b1 e1 w4 k1 ch1 f1
                  have hb4 : Below W.heap.size W w4 := Chg.below (by repeat (first | exact Below.refl _ _ | refine Below.drew ?_ | refine below_drewN ?_ _ | refine Below.alloc ?_ (by first | (simp; done) | (simp; omega)) _)) ch1 (fun x hx => by simp [blk] at hx; omega)
                  have hf4 : ∀ x ∈ blk b1, W.heap.size ≤ x := fun x hx => by
                    rcases f1 x hx with h | h
                    · simp [blk] at h; omega
                    · first | omega | (simp at h; omega)
                  have K1 : Hid (RowG 3 w4 b1 e1 X.C.S.length (wtc X.C.S)) := Lib.hid (by simpa using k1)
                  have CH1 := Lib.hid ch1
                  clear k1 ch1 f1
                  refine HKK.out _ _ (HPP.out _ hb4) ?_
                  rw [Nat.zero_add]
                  clear HKK K
                  refine wpAnyH_one 10 _ #[true, true, true, true, true, true, true, true, true, true, true, false, false] 2 (by kernel_rfl) (fun K hK => ?_)
                  have HKK := Lib.hid hK
                  clear hK
                  simp only [List.drop_succ_cons, List.drop_zero]
                  refine headH_mk (by rfl) ?_
                  refine wp_append_rowG (n := X.C.S.length) (m := 1) (cs := wtc X.C.S) (ds := wtc [(g, 0, v)]) _ _ 51 (by rfl) 66 i0 _ Try.underlying51 Hi.out Hz0.out Hz1.out Hz2.out rfl (by omega) (by omega) (by first | rfl | simp) (by rfl) K1.out (CellsAt.chg (by first | exact CellsAt.new _ (wtc [(g, 0, v)]) _ (by first | rfl | simp) | exact CellsAt.below (CellsAt.new _ (wtc [(g, 0, v)]) _ (by first | rfl | simp)) (by repeat (first | exact Below.refl _ _ | refine Below.drew ?_ | refine below_drewN ?_ _ | refine Below.alloc ?_ (by first | (simp; done) | (simp; omega)) _))) CH1.out (by simp [blk])) rfl (wtc_one _) (by omega) ?_
                  intro b2 e2 w5 k2 ch2 f2
                  have hb5 : Below W.heap.size W w5 := Chg.below hb4 ch2 (fun x hx => hf4 x hx)
                  have hf5 : ∀ x ∈ blk b2, W.heap.size ≤ x := fun x hx => by
                    rcases f2 x hx with h | h
                    · exact hf4 x h
                    · have := hb4.size; first | omega | (simp at h; omega)
                  obtain ⟨x2', xm2'⟩ := (HWO.out.step hb5).celIn 2 _ rfl
                  have hrow : RowG 3 w5 b2 e2 (X.C.S ++ [(g, 0, v)]).length (wtc (X.C.S ++ [(g, 0, v)])) := by rw [hln, wtc_app]; exact k2
                  have o6 := (Own.rAddIn HWO.out hb5 hrow hf5).setIn 2 (.slice b2 (X.C.S ++ [(g, 0, v)]).length e2)
                  have hP : MidM w (some ⟨lb, lo, none⟩) lc (some ⟨xb, xo, none⟩) xc ps Cs xs rs j yb X.N (i + 1) [.int .i64 (X.N : Int), .slice X.ba X.C.buf.length X.bc, .slice b2 (X.C.S ++ [(g, 0, v)]).length e2, .slice X.ra X.C.R.length X.rc, .bool X.C.cl] (w5.setCell ⟨yb, 2, none⟩ (.slice b2 (X.C.S.length + 1) e2)) := by
                    rw [← hln]; exact ⟨⟨X.N, ⟨X.C.buf, X.C.S ++ [(g, 0, v)], X.C.R, X.C.cl⟩, X.ba, X.bc, b2, e2, X.ra, X.rc⟩, _, ab, _, rfl, rfl, ⟨List.mem_cons_of_mem _ HX.out.2.2.2.1, List.mem_cons_self, List.mem_cons_of_mem _ HX.out.2.2.2.2.2⟩, fun q hq => List.mem_cons_of_mem _ hq, by have := HLM.out; simp only [List.length_append, List.length_cons, List.length_nil]; omega, o6⟩
                  have HP := Lib.hid hP
                  have hbs := chg_setC hb5 (b := yb) (k := 2) (.slice b2 (X.C.S.length + 1) e2)
                  clear hrow o6 hP k2 ch2 f2 hf5
                  refine HKK.out _ _ (HPP.out _ hb5) ?_
                  clear HKK K
                  refine wpAnyH_seg 11 1 _ #[true, true, true, true, true, true, true, true, true, true, true, true, false] 1 (by kernel_rfl) noPanic_put (HPP.out _ hb5) (by kernel_rfl) ?_
                  simp only [List.take_succ_cons, List.take_zero, List.drop_succ_cons, List.drop_zero]
                  repeat (first
                    | (refine wpSegH_no (by rfl) ?_; simp only [Act.put, List.setIfInBounds_toArray, List.set_cons_zero, List.set_cons_succ])
                    | (refine wpSegH_yes (by rfl) ?_; apply Exists.intro; apply And.intro; (· (intro wx hS; (try dsimp only at hS); go_simp; first | done | with_reducible rfl)); simp only [Act.put, List.setIfInBounds_toArray, List.set_cons_zero, List.set_cons_succ]))
                  refine wpSegH_nil ?_
                  refine wpAnyH_one 12 _ #[true, true, true, true, true, true, true, true, true, true, true, true, true] 0 (by kernel_rfl) (fun K hK => ?_)
                  have HKK := Lib.hid hK
                  clear hK
                  simp only [List.drop_succ_cons, List.drop_zero]
                  refine headH_mk (by rfl) ?_
                  go_simp
                  refine HKK.out _ _ (HPQ.out _ hbs) ?_
                  clear HKK K
                  refine wpAnyH_done (by kernel_rfl) (NoPanic.normal ?_) _
                  go_wp2_with fail
                  go_meet
                  exact ⟨rfl, _, _, _, _, _, HP.out⟩
              · skip
                have HKK := Lib.hid hK
                clear hK
                simp only [List.drop_succ_cons, List.drop_zero]
                refine headH_mk (by rfl) ?_
                go_simp
                refine HKK.out _ _ (HPP.out _ (by repeat (first | exact Below.refl _ _ | refine Below.drew ?_ | refine below_drewN ?_ _ | refine Below.alloc ?_ (by first | (simp; done) | (simp; omega)) _))) ?_
                clear HKK K
                refine wpAnyH_two 0 2 _ #[true, true, false, false, true, true, true, true, true, true, false, false, false] #[false, true, true, false, true, true, true, true, true, true, false, false, false] 5 (by kernel_rfl) (fun K hK => ?_) (fun K hK => ?_)
                · skip
                  have HKK := Lib.hid hK
                  clear hK
                  simp only [List.drop_zero]
                  refine headH_mk (by rfl) ?_
                  go_simp
                  refine HKK.out _ _ (HPP.out _ (by repeat (first | exact Below.refl _ _ | refine Below.drew ?_ | refine below_drewN ?_ _ | refine Below.alloc ?_ (by first | (simp; done) | (simp; omega)) _))) ?_
                  clear HKK K
                  refine wpAnyH_one 2 _ #[true, true, true, false, true, true, true, true, true, true, false, false, false] 4 (by kernel_rfl) (fun K hK => ?_)
                  have HKK := Lib.hid hK
                  clear hK
                  simp only [List.drop_succ_cons, List.drop_zero]
                  refine headH_mk (by rfl) ?_
                  go_simp
                  refine HKK.out _ _ (HPP.out _ (by repeat (first | exact Below.refl _ _ | refine Below.drew ?_ | refine below_drewN ?_ _ | refine Below.alloc ?_ (by first | (simp; done) | (simp; omega)) _))) ?_
                  clear HKK K
                  refine wpAnyH_one 3 _ #[true, true, true, true, true, true, true, true, true, true, false, false, false] 3 (by kernel_rfl) (fun K hK => ?_)
                  have HKK := Lib.hid hK
                  clear hK
                  simp only [List.drop_succ_cons, List.drop_zero]
                  refine headH_mk (by rfl) ?_
                  refine wp_append_rowG (n := 0) (m := X.C.S.length) (cs := []) (ds := wtc X.C.S) _ _ 51 (by rfl) 66 i0 _ Try.underlying51 Hi.out Hz0.out Hz1.out Hz2.out rfl (by omega) (by omega) (by rfl) (by rfl) (RowG.zero (by first | (simp; done) | (simp; omega))) (HROW.out.below (by repeat (first | exact Below.refl _ _ | refine Below.drew ?_ | refine below_drewN ?_ _ | refine Below.alloc ?_ (by first | (simp; done) | (simp; omega)) _))).cells (by rw [wtc_len]) (wtc_one _) (by omega) ?_
                  intro b1 e1 w4 k1 ch1 f1
                  have hb4 : Below W.heap.size W w4 := Chg.below (by repeat (first | exact Below.refl _ _ | refine Below.drew ?_ | refine below_drewN ?_ _ | refine Below.alloc ?_ (by first | (simp; done) | (simp; omega)) _)) ch1 (fun x hx => by simp [blk] at hx; omega)
                  have hf4 : ∀ x ∈ blk b1, W.heap.size ≤ x := fun x hx => by
                    rcases f1 x hx with h | h
                    · simp [blk] at h; omega
                    · first | omega | (simp at h; omega)
                  have K1 : Hid (RowG 3 w4 b1 e1 X.C.S.length (wtc X.C.S)) := Lib.hid (by simpa using k1)
                  have CH1 := Lib.hid ch1
                  clear k1 ch1 f1
                  refine HKK.out _ _ (HPP.out _ hb4) ?_
                  rw [Nat.zero_add]
                  clear HKK K
                  refine wpAnyH_one 10 _ #[true, true, true, true, true, true, true, true, true, true, true, false, false] 2 (by kernel_rfl) (fun K hK => ?_)
                  have HKK := Lib.hid hK
                  clear hK
                  simp only [List.drop_succ_cons, List.drop_zero]
                  refine headH_mk (by rfl) ?_
                  refine wp_append_rowG (n := X.C.S.length) (m := 1) (cs := wtc X.C.S) (ds := wtc [(g, 0, v)]) _ _ 51 (by rfl) 66 i0 _ Try.underlying51 Hi.out Hz0.out Hz1.out Hz2.out rfl (by omega) (by omega) (by first | rfl | simp) (by rfl) K1.out (CellsAt.chg (by first | exact CellsAt.new _ (wtc [(g, 0, v)]) _ (by first | rfl | simp) | exact CellsAt.below (CellsAt.new _ (wtc [(g, 0, v)]) _ (by first | rfl | simp)) (by repeat (first | exact Below.refl _ _ | refine Below.drew ?_ | refine below_drewN ?_ _ | refine Below.alloc ?_ (by first | (simp; done) | (simp; omega)) _))) CH1.out (by simp [blk])) rfl (wtc_one _) (by omega) ?_
                  intro b2 e2 w5 k2 ch2 f2
                  have hb5 : Below W.heap.size W w5 := Chg.below hb4 ch2 (fun x hx => hf4 x hx)
                  have hf5 : ∀ x ∈ blk b2, W.heap.size ≤ x := fun x hx => by
                    rcases f2 x hx with h | h
                    · exact hf4 x h
                    · have := hb4.size; first | omega | (simp at h; omega)
                  obtain ⟨x2', xm2'⟩ := (HWO.out.step hb5).celIn 2 _ rfl
                  have hrow : RowG 3 w5 b2 e2 (X.C.S ++ [(g, 0, v)]).length (wtc (X.C.S ++ [(g, 0, v)])) := by rw [hln, wtc_app]; exact k2
                  have o6 := (Own.rAddIn HWO.out hb5 hrow hf5).setIn 2 (.slice b2 (X.C.S ++ [(g, 0, v)]).length e2)
                  have hP : MidM w (some ⟨lb, lo, none⟩) lc (some ⟨xb, xo, none⟩) xc ps Cs xs rs j yb X.N (i + 1) [.int .i64 (X.N : Int), .slice X.ba X.C.buf.length X.bc, .slice b2 (X.C.S ++ [(g, 0, v)]).length e2, .slice X.ra X.C.R.length X.rc, .bool X.C.cl] (w5.setCell ⟨yb, 2, none⟩ (.slice b2 (X.C.S.length + 1) e2)) := by
                    rw [← hln]; exact ⟨⟨X.N, ⟨X.C.buf, X.C.S ++ [(g, 0, v)], X.C.R, X.C.cl⟩, X.ba, X.bc, b2, e2, X.ra, X.rc⟩, _, ab, _, rfl, rfl, ⟨List.mem_cons_of_mem _ HX.out.2.2.2.1, List.mem_cons_self, List.mem_cons_of_mem _ HX.out.2.2.2.2.2⟩, fun q hq => List.mem_cons_of_mem _ hq, by have := HLM.out; simp only [List.length_append, List.length_cons, List.length_nil]; omega, o6⟩
                  have HP := Lib.hid hP
                  have hbs := chg_setC hb5 (b := yb) (k := 2) (.slice b2 (X.C.S.length + 1) e2)
                  clear hrow o6 hP k2 ch2 f2 hf5
                  refine HKK.out _ _ (HPP.out _ hb5) ?_
                  clear HKK K
                  refine wpAnyH_seg 11 1 _ #[true, true, true, true, true, true, true, true, true, true, true, true, false] 1 (by kernel_rfl) noPanic_put (HPP.out _ hb5) (by kernel_rfl) ?_
                  simp only [List.take_succ_cons, List.take_zero, List.drop_succ_cons, List.drop_zero]
                  repeat (first
                    | (refine wpSegH_no (by rfl) ?_; simp only [Act.put, List.setIfInBounds_toArray, List.set_cons_zero, List.set_cons_succ])
                    | (refine wpSegH_yes (by rfl) ?_; apply Exists.intro; apply And.intro; (· (intro wx hS; (try dsimp only at hS); go_simp; first | done | with_reducible rfl)); simp only [Act.put, List.setIfInBounds_toArray, List.set_cons_zero, List.set_cons_succ]))
                  refine wpSegH_nil ?_
                  refine wpAnyH_one 12 _ #[true, true, true, true, true, true, true, true, true, true, true, true, true] 0 (by kernel_rfl) (fun K hK => ?_)
                  have HKK := Lib.hid hK
                  clear hK
                  simp only [List.drop_succ_cons, List.drop_zero]
                  refine headH_mk (by rfl) ?_
                  go_simp
                  refine HKK.out _ _ (HPQ.out _ hbs) ?_
                  clear HKK K
                  refine wpAnyH_done (by kernel_rfl) (NoPanic.normal ?_) _
                  go_wp2_with fail
                  go_meet
                  exact ⟨rfl, _, _, _, _, _, HP.out⟩
                · skip
                  have HKK := Lib.hid hK
                  clear hK
                  simp only [List.drop_succ_cons, List.drop_zero]
                  refine headH_mk (by rfl) ?_
                  go_simp
                  refine HKK.out _ _ (HPP.out _ (by repeat (first | exact Below.refl _ _ | refine Below.drew ?_ | refine below_drewN ?_ _ | refine Below.alloc ?_ (by first | (simp; done) | (simp; omega)) _))) ?_
                  clear HKK K
                  refine wpAnyH_one 0 _ #[true, true, true, false, true, true, true, true, true, true, false, false, false] 4 (by kernel_rfl) (fun K hK => ?_)
                  have HKK := Lib.hid hK
                  clear hK
                  simp only [List.drop_zero]
                  refine headH_mk (by rfl) ?_
                  go_simp
                  refine HKK.out _ _ (HPP.out _ (by repeat (first | exact Below.refl _ _ | refine Below.drew ?_ | refine below_drewN ?_ _ | refine Below.alloc ?_ (by first | (simp; done) | (simp; omega)) _))) ?_
                  clear HKK K
                  refine wpAnyH_one 3 _ #[true, true, true, true, true, true, true, true, true, true, false, false, false] 3 (by kernel_rfl) (fun K hK => ?_)
                  have HKK := Lib.hid hK
                  clear hK
                  simp only [List.drop_succ_cons, List.drop_zero]
                  refine headH_mk (by rfl) ?_
                  refine wp_append_rowG (n := 0) (m := X.C.S.length) (cs := []) (ds := wtc X.C.S) _ _ 51 (by rfl) 66 i0 _ Try.underlying51 Hi.out Hz0.out Hz1.out Hz2.out rfl (by omega) (by omega) (by rfl) (by rfl) (RowG.zero (by first | (simp; done) | (simp; omega))) (HROW.out.below (by repeat (first | exact Below.refl _ _ | refine Below.drew ?_ | refine below_drewN ?_ _ | refine Below.alloc ?_ (by first | (simp; done) | (simp; omega)) _))).cells (by rw [wtc_len]) (wtc_one _) (by omega) ?_
                  intro b1 e1 w4 k1 ch1 f1
                  have hb4 : Below W.heap.size W w4 := Chg.below (by repeat (first | exact Below.refl _ _ | refine Below.drew ?_ | refine below_drewN ?_ _ | refine Below.alloc ?_ (by first | (simp; done) | (simp; omega)) _)) ch1 (fun x hx => by simp [blk] at hx; omega)
                  have hf4 : ∀ x ∈ blk b1, W.heap.size ≤ x := fun x hx => by
                    rcases f1 x hx with h | h
                    · simp [blk] at h; omega
                    · first | omega | (simp at h; omega)
                  have K1 : Hid (RowG 3 w4 b1 e1 X.C.S.length (wtc X.C.S)) := Lib.hid (by simpa using k1)
                  have CH1 := Lib.hid ch1
                  clear k1 ch1 f1
                  refine HKK.out _ _ (HPP.out _ hb4) ?_
                  rw [Nat.zero_add]
                  clear HKK K
                  refine wpAnyH_one 10 _ #[true, true, true, true, true, true, true, true, true, true, true, false, false] 2 (by kernel_rfl) (fun K hK => ?_)
                  have HKK := Lib.hid hK
                  clear hK
                  simp only [List.drop_succ_cons, List.drop_zero]
                  refine headH_mk (by rfl) ?_
                  refine wp_append_rowG (n := X.C.S.length) (m := 1) (cs := wtc X.C.S) (ds := wtc [(g, 0, v)]) _ _ 51 (by rfl) 66 i0 _ Try.underlying51 Hi.out Hz0.out Hz1.out Hz2.out rfl (by omega) (by omega) (by first | rfl | simp) (by rfl) K1.out (CellsAt.chg (by first | exact CellsAt.new _ (wtc [(g, 0, v)]) _ (by first | rfl | simp) | exact CellsAt.below (CellsAt.new _ (wtc [(g, 0, v)]) _ (by first | rfl | simp)) (by repeat (first | exact Below.refl _ _ | refine Below.drew ?_ | refine below_drewN ?_ _ | refine Below.alloc ?_ (by first | (simp; done) | (simp; omega)) _))) CH1.out (by simp [blk])) rfl (wtc_one _) (by omega) ?_
                  intro b2 e2 w5 k2 ch2 f2
                  have hb5 : Below W.heap.size W w5 := Chg.below hb4 ch2 (fun x hx => hf4 x hx)
                  have hf5 : ∀ x ∈ blk b2, W.heap.size ≤ x := fun x hx => by
                    rcases f2 x hx with h | h
                    · exact hf4 x h
                    · have := hb4.size; first | omega | (simp at h; omega)
                  obtain ⟨x2', xm2'⟩ := (HWO.out.step hb5).celIn 2 _ rfl
                  have hrow : RowG 3 w5 b2 e2 (X.C.S ++ [(g, 0, v)]).length (wtc (X.C.S ++ [(g, 0, v)])) := by rw [hln, wtc_app]; exact k2
                  have o6 := (Own.rAddIn HWO.out hb5 hrow hf5).setIn 2 (.slice b2 (X.C.S ++ [(g, 0, v)]).length e2)
                  have hP : MidM w (some ⟨lb, lo, none⟩) lc (some ⟨xb, xo, none⟩) xc ps Cs xs rs j yb X.N (i + 1) [.int .i64 (X.N : Int), .slice X.ba X.C.buf.length X.bc, .slice b2 (X.C.S ++ [(g, 0, v)]).length e2, .slice X.ra X.C.R.length X.rc, .bool X.C.cl] (w5.setCell ⟨yb, 2, none⟩ (.slice b2 (X.C.S.length + 1) e2)) := by
                    rw [← hln]; exact ⟨⟨X.N, ⟨X.C.buf, X.C.S ++ [(g, 0, v)], X.C.R, X.C.cl⟩, X.ba, X.bc, b2, e2, X.ra, X.rc⟩, _, ab, _, rfl, rfl, ⟨List.mem_cons_of_mem _ HX.out.2.2.2.1, List.mem_cons_self, List.mem_cons_of_mem _ HX.out.2.2.2.2.2⟩, fun q hq => List.mem_cons_of_mem _ hq, by have := HLM.out; simp only [List.length_append, List.length_cons, List.length_nil]; omega, o6⟩
                  have HP := Lib.hid hP
                  have hbs := chg_setC hb5 (b := yb) (k := 2) (.slice b2 (X.C.S.length + 1) e2)
                  clear hrow o6 hP k2 ch2 f2 hf5
                  refine HKK.out _ _ (HPP.out _ hb5) ?_
                  clear HKK K
                  refine wpAnyH_seg 11 1 _ #[true, true, true, true, true, true, true, true, true, true, true, true, false] 1 (by kernel_rfl) noPanic_put (HPP.out _ hb5) (by kernel_rfl) ?_
                  simp only [List.take_succ_cons, List.take_zero, List.drop_succ_cons, List.drop_zero]
                  repeat (first
                    | (refine wpSegH_no (by rfl) ?_; simp only [Act.put, List.setIfInBounds_toArray, List.set_cons_zero, List.set_cons_succ])
                    | (refine wpSegH_yes (by rfl) ?_; apply Exists.intro; apply And.intro; (· (intro wx hS; (try dsimp only at hS); go_simp; first | done | with_reducible rfl)); simp only [Act.put, List.setIfInBounds_toArray, List.set_cons_zero, List.set_cons_succ]))
                  refine wpSegH_nil ?_
                  refine wpAnyH_one 12 _ #[true, true, true, true, true, true, true, true, true, true, true, true, true] 0 (by kernel_rfl) (fun K hK => ?_)
                  have HKK := Lib.hid hK
                  clear hK
                  simp only [List.drop_succ_cons, List.drop_zero]
                  refine headH_mk (by rfl) ?_
                  go_simp
                  refine HKK.out _ _ (HPQ.out _ hbs) ?_
                  clear HKK K
                  refine wpAnyH_done (by kernel_rfl) (NoPanic.normal ?_) _
                  go_wp2_with fail
                  go_meet
                  exact ⟨rfl, _, _, _, _, _, HP.out⟩
            · skip
              have c2 : W3.cell? ⟨ab, 2, none⟩ = some (.int .i64 g) := (O3.out.cel ((chs ps Cs).length + 4) (at4 _ _ _ _ _ _ _) 2 _ rfl).1
              have c3 : W3.cell? ⟨ab, 3, none⟩ = some (.int .i64 v) := (O3.out.cel ((chs ps Cs).length + 4) (at4 _ _ _ _ _ _ _) 3 _ rfl).1
              obtain ⟨R', hR, hback⟩ := O3.out.chPick HX.out.2.2.1 HX.out.2.1
              have hl2 : X.C.R.length ≤ 1000 := by have := HLM.out; omega
              have hsc := cwaitr_any (buf := X.C.buf) (S := X.C.S) (Rv := X.C.R) (cl := X.C.cl) hR (g, 0, 0) (by omega)
              unfold wv at hsc
              simp only at hsc
              have HSC := Lib.hid hsc
              have HBK := Lib.hid hback
              clear hsc hR hback W
              go_wp2_with fail
              refine HSC.out.mono ?_
              rintro r W ⟨rfl, h4⟩
              have hWO : Own w W (chs ps (Cs.set j ⟨X.C.buf, X.C.S, X.C.R ++ [(g, 0, 0)], X.C.cl⟩) ++ RowGA 1 (some ⟨lb, lo, none⟩) lc 3 (ptrs ps) :: RowGA 5 (some ⟨xb, xo, none⟩) xc 3 (rfs xs) :: PoolR rs :: CelA yb [.int .i64 (X.N : Int), .slice X.ba X.C.buf.length X.bc, .slice X.sa X.C.S.length X.sc, .slice X.ra X.C.R.length X.rc, .bool X.C.cl] :: [CelA ab [.int .i64 kd, .int .i64 wh, .int .i64 g, .int .i64 v]]) := HBK.out _ _ h4
              have HWO := Lib.hid hWO
              clear c2 c3 h4 hWO HSC HBK O3
              go_upto_region 15 with fail
              have a2 : W.cell? ⟨yb, 3, none⟩ = some (.slice X.ra X.C.R.length X.rc) := (HWO.out.celIn 3 _ rfl).1
              have c2 : W.cell? ⟨ab, 2, none⟩ = some (.int .i64 g) := (HWO.out.cel ((chs ps (Cs.set j ⟨X.C.buf, X.C.S, X.C.R ++ [(g, 0, 0)], X.C.cl⟩)).length + 4) (at4 _ _ _ _ _ _ _) 2 _ rfl).1
              have c3 : W.cell? ⟨ab, 3, none⟩ = some (.int .i64 v) := (HWO.out.cel ((chs ps (Cs.set j ⟨X.C.buf, X.C.S, X.C.R ++ [(g, 0, 0)], X.C.cl⟩)).length + 4) (at4 _ _ _ _ _ _ _) 3 _ rfl).1
              have hsl : yb < W.heap.size := World.block_lt_of_cell? _ _ a2
              have hsl0 : ab < W.heap.size := World.block_lt_of_cell? _ _ c2
              have HROW : Hid (RowG 3 W X.ra X.rc X.C.R.length (wtc X.C.R)) := Lib.hid (HWO.out.refGet ((chs ps (Cs.set j ⟨X.C.buf, X.C.S, X.C.R ++ [(g, 0, 0)], X.C.cl⟩)).length + 2) (at2 _ _ _ _ _) HX.out.2.2.2).2.2
              have hln : (X.C.R ++ [(g, 0, 0)]).length = X.C.R.length + 1 := by simp
              have HPP : Hid (∀ wx, Below W.heap.size W wx → wx.cell? ⟨ab, 2, none⟩ = some (.int .i64 g) ∧ True) := Lib.hid fun wx hb => ⟨cell_below c2 hb, trivial⟩
              have HPQ : Hid (∀ wx, Chg [yb] W wx → wx.cell? ⟨ab, 2, none⟩ = some (.int .i64 g) ∧ True) := Lib.hid fun wx hc => ⟨cell_chg c2 hc (by simpa using Ne.symm hne), trivial⟩
              clear c3
              refine wp_region_lexH (fun wx => wx.cell? ⟨ab, 2, none⟩ = some (.int .i64 g) ∧ True) 11 (Array.replicate 11 false) (by kernel_rfl) (by kernel_rfl) ?_
              refine wpAnyH_seg 1 1 _ #[false, true, false, false, false, false, false, false, false, false, false] 10 (by kernel_rfl) noPanic_put (HPP.out _ (below_drew1 W)) (by kernel_rfl) ?_
              simp only [List.take_succ_cons, List.take_zero, List.drop_succ_cons, List.drop_zero]
              repeat (first
                | (refine wpSegH_no (by rfl) ?_; simp only [Act.put, List.setIfInBounds_toArray, List.set_cons_zero, List.set_cons_succ])
                | (refine wpSegH_yes (by rfl) ?_; apply Exists.intro; apply And.intro; (· (intro wx hS; (try dsimp only at hS); go_simp; first | done | with_reducible rfl)); simp only [Act.put, List.setIfInBounds_toArray, List.set_cons_zero, List.set_cons_succ]))
              refine wpSegH_nil ?_
              refine wpAnyH_seg 4 3 _ #[false, true, false, false, true, true, true, false, false, false, false] 7 (by kernel_rfl) noPanic_put (HPP.out _ (below_drew1 W)) (by kernel_rfl) ?_
              simp only [List.take_succ_cons, List.take_zero, List.drop_succ_cons, List.drop_zero]
              repeat (first
                | (refine wpSegH_no (by rfl) ?_; simp only [Act.put, List.setIfInBounds_toArray, List.set_cons_zero, List.set_cons_succ])
                | (refine wpSegH_yes (by rfl) ?_; apply Exists.intro; apply And.intro; (· (intro wx hS; (try dsimp only at hS); go_simp; first | done | with_reducible rfl)); simp only [Act.put, List.setIfInBounds_toArray, List.set_cons_zero, List.set_cons_succ]))
              refine wpSegH_nil ?_
              refine wpAnyH_three 0 2 7 _ #[true, true, false, false, true, true, true, false, false, false, false] #[false, true, true, false, true, true, true, false, false, false, false] #[false, true, false, false, true, true, true, true, false, false, false] 6 (by kernel_rfl) (fun K hK => ?_) (fun K hK => ?_) (fun K hK => ?_)
              · skip
                have HKK := Lib.hid hK
                clear hK
                simp only [List.drop_zero]
                refine headH_mk (by rfl) ?_
                go_simp
                refine HKK.out _ _ (HPP.out _ (by repeat (first | exact Below.refl _ _ | refine Below.drew ?_ | refine below_drewN ?_ _ | refine Below.alloc ?_ (by first | (simp; done) | (simp; omega)) _))) ?_
                clear HKK K
                refine wpAnyH_two 2 7 _ #[true, true, true, false, true, true, true, false, false, false, false] #[true, true, false, false, true, true, true, true, false, false, false] 5 (by kernel_rfl) (fun K hK => ?_) (fun K hK => ?_)
                · skip
                  have HKK := Lib.hid hK
                  clear hK
                  simp only [List.drop_succ_cons, List.drop_zero]
                  refine headH_mk (by rfl) ?_
                  go_simp
                  refine HKK.out _ _ (HPP.out _ (by repeat (first | exact Below.refl _ _ | refine Below.drew ?_ | refine below_drewN ?_ _ | refine Below.alloc ?_ (by first | (simp; done) | (simp; omega)) _))) ?_
                  clear HKK K
                  refine wpAnyH_two 3 7 _ #[true, true, true, true, true, true, true, false, false, false, false] #[true, true, true, false, true, true, true, true, false, false, false] 4 (by kernel_rfl) (fun K hK => ?_) (fun K hK => ?_)
                  · skip
                    have HKK := Lib.hid hK
                    clear hK
                    simp only [List.drop_succ_cons, List.drop_zero]
                    refine headH_mk (by rfl) ?_
                    refine wp_append_rowG (n := 0) (m := X.C.R.length) (cs := []) (ds := wtc X.C.R) _ _ 51 (by rfl) 66 i0 _ Try.underlying51 Hi.out Hz0.out Hz1.out Hz2.out rfl (by omega) (by omega) (by rfl) (by rfl) (RowG.zero (by first | (simp; done) | (simp; omega))) (HROW.out.below (by repeat (first | exact Below.refl _ _ | refine Below.drew ?_ | refine below_drewN ?_ _ | refine Below.alloc ?_ (by first | (simp; done) | (simp; omega)) _))).cells (by rw [wtc_len]) (wtc_one _) (by omega) ?_
                    intro b1 e1 w4 k1 ch1 f1
                    have hb4 : Below W.heap.size W w4 := Chg.below (by repeat (first | exact Below.refl _ _ | refine Below.drew ?_ | refine below_drewN ?_ _ | refine Below.alloc ?_ (by first | (simp; done) | (simp; omega)) _)) ch1 (fun x hx => by simp [blk] at hx; omega)
                    have hf4 : ∀ x ∈ blk b1, W.heap.size ≤ x := fun x hx => by
                      rcases f1 x hx with h | h
                      · simp [blk] at h; omega
                      · first | omega | (simp at h; omega)
                    have K1 : Hid (RowG 3 w4 b1 e1 X.C.R.length (wtc X.C.R)) := Lib.hid (by simpa using k1)
                    have CH1 := Lib.hid ch1
                    clear k1 ch1 f1
                    refine HKK.out _ _ (HPP.out _ hb4) ?_
                    rw [Nat.zero_add]
                    clear HKK K
                    refine wpAnyH_one 7 _ #[true, true, true, true, true, true, true, true, false, false, false] 3 (by kernel_rfl) (fun K hK => ?_)
                    have HKK := Lib.hid hK
                    clear hK
                    simp only [List.drop_succ_cons, List.drop_zero]
                    refine headH_mk (by rfl) ?_
                    go_simp
                    refine HKK.out _ _ (HPP.out _ (below_on hb4 (by repeat (first | exact Below.refl _ _ | refine Below.drew ?_ | refine below_drewN ?_ _ | refine Below.alloc ?_ (by first | (simp; done) | (simp; omega)) _)))) ?_
                    clear HKK K
                    refine wpAnyH_one 8 _ #[true, true, true, true, true, true, true, true, true, false, false] 2 (by kernel_rfl) (fun K hK => ?_)
                    have HKK := Lib.hid hK
                    clear hK
                    simp only [List.drop_succ_cons, List.drop_zero]
                    refine headH_mk (by rfl) ?_
                    refine wp_append_rowG (n := X.C.R.length) (m := 1) (cs := wtc X.C.R) (ds := wtc [(g, 0, 0)]) _ _ 51 (by rfl) 66 i0 _ Try.underlying51 Hi.out Hz0.out Hz1.out Hz2.out rfl (by omega) (by omega) (by first | rfl | simp) (by rfl) (K1.out.below (by repeat (first | exact Below.refl _ _ | refine Below.drew ?_ | refine below_drewN ?_ _ | refine Below.alloc ?_ (by first | (simp; done) | (simp; omega)) _))) (CellsAt.new _ (wtc [(g, 0, 0)]) _ (by first | rfl | simp)) rfl (wtc_one _) (by omega) ?_
                    intro b2 e2 w5 k2 ch2 f2
                    have hb5 : Below W.heap.size W w5 := Chg.below (below_on hb4 (by repeat (first | exact Below.refl _ _ | refine Below.drew ?_ | refine below_drewN ?_ _ | refine Below.alloc ?_ (by first | (simp; done) | (simp; omega)) _))) ch2 (fun x hx => hf4 x hx)
                    have hf5 : ∀ x ∈ blk b2, W.heap.size ≤ x := fun x hx => by
                      rcases f2 x hx with h | h
                      · exact hf4 x h
                      · have := hb4.size; first | omega | (simp at h; omega)
                    obtain ⟨x2', xm2'⟩ := (HWO.out.step hb5).celIn 3 _ rfl
                    have hrow : RowG 3 w5 b2 e2 (X.C.R ++ [(g, 0, 0)]).length (wtc (X.C.R ++ [(g, 0, 0)])) := by rw [hln, wtc_app]; exact k2
                    have o6 := (Own.rAddIn HWO.out hb5 hrow hf5).setIn 3 (.slice b2 (X.C.R ++ [(g, 0, 0)]).length e2)
                    have hP : MidM w (some ⟨lb, lo, none⟩) lc (some ⟨xb, xo, none⟩) xc ps Cs xs rs j yb X.N (i + 1) [.int .i64 (X.N : Int), .slice X.ba X.C.buf.length X.bc, .slice X.sa X.C.S.length X.sc, .slice b2 (X.C.R ++ [(g, 0, 0)]).length e2, .bool X.C.cl] (w5.setCell ⟨yb, 3, none⟩ (.slice b2 (X.C.R.length + 1) e2)) := by
                      rw [← hln]; exact ⟨⟨X.N, ⟨X.C.buf, X.C.S, X.C.R ++ [(g, 0, 0)], X.C.cl⟩, X.ba, X.bc, X.sa, X.sc, b2, e2⟩, _, ab, _, rfl, rfl, ⟨List.mem_cons_of_mem _ HX.out.2.2.2.1, List.mem_cons_of_mem _ HX.out.2.2.2.2.1, List.mem_cons_self⟩, fun q hq => List.mem_cons_of_mem _ hq, by have := HLM.out; simp only [List.length_append, List.length_cons, List.length_nil]; omega, o6⟩
                    have HP := Lib.hid hP
                    have hbs := chg_setC hb5 (b := yb) (k := 3) (.slice b2 (X.C.R.length + 1) e2)
                    clear hrow o6 hP k2 ch2 f2 hf5
                    refine HKK.out _ _ (HPP.out _ hb5) ?_
                    clear HKK K
                    refine wpAnyH_seg 9 1 _ #[true, true, true, true, true, true, true, true, true, true, false] 1 (by kernel_rfl) noPanic_put (HPP.out _ hb5) (by kernel_rfl) ?_
                    simp only [List.take_succ_cons, List.take_zero, List.drop_succ_cons, List.drop_zero]
                    repeat (first
                      | (refine wpSegH_no (by rfl) ?_; simp only [Act.put, List.setIfInBounds_toArray, List.set_cons_zero, List.set_cons_succ])
                      | (refine wpSegH_yes (by rfl) ?_; apply Exists.intro; apply And.intro; (· (intro wx hS; (try dsimp only at hS); go_simp; first | done | with_reducible rfl)); simp only [Act.put, List.setIfInBounds_toArray, List.set_cons_zero, List.set_cons_succ]))
                    refine wpSegH_nil ?_
                    refine wpAnyH_one 10 _ #[true, true, true, true, true, true, true, true, true, true, true] 0 (by kernel_rfl) (fun K hK => ?_)
                    have HKK := Lib.hid hK
                    clear hK
                    simp only [List.drop_succ_cons, List.drop_zero]
                    refine headH_mk (by rfl) ?_
                    go_simp
                    refine HKK.out _ _ (HPQ.out _ hbs) ?_
                    clear HKK K
                    refine wpAnyH_done (by kernel_rfl) (NoPanic.normal ?_) _
                    go_wp2_with fail
                    go_meet
                    exact ⟨rfl, _, _, _, _, _, HP.out⟩
                  · skip
                    have HKK := Lib.hid hK
                    clear hK
                    simp only [List.drop_succ_cons, List.drop_zero]
                    refine headH_mk (by rfl) ?_
                    go_simp
                    refine HKK.out _ _ (HPP.out _ (by repeat (first | exact Below.refl _ _ | refine Below.drew ?_ | refine below_drewN ?_ _ | refine Below.alloc ?_ (by first | (simp; done) | (simp; omega)) _))) ?_
                    clear HKK K
                    refine wpAnyH_one 3 _ #[true, true, true, true, true, true, true, true, false, false, false] 3 (by kernel_rfl) (fun K hK => ?_)
                    have HKK := Lib.hid hK
                    clear hK
                    simp only [List.drop_succ_cons, List.drop_zero]
                    refine headH_mk (by rfl) ?_
                    refine wp_append_rowG (n := 0) (m := X.C.R.length) (cs := []) (ds := wtc X.C.R) _ _ 51 (by rfl) 66 i0 _ Try.underlying51 Hi.out Hz0.out Hz1.out Hz2.out rfl (by omega) (by omega) (by rfl) (by rfl) (RowG.zero (by first | (simp; done) | (simp; omega))) (HROW.out.below (by repeat (first | exact Below.refl _ _ | refine Below.drew ?_ | refine below_drewN ?_ _ | refine Below.alloc ?_ (by first | (simp; done) | (simp; omega)) _))).cells (by rw [wtc_len]) (wtc_one _) (by omega) ?_
                    intro b1 e1 w4 k1 ch1 f1
                    have hb4 : Below W.heap.size W w4 := Chg.below (by repeat (first | exact Below.refl _ _ | refine Below.drew ?_ | refine below_drewN ?_ _ | refine Below.alloc ?_ (by first | (simp; done) | (simp; omega)) _)) ch1 (fun x hx => by simp [blk] at hx; omega)
                    have hf4 : ∀ x ∈ blk b1, W.heap.size ≤ x := fun x hx => by
                      rcases f1 x hx with h | h
                      · simp [blk] at h; omega
                      · first | omega | (simp at h; omega)
                    have K1 : Hid (RowG 3 w4 b1 e1 X.C.R.length (wtc X.C.R)) := Lib.hid (by simpa using k1)
                    have CH1 := Lib.hid ch1
                    clear k1 ch1 f1
                    refine HKK.out _ _ (HPP.out _ hb4) ?_
                    rw [Nat.zero_add]
                    clear HKK K
                    refine wpAnyH_one 8 _ #[true, true, true, true, true, true, true, true, true, false, false] 2 (by kernel_rfl) (fun K hK => ?_)
                    have HKK := Lib.hid hK
                    clear hK
                    simp only [List.drop_succ_cons, List.drop_zero]
                    refine headH_mk (by rfl) ?_
                    refine wp_append_rowG (n := X.C.R.length) (m := 1) (cs := wtc X.C.R) (ds := wtc [(g, 0, 0)]) _ _ 51 (by rfl) 66 i0 _ Try.underlying51 Hi.out Hz0.out Hz1.out Hz2.out rfl (by omega) (by omega) (by first | rfl | simp) (by rfl) K1.out (CellsAt.chg (by first | exact CellsAt.new _ (wtc [(g, 0, 0)]) _ (by first | rfl | simp) | exact CellsAt.below (CellsAt.new _ (wtc [(g, 0, 0)]) _ (by first | rfl | simp)) (by repeat (first | exact Below.refl _ _ | refine Below.drew ?_ | refine below_drewN ?_ _ | refine Below.alloc ?_ (by first | (simp; done) | (simp; omega)) _))) CH1.out (by simp [blk])) rfl (wtc_one _) (by omega) ?_
                    intro b2 e2 w5 k2 ch2 f2
                    have hb5 : Below W.heap.size W w5 := Chg.below hb4 ch2 (fun x hx => hf4 x hx)
                    have hf5 : ∀ x ∈ blk b2, W.heap.size ≤ x := fun x hx => by
                      rcases f2 x hx with h | h
                      · exact hf4 x h
                      · have := hb4.size; first | omega | (simp at h; omega)
                    obtain ⟨x2', xm2'⟩ := (HWO.out.step hb5).celIn 3 _ rfl
                    have hrow : RowG 3 w5 b2 e2 (X.C.R ++ [(g, 0, 0)]).length (wtc (X.C.R ++ [(g, 0, 0)])) := by rw [hln, wtc_app]; exact k2
                    have o6 := (Own.rAddIn HWO.out hb5 hrow hf5).setIn 3 (.slice b2 (X.C.R ++ [(g, 0, 0)]).length e2)
                    have hP : MidM w (some ⟨lb, lo, none⟩) lc (some ⟨xb, xo, none⟩) xc ps Cs xs rs j yb X.N (i + 1) [.int .i64 (X.N : Int), .slice X.ba X.C.buf.length X.bc, .slice X.sa X.C.S.length X.sc, .slice b2 (X.C.R ++ [(g, 0, 0)]).length e2, .bool X.C.cl] (w5.setCell ⟨yb, 3, none⟩ (.slice b2 (X.C.R.length + 1) e2)) := by
                      rw [← hln]; exact ⟨⟨X.N, ⟨X.C.buf, X.C.S, X.C.R ++ [(g, 0, 0)], X.C.cl⟩, X.ba, X.bc, X.sa, X.sc, b2, e2⟩, _, ab, _, rfl, rfl, ⟨List.mem_cons_of_mem _ HX.out.2.2.2.1, List.mem_cons_of_mem _ HX.out.2.2.2.2.1, List.mem_cons_self⟩, fun q hq => List.mem_cons_of_mem _ hq, by have := HLM.out; simp only [List.length_append, List.length_cons, List.length_nil]; omega, o6⟩
                    have HP := Lib.hid hP
                    have hbs := chg_setC hb5 (b := yb) (k := 3) (.slice b2 (X.C.R.length + 1) e2)
                    clear hrow o6 hP k2 ch2 f2 hf5
                    refine HKK.out _ _ (HPP.out _ hb5) ?_
                    clear HKK K
                    refine wpAnyH_seg 9 1 _ #[true, true, true, true, true, true, true, true, true, true, false] 1 (by kernel_rfl) noPanic_put (HPP.out _ hb5) (by kernel_rfl) ?_
                    simp only [List.take_succ_cons, List.take_zero, List.drop_succ_cons, List.drop_zero]
                    repeat (first
                      | (refine wpSegH_no (by rfl) ?_; simp only [Act.put, List.setIfInBounds_toArray, List.set_cons_zero, List.set_cons_succ])
                      | (refine wpSegH_yes (by rfl) ?_; apply Exists.intro; apply And.intro; (· (intro wx hS; (try dsimp only at hS); go_simp; first | done | with_reducible rfl)); simp only [Act.put, List.setIfInBounds_toArray, List.set_cons_zero, List.set_cons_succ]))
                    refine wpSegH_nil ?_
                    refine wpAnyH_one 10 _ #[true, true, true, true, true, true, true, true, true, true, true] 0 (by kernel_rfl) (fun K hK => ?_)
                    have HKK := Lib.hid hK
                    clear hK
                    simp only [List.drop_succ_cons, List.drop_zero]
                    refine headH_mk (by rfl) ?_
                    go_simp
                    refine HKK.out _ _ (HPQ.out _ hbs) ?_
                    clear HKK K
                    refine wpAnyH_done (by kernel_rfl) (NoPanic.normal ?_) _
                    go_wp2_with fail
                    go_meet
                    exact ⟨rfl, _, _, _, _, _, HP.out⟩
                · skip
                  have HKK := Lib.hid hK
                  clear hK
                  simp only [List.drop_succ_cons, List.drop_zero]
                  refine headH_mk (by rfl) ?_
                  go_simp
                  refine HKK.out _ _ (HPP.out _ (by repeat (first | exact Below.refl _ _ | refine Below.drew ?_ | refine below_drewN ?_ _ | refine Below.alloc ?_ (by first | (simp; done) | (simp; omega)) _))) ?_
                  clear HKK K
                  refine wpAnyH_one 2 _ #[true, true, true, false, true, true, true, true, false, false, false] 4 (by kernel_rfl) (fun K hK => ?_)
                  have HKK := Lib.hid hK
                  clear hK
                  simp only [List.drop_succ_cons, List.drop_zero]
                  refine headH_mk (by rfl) ?_
                  go_simp
                  refine HKK.out _ _ (HPP.out _ (by repeat (first | exact Below.refl _ _ | refine Below.drew ?_ | refine below_drewN ?_ _ | refine Below.alloc ?_ (by first | (simp; done) | (simp; omega)) _))) ?_
                  clear HKK K
                  refine wpAnyH_one 3 _ #[true, true, true, true, true, true, true, true, false, false, false] 3 (by kernel_rfl) (fun K hK => ?_)
                  have HKK := Lib.hid hK
                  clear hK
                  simp only [List.drop_succ_cons, List.drop_zero]
                  refine headH_mk (by rfl) ?_
                  refine wp_append_rowG (n := 0) (m := X.C.R.length) (cs := []) (ds := wtc X.C.R) _ _ 51 (by rfl) 66 i0 _ Try.underlying51 Hi.out Hz0.out Hz1.out Hz2.out rfl (by omega) (by omega) (by rfl) (by rfl) (RowG.zero (by first | (simp; done) | (simp; omega))) (HROW.out.below (by repeat (first | exact Below.refl _ _ | refine Below.drew ?_ | refine below_drewN ?_ _ | refine Below.alloc ?_ (by first | (simp; done) | (simp; omega)) _))).cells (by rw [wtc_len]) (wtc_one _) (by omega) ?_
                  intro b1 e1 w4 k1 ch1 f1
                  have hb4 : Below W.heap.size W w4 := Chg.below (by repeat (first | exact Below.refl _ _ | refine Below.drew ?_ | refine below_drewN ?_ _ | refine Below.alloc ?_ (by first | (simp; done) | (simp; omega)) _)) ch1 (fun x hx => by simp [blk] at hx; omega)
                  have hf4 : ∀ x ∈ blk b1, W.heap.size ≤ x := fun x hx => by
                    rcases f1 x hx with h | h
                    · simp [blk] at h; omega
                    · first | omega | (simp at h; omega)
                  have K1 : Hid (RowG 3 w4 b1 e1 X.C.R.length (wtc X.C.R)) := Lib.hid (by simpa using k1)
                  have CH1 := Lib.hid ch1
                  clear k1 ch1 f1
                  refine HKK.out _ _ (HPP.out _ hb4) ?_
                  rw [Nat.zero_add]
                  clear HKK K
                  refine wpAnyH_one 8 _ #[true, true, true, true, true, true, true, true, true, false, false] 2 (by kernel_rfl) (fun K hK => ?_)
                  have HKK := Lib.hid hK
                  clear hK
                  simp only [List.drop_succ_cons, List.drop_zero]
                  refine headH_mk (by rfl) ?_
                  refine wp_append_rowG (n := X.C.R.length) (m := 1) (cs := wtc X.C.R) (ds := wtc [(g, 0, 0)]) _ _ 51 (by rfl) 66 i0 _ Try.underlying51 Hi.out Hz0.out Hz1.out Hz2.out rfl (by omega) (by omega) (by first | rfl | simp) (by rfl) K1.out (CellsAt.chg (by first | exact CellsAt.new _ (wtc [(g, 0, 0)]) _ (by first | rfl | simp) | exact CellsAt.below (CellsAt.new _ (wtc [(g, 0, 0)]) _ (by first | rfl | simp)) (by repeat (first | exact Below.refl _ _ | refine Below.drew ?_ | refine below_drewN ?_ _ | refine Below.alloc ?_ (by first | (simp; done) | (simp; omega)) _))) CH1.out (by simp [blk])) rfl (wtc_one _) (by omega) ?_
                  intro b2 e2 w5 k2 ch2 f2
                  have hb5 : Below W.heap.size W w5 := Chg.below hb4 ch2 (fun x hx => hf4 x hx)
                  have hf5 : ∀ x ∈ blk b2, W.heap.size ≤ x := fun x hx => by
                    rcases f2 x hx with h | h
                    · exact hf4 x h
                    · have := hb4.size; first | omega | (simp at h; omega)
                  obtain ⟨x2', xm2'⟩ := (HWO.out.step hb5).celIn 3 _ rfl
                  have hrow : RowG 3 w5 b2 e2 (X.C.R ++ [(g, 0, 0)]).length (wtc (X.C.R ++ [(g, 0, 0)])) := by rw [hln, wtc_app]; exact k2
                  have o6 := (Own.rAddIn HWO.out hb5 hrow hf5).setIn 3 (.slice b2 (X.C.R ++ [(g, 0, 0)]).length e2)
                  have hP : MidM w (some ⟨lb, lo, none⟩) lc (some ⟨xb, xo, none⟩) xc ps Cs xs rs j yb X.N (i + 1) [.int .i64 (X.N : Int), .slice X.ba X.C.buf.length X.bc, .slice X.sa X.C.S.length X.sc, .slice b2 (X.C.R ++ [(g, 0, 0)]).length e2, .bool X.C.cl] (w5.setCell ⟨yb, 3, none⟩ (.slice b2 (X.C.R.length + 1) e2)) := by
                    rw [← hln]; exact ⟨⟨X.N, ⟨X.C.buf, X.C.S, X.C.R ++ [(g, 0, 0)], X.C.cl⟩, X.ba, X.bc, X.sa, X.sc, b2, e2⟩, _, ab, _, rfl, rfl, ⟨List.mem_cons_of_mem _ HX.out.2.2.2.1, List.mem_cons_of_mem _ HX.out.2.2.2.2.1, List.mem_cons_self⟩, fun q hq => List.mem_cons_of_mem _ hq, by have := HLM.out; simp only [List.length_append, List.length_cons, List.length_nil]; omega, o6⟩
                  have HP := Lib.hid hP
                  have hbs := chg_setC hb5 (b := yb) (k := 3) (.slice b2 (X.C.R.length + 1) e2)
                  clear hrow o6 hP k2 ch2 f2 hf5
                  refine HKK.out _ _ (HPP.out _ hb5) ?_
                  clear HKK K
                  refine wpAnyH_seg 9 1 _ #[true, true, true, true, true, true, true, true, true, true, false] 1 (by kernel_rfl) noPanic_put (HPP.out _ hb5) (by kernel_rfl) ?_
                  simp only [List.take_succ_cons, List.take_zero, List.drop_succ_cons, List.drop_zero]
                  repeat (first
                    | (refine wpSegH_no (by rfl) ?_; simp only [Act.put, List.setIfInBounds_toArray, List.set_cons_zero, List.set_cons_succ])
                    | (refine wpSegH_yes (by rfl) ?_; apply Exists.intro; apply And.intro; (· (intro wx hS; (try dsimp only at hS); go_simp; first | done | with_reducible rfl)); simp only [Act.put, List.setIfInBounds_toArray, List.set_cons_zero, List.set_cons_succ]))
                  refine wpSegH_nil ?_
                  refine wpAnyH_one 10 _ #[true, true, true, true, true, true, true, true, true, true, true] 0 (by kernel_rfl) (fun K hK => ?_)
                  have HKK := Lib.hid hK
                  clear hK
                  simp only [List.drop_succ_cons, List.drop_zero]
                  refine headH_mk (by rfl) ?_
                  go_simp
                  refine HKK.out _ _ (HPQ.out _ hbs) ?_
                  clear HKK K
                  refine wpAnyH_done (by kernel_rfl) (NoPanic.normal ?_) _
                  go_wp2_with fail
                  go_meet
                  exact ⟨rfl, _, _, _, _, _, HP.out⟩
              · skip
                have HKK := Lib.hid hK
                clear hK
                simp only [List.drop_succ_cons, List.drop_zero]
                refine headH_mk (by rfl) ?_
                go_simp
                refine HKK.out _ _ (HPP.out _ (by repeat (first | exact Below.refl _ _ | refine Below.drew ?_ | refine below_drewN ?_ _ | refine Below.alloc ?_ (by first | (simp; done) | (simp; omega)) _))) ?_
                clear HKK K
                refine wpAnyH_two 0 7 _ #[true, true, true, false, true, true, true, false, false, false, false] #[false, true, true, false, true, true, true, true, false, false, false] 5 (by kernel_rfl) (fun K hK => ?_) (fun K hK => ?_)
                · skip
                  have HKK := Lib.hid hK
                  clear hK
                  simp only [List.drop_zero]
                  refine headH_mk (by rfl) ?_
                  go_simp
                  refine HKK.out _ _ (HPP.out _ (by repeat (first | exact Below.refl _ _ | refine Below.drew ?_ | refine below_drewN ?_ _ | refine Below.alloc ?_ (by first | (simp; done) | (simp; omega)) _))) ?_
                  clear HKK K
                  refine wpAnyH_two 3 7 _ #[true, true, true, true, true, true, true, false, false, false, false] #[true, true, true, false, true, true, true, true, false, false, false] 4 (by kernel_rfl) (fun K hK => ?_) (fun K hK => ?_)
                  · skip
                    have HKK := Lib.hid hK
                    clear hK
                    simp only [List.drop_succ_cons, List.drop_zero]
                    refine headH_mk (by rfl) ?_
                    refine wp_append_rowG (n := 0) (m := X.C.R.length) (cs := []) (ds := wtc X.C.R) _ _ 51 (by rfl) 66 i0 _ Try.underlying51 Hi.out Hz0.out Hz1.out Hz2.out rfl (by omega) (by omega) (by rfl) (by rfl) (RowG.zero (by first | (simp; done) | (simp; omega))) (HROW.out.below (by repeat (first | exact Below.refl _ _ | refine Below.drew ?_ | refine below_drewN ?_ _ | refine Below.alloc ?_ (by first | (simp; done) | (simp; omega)) _))).cells (by rw [wtc_len]) (wtc_one _) (by omega) ?_
                    intro b1 e1 w4 k1 ch1 f1
                    have hb4 : Below W.heap.size W w4 := Chg.below (by repeat (first | exact Below.refl _ _ | refine Below.drew ?_ | refine below_drewN ?_ _ | refine Below.alloc ?_ (by first | (simp; done) | (simp; omega)) _)) ch1 (fun x hx => by simp [blk] at hx; omega)
                    have hf4 : ∀ x ∈ blk b1, W.heap.size ≤ x := fun x hx => by
                      rcases f1 x hx with h | h
                      · simp [blk] at h; omega
                      · first | omega | (simp at h; omega)
                    have K1 : Hid (RowG 3 w4 b1 e1 X.C.R.length (wtc X.C.R)) := Lib.hid (by simpa using k1)
                    have CH1 := Lib.hid ch1
                    clear k1 ch1 f1
                    refine HKK.out _ _ (HPP.out _ hb4) ?_
                    rw [Nat.zero_add]
                    clear HKK K
                    refine wpAnyH_one 7 _ #[true, true, true, true, true, true, true, true, false, false, false] 3 (by kernel_rfl) (fun K hK => ?_)
                    have HKK := Lib.hid hK
                    clear hK
                    simp only [List.drop_succ_cons, List.drop_zero]
                    refine headH_mk (by rfl) ?_
                    go_simp
                    refine HKK.out _ _ (HPP.out _ (below_on hb4 (by repeat (first | exact Below.refl _ _ | refine Below.drew ?_ | refine below_drewN ?_ _ | refine Below.alloc ?_ (by first | (simp; done) | (simp; omega)) _)))) ?_
                    clear HKK K
                    refine wpAnyH_one 8 _ #[true, true, true, true, true, true, true, true, true, false, false] 2 (by kernel_rfl) (fun K hK => ?_)
                    have HKK := Lib.hid hK
                    clear hK
                    simp only [List.drop_succ_cons, List.drop_zero]
                    refine headH_mk (by rfl) ?_
                    refine wp_append_rowG (n := X.C.R.length) (m := 1) (cs := wtc X.C.R) (ds := wtc [(g, 0, 0)]) _ _ 51 (by rfl) 66 i0 _ Try.underlying51 Hi.out Hz0.out Hz1.out Hz2.out rfl (by omega) (by omega) (by first | rfl | simp) (by rfl) (K1.out.below (by repeat (first | exact Below.refl _ _ | refine Below.drew ?_ | refine below_drewN ?_ _ | refine Below.alloc ?_ (by first | (simp; done) | (simp; omega)) _))) (CellsAt.new _ (wtc [(g, 0, 0)]) _ (by first | rfl | simp)) rfl (wtc_one _) (by omega) ?_
                    intro b2 e2 w5 k2 ch2 f2
                    have hb5 : Below W.heap.size W w5 := Chg.below (below_on hb4 (by repeat (first | exact Below.refl _ _ | refine Below.drew ?_ | refine below_drewN ?_ _ | refine Below.alloc ?_ (by first | (simp; done) | (simp; omega)) _))) ch2 (fun x hx => hf4 x hx)
                    have hf5 : ∀ x ∈ blk b2, W.heap.size ≤ x := fun x hx => by
                      rcases f2 x hx with h | h
                      · exact hf4 x h
                      · have := hb4.size; first | omega | (simp at h; omega)
                    obtain ⟨x2', xm2'⟩ := (HWO.out.step hb5).celIn 3 _ rfl
                    have hrow : RowG 3 w5 b2 e2 (X.C.R ++ [(g, 0, 0)]).length (wtc (X.C.R ++ [(g, 0, 0)])) := by rw [hln, wtc_app]; exact k2
                    have o6 := (Own.rAddIn HWO.out hb5 hrow hf5).setIn 3 (.slice b2 (X.C.R ++ [(g, 0, 0)]).length e2)
                    have hP : MidM w (some ⟨lb, lo, none⟩) lc (some ⟨xb, xo, none⟩) xc ps Cs xs rs j yb X.N (i + 1) [.int .i64 (X.N : Int), .slice X.ba X.C.buf.length X.bc, .slice X.sa X.C.S.length X.sc, .slice b2 (X.C.R ++ [(g, 0, 0)]).length e2, .bool X.C.cl] (w5.setCell ⟨yb, 3, none⟩ (.slice b2 (X.C.R.length + 1) e2)) := by
                      rw [← hln]; exact ⟨⟨X.N, ⟨X.C.buf, X.C.S, X.C.R ++ [(g, 0, 0)], X.C.cl⟩, X.ba, X.bc, X.sa, X.sc, b2, e2⟩, _, ab, _, rfl, rfl, ⟨List.mem_cons_of_mem _ HX.out.2.2.2.1, List.mem_cons_of_mem _ HX.out.2.2.2.2.1, List.mem_cons_self⟩, fun q hq => List.mem_cons_of_mem _ hq, by have := HLM.out; simp only [List.length_append, List.length_cons, List.length_nil]; omega, o6⟩
                    have HP := Lib.hid hP
                    have hbs := chg_setC hb5 (b := yb) (k := 3) (.slice b2 (X.C.R.length + 1) e2)
                    clear hrow o6 hP k2 ch2 f2 hf5
                    refine HKK.out _ _ (HPP.out _ hb5) ?_
                    clear HKK K
                    refine wpAnyH_seg 9 1 _ #[true, true, true, true, true, true, true, true, true, true, false] 1 (by kernel_rfl) noPanic_put (HPP.out _ hb5) (by kernel_rfl) ?_
                    simp only [List.take_succ_cons, List.take_zero, List.drop_succ_cons, List.drop_zero]
                    repeat (first
                      | (refine wpSegH_no (by rfl) ?_; simp only [Act.put, List.setIfInBounds_toArray, List.set_cons_zero, List.set_cons_succ])
                      | (refine wpSegH_yes (by rfl) ?_; apply Exists.intro; apply And.intro; (· (intro wx hS; (try dsimp only at hS); go_simp; first | done | with_reducible rfl)); simp only [Act.put, List.setIfInBounds_toArray, List.set_cons_zero, List.set_cons_succ]))
                    refine wpSegH_nil ?_
                    refine wpAnyH_one 10 _ #[true, true, true, true, true, true, true, true, true, true, true] 0 (by kernel_rfl) (fun K hK => ?_)
                    have HKK := Lib.hid hK
                    clear hK
                    simp only [List.drop_succ_cons, List.drop_zero]
                    refine headH_mk (by rfl) ?_
                    go_simp
                    refine HKK.out _ _ (HPQ.out _ hbs) ?_
                    clear HKK K
                    refine wpAnyH_done (by kernel_rfl) (NoPanic.normal ?_) _
                    go_wp2_with fail
                    go_meet
                    exact ⟨rfl, _, _, _, _, _, HP.out⟩
                  · skip
                    have HKK := Lib.hid hK
                    clear hK
                    simp only [List.drop_succ_cons, List.drop_zero]
                    refine headH_mk (by rfl) ?_
                    go_simp
                    refine HKK.out _ _ (HPP.out _ (by repeat (first | exact Below.refl _ _ | refine Below.drew ?_ | refine below_drewN ?_ _ | refine Below.alloc ?_ (by first | (simp; done) | (simp; omega)) _))) ?_
                    clear HKK K
                    refine wpAnyH_one 3 _ #[true, true, true, true, true, true, true, true, false, false, false] 3 (by kernel_rfl) (fun K hK => ?_)
                    have HKK := Lib.hid hK
                    clear hK
                    simp only [List.drop_succ_cons, List.drop_zero]
                    refine headH_mk (by rfl) ?_
                    refine wp_append_rowG (n := 0) (m := X.C.R.length) (cs := []) (ds := wtc X.C.R) _ _ 51 (by rfl) 66 i0 _ Try.underlying51 Hi.out Hz0.out Hz1.out Hz2.out rfl (by omega) (by omega) (by rfl) (by rfl) (RowG.zero (by first | (simp; done) | (simp; omega))) (HROW.out.below (by repeat (first | exact Below.refl _ _ | refine Below.drew ?_ | refine below_drewN ?_ _ | refine Below.alloc ?_ (by first | (simp; done) | (simp; omega)) _))).cells (by rw [wtc_len]) (wtc_one _) (by omega) ?_
                    intro b1 e1 w4 k1 ch1 f1
                    have hb4 : Below W.heap.size W w4 := Chg.below (by repeat (first | exact Below.refl _ _ | refine Below.drew ?_ | refine below_drewN ?_ _ | refine Below.alloc ?_ (by first | (simp; done) | (simp; omega)) _)) ch1 (fun x hx => by simp [blk] at hx; omega)
                    have hf4 : ∀ x ∈ blk b1, W.heap.size ≤ x := fun x hx => by
                      rcases f1 x hx with h | h
                      · simp [blk] at h; omega
                      · first | omega | (simp at h; omega)
                    have K1 : Hid (RowG 3 w4 b1 e1 X.C.R.length (wtc X.C.R)) := Lib.hid (by simpa using k1)
                    have CH1 := Lib.hid ch1
                    clear k1 ch1 f1
                    refine HKK.out _ _ (HPP.out _ hb4) ?_
                    rw [Nat.zero_add]
                    clear HKK K
                    refine wpAnyH_one 8 _ #[true, true, true, true, true, true, true, true, true, false, false] 2 (by kernel_rfl) (fun K hK => ?_)
                    have HKK := Lib.hid hK
                    clear hK
                    simp only [List.drop_succ_cons, List.drop_zero]
                    refine headH_mk (by rfl) ?_
                    refine wp_append_rowG (n := X.C.R.length) (m := 1) (cs := wtc X.C.R) (ds := wtc [(g, 0, 0)]) _ _ 51 (by rfl) 66 i0 _ Try.underlying51 Hi.out Hz0.out Hz1.out Hz2.out rfl (by omega) (by omega) (by first | rfl | simp) (by rfl) K1.out (CellsAt.chg (by first | exact CellsAt.new _ (wtc [(g, 0, 0)]) _ (by first | rfl | simp) | exact CellsAt.below (CellsAt.new _ (wtc [(g, 0, 0)]) _ (by first | rfl | simp)) (by repeat (first | exact Below.refl _ _ | refine Below.drew ?_ | refine below_drewN ?_ _ | refine Below.alloc ?_ (by first | (simp; done) | (simp; omega)) _))) CH1.out (by simp [blk])) rfl (wtc_one _) (by omega) ?_
                    intro b2 e2 w5 k2 ch2 f2
                    have hb5 : Below W.heap.size W w5 := Chg.below hb4 ch2 (fun x hx => hf4 x hx)
                    have hf5 : ∀ x ∈ blk b2, W.heap.size ≤ x := fun x hx => by
                      rcases f2 x hx with h | h
                      · exact hf4 x h
                      · have := hb4.size; first | omega | (simp at h; omega)
                    obtain ⟨x2', xm2'⟩ := (HWO.out.step hb5).celIn 3 _ rfl
                    have hrow : RowG 3 w5 b2 e2 (X.C.R ++ [(g, 0, 0)]).length (wtc (X.C.R ++ [(g, 0, 0)])) := by rw [hln, wtc_app]; exact k2
                    have o6 := (Own.rAddIn HWO.out hb5 hrow hf5).setIn 3 (.slice b2 (X.C.R ++ [(g, 0, 0)]).length e2)
                    have hP : MidM w (some ⟨lb, lo, none⟩) lc (some ⟨xb, xo, none⟩) xc ps Cs xs rs j yb X.N (i + 1) [.int .i64 (X.N : Int), .slice X.ba X.C.buf.length X.bc, .slice X.sa X.C.S.length X.sc, .slice b2 (X.C.R ++ [(g, 0, 0)]).length e2, .bool X.C.cl] (w5.setCell ⟨yb, 3, none⟩ (.slice b2 (X.C.R.length + 1) e2)) := by
                      rw [← hln]; exact ⟨⟨X.N, ⟨X.C.buf, X.C.S, X.C.R ++ [(g, 0, 0)], X.C.cl⟩, X.ba, X.bc, X.sa, X.sc, b2, e2⟩, _, ab, _, rfl, rfl, ⟨List.mem_cons_of_mem _ HX.out.2.2.2.1, List.mem_cons_of_mem _ HX.out.2.2.2.2.1, List.mem_cons_self⟩, fun q hq => List.mem_cons_of_mem _ hq, by have := HLM.out; simp only [List.length_append, List.length_cons, List.length_nil]; omega, o6⟩
                    have HP := Lib.hid hP
                    have hbs := chg_setC hb5 (b := yb) (k := 3) (.slice b2 (X.C.R.length + 1) e2)
                    clear hrow o6 hP k2 ch2 f2 hf5
                    refine HKK.out _ _ (HPP.out _ hb5) ?_
                    clear HKK K
                    refine wpAnyH_seg 9 1 _ #[true, true, true, true, true, true, true, true, true, true, false] 1 (by kernel_rfl) noPanic_put (HPP.out _ hb5) (by kernel_rfl) ?_
                    simp only [List.take_succ_cons, List.take_zero, List.drop_succ_cons, List.drop_zero]
                    repeat (first
                      | (refine wpSegH_no (by rfl) ?_; simp only [Act.put, List.setIfInBounds_toArray, List.set_cons_zero, List.set_cons_succ])
                      | (refine wpSegH_yes (by rfl) ?_; apply Exists.intro; apply And.intro; (· (intro wx hS; (try dsimp only at hS); go_simp; first | done | with_reducible rfl)); simp only [Act.put, List.setIfInBounds_toArray, List.set_cons_zero, List.set_cons_succ]))
                    refine wpSegH_nil ?_
                    refine wpAnyH_one 10 _ #[true, true, true, true, true, true, true, true, true, true, true] 0 (by kernel_rfl) (fun K hK => ?_)
                    have HKK := Lib.hid hK
                    clear hK
                    simp only [List.drop_succ_cons, List.drop_zero]
                    refine headH_mk (by rfl) ?_
                    go_simp
                    refine HKK.out _ _ (HPQ.out _ hbs) ?_
                    clear HKK K
                    refine wpAnyH_done (by kernel_rfl) (NoPanic.normal ?_) _
                    go_wp2_with fail
                    go_meet
                    exact ⟨rfl, _, _, _, _, _, HP.out⟩
                · skip
                  have HKK := Lib.hid hK
                  clear hK
                  simp only [List.drop_succ_cons, List.drop_zero]
                  refine headH_mk (by rfl) ?_
                  go_simp
                  refine HKK.out _ _ (HPP.out _ (by repeat (first | exact Below.refl _ _ | refine Below.drew ?_ | refine below_drewN ?_ _ | refine Below.alloc ?_ (by first | (simp; done) | (simp; omega)) _))) ?_
                  clear HKK K
                  refine wpAnyH_one 0 _ #[true, true, true, false, true, true, true, true, false, false, false] 4 (by kernel_rfl) (fun K hK => ?_)
                  have HKK := Lib.hid hK
                  clear hK
                  simp only [List.drop_zero]
                  refine headH_mk (by rfl) ?_
                  go_simp
                  refine HKK.out _ _ (HPP.out _ (by repeat (first | exact Below.refl _ _ | refine Below.drew ?_ | refine below_drewN ?_ _ | refine Below.alloc ?_ (by first | (simp; done) | (simp; omega)) _))) ?_
                  clear HKK K
                  refine wpAnyH_one 3 _ #[true, true, true, true, true, true, true, true, false, false, false] 3 (by kernel_rfl) (fun K hK => ?_)
                  have HKK := Lib.hid hK
                  clear hK
                  simp only [List.drop_succ_cons, List.drop_zero]
                  refine headH_mk (by rfl) ?_
                  refine wp_append_rowG (n := 0) (m := X.C.R.length) (cs := []) (ds := wtc X.C.R) _ _ 51 (by rfl) 66 i0 _ Try.underlying51 Hi.out Hz0.out Hz1.out Hz2.out rfl (by omega) (by omega) (by rfl) (by rfl) (RowG.zero (by first | (simp; done) | (simp; omega))) (HROW.out.below (by repeat (first | exact Below.refl _ _ | refine Below.drew ?_ | refine below_drewN ?_ _ | refine Below.alloc ?_ (by first | (simp; done) | (simp; omega)) _))).cells (by rw [wtc_len]) (wtc_one _) (by omega) ?_
                  intro b1 e1 w4 k1 ch1 f1
                  have hb4 : Below W.heap.size W w4 := Chg.below (by repeat (first | exact Below.refl _ _ | refine Below.drew ?_ | refine below_drewN ?_ _ | refine Below.alloc ?_ (by first | (simp; done) | (simp; omega)) _)) ch1 (fun x hx => by simp [blk] at hx; omega)
                  have hf4 : ∀ x ∈ blk b1, W.heap.size ≤ x := fun x hx => by
                    rcases f1 x hx with h | h
                    · simp [blk] at h; omega
                    · first | omega | (simp at h; omega)
                  have K1 : Hid (RowG 3 w4 b1 e1 X.C.R.length (wtc X.C.R)) := Lib.hid (by simpa using k1)
                  have CH1 := Lib.hid ch1
                  clear k1 ch1 f1
                  refine HKK.out _ _ (HPP.out _ hb4) ?_
                  rw [Nat.zero_add]
                  clear HKK K
                  refine wpAnyH_one 8 _ #[true, true, true, true, true, true, true, true, true, false, false] 2 (by kernel_rfl) (fun K hK => ?_)
                  have HKK := Lib.hid hK
                  clear hK
                  simp only [List.drop_succ_cons, List.drop_zero]
                  refine headH_mk (by rfl) ?_
                  refine wp_append_rowG (n := X.C.R.length) (m := 1) (cs := wtc X.C.R) (ds := wtc [(g, 0, 0)]) _ _ 51 (by rfl) 66 i0 _ Try.underlying51 Hi.out Hz0.out Hz1.out Hz2.out rfl (by omega) (by omega) (by first | rfl | simp) (by rfl) K1.out (CellsAt.chg (by first | exact CellsAt.new _ (wtc [(g, 0, 0)]) _ (by first | rfl | simp) | exact CellsAt.below (CellsAt.new _ (wtc [(g, 0, 0)]) _ (by first | rfl | simp)) (by repeat (first | exact Below.refl _ _ | refine Below.drew ?_ | refine below_drewN ?_ _ | refine Below.alloc ?_ (by first | (simp; done) | (simp; omega)) _))) CH1.out (by simp [blk])) rfl (wtc_one _) (by omega) ?_
                  intro b2 e2 w5 k2 ch2 f2
                  have hb5 : Below W.heap.size W w5 := Chg.below hb4 ch2 (fun x hx => hf4 x hx)
                  have hf5 : ∀ x ∈ blk b2, W.heap.size ≤ x := fun x hx => by
                    rcases f2 x hx with h | h
                    · exact hf4 x h
                    · have := hb4.size; first | omega | (simp at h; omega)
                  obtain ⟨x2', xm2'⟩ := (HWO.out.step hb5).celIn 3 _ rfl
                  have hrow : RowG 3 w5 b2 e2 (X.C.R ++ [(g, 0, 0)]).length (wtc (X.C.R ++ [(g, 0, 0)])) := by rw [hln, wtc_app]; exact k2
                  have o6 := (Own.rAddIn HWO.out hb5 hrow hf5).setIn 3 (.slice b2 (X.C.R ++ [(g, 0, 0)]).length e2)
                  have hP : MidM w (some ⟨lb, lo, none⟩) lc (some ⟨xb, xo, none⟩) xc ps Cs xs rs j yb X.N (i + 1) [.int .i64 (X.N : Int), .slice X.ba X.C.buf.length X.bc, .slice X.sa X.C.S.length X.sc, .slice b2 (X.C.R ++ [(g, 0, 0)]).length e2, .bool X.C.cl] (w5.setCell ⟨yb, 3, none⟩ (.slice b2 (X.C.R.length + 1) e2)) := by
                    rw [← hln]; exact ⟨⟨X.N, ⟨X.C.buf, X.C.S, X.C.R ++ [(g, 0, 0)], X.C.cl⟩, X.ba, X.bc, X.sa, X.sc, b2, e2⟩, _, ab, _, rfl, rfl, ⟨List.mem_cons_of_mem _ HX.out.2.2.2.1, List.mem_cons_of_mem _ HX.out.2.2.2.2.1, List.mem_cons_self⟩, fun q hq => List.mem_cons_of_mem _ hq, by have := HLM.out; simp only [List.length_append, List.length_cons, List.length_nil]; omega, o6⟩
                  have HP := Lib.hid hP
                  have hbs := chg_setC hb5 (b := yb) (k := 3) (.slice b2 (X.C.R.length + 1) e2)
                  clear hrow o6 hP k2 ch2 f2 hf5
                  refine HKK.out _ _ (HPP.out _ hb5) ?_
                  clear HKK K
                  refine wpAnyH_seg 9 1 _ #[true, true, true, true, true, true, true, true, true, true, false] 1 (by kernel_rfl) noPanic_put (HPP.out _ hb5) (by kernel_rfl) ?_
                  simp only [List.take_succ_cons, List.take_zero, List.drop_succ_cons, List.drop_zero]
                  repeat (first
                    | (refine wpSegH_no (by rfl) ?_; simp only [Act.put, List.setIfInBounds_toArray, List.set_cons_zero, List.set_cons_succ])
                    | (refine wpSegH_yes (by rfl) ?_; apply Exists.intro; apply And.intro; (· (intro wx hS; (try dsimp only at hS); go_simp; first | done | with_reducible rfl)); simp only [Act.put, List.setIfInBounds_toArray, List.set_cons_zero, List.set_cons_succ]))
                  refine wpSegH_nil ?_
                  refine wpAnyH_one 10 _ #[true, true, true, true, true, true, true, true, true, true, true] 0 (by kernel_rfl) (fun K hK => ?_)
                  have HKK := Lib.hid hK
                  clear hK
                  simp only [List.drop_succ_cons, List.drop_zero]
                  refine headH_mk (by rfl) ?_
                  go_simp
                  refine HKK.out _ _ (HPQ.out _ hbs) ?_
                  clear HKK K
                  refine wpAnyH_done (by kernel_rfl) (NoPanic.normal ?_) _
                  go_wp2_with fail
                  go_meet
                  exact ⟨rfl, _, _, _, _, _, HP.out⟩
              · skip
                have HKK := Lib.hid hK
                clear hK
                simp only [List.drop_succ_cons, List.drop_zero]
                refine headH_mk (by rfl) ?_
                go_simp
                refine HKK.out _ _ (HPP.out _ (by repeat (first | exact Below.refl _ _ | refine Below.drew ?_ | refine below_drewN ?_ _ | refine Below.alloc ?_ (by first | (simp; done) | (simp; omega)) _))) ?_
                clear HKK K
                refine wpAnyH_two 0 2 _ #[true, true, false, false, true, true, true, true, false, false, false] #[false, true, true, false, true, true, true, true, false, false, false] 5 (by kernel_rfl) (fun K hK => ?_) (fun K hK => ?_)
                · skip
                  have HKK := Lib.hid hK
                  clear hK
                  simp only [List.drop_zero]
                  refine headH_mk (by rfl) ?_
                  go_simp
                  refine HKK.out _ _ (HPP.out _ (by repeat (first | exact Below.refl _ _ | refine Below.drew ?_ | refine below_drewN ?_ _ | refine Below.alloc ?_ (by first | (simp; done) | (simp; omega)) _))) ?_
                  clear HKK K
                  refine wpAnyH_one 2 _ #[true, true, true, false, true, true, true, true, false, false, false] 4 (by kernel_rfl) (fun K hK => ?_)
                  have HKK := Lib.hid hK
                  clear hK
                  simp only [List.drop_succ_cons, List.drop_zero]
                  refine headH_mk (by rfl) ?_
                  go_simp
                  refine HKK.out _ _ (HPP.out _ (by repeat (first | exact Below.refl _ _ | refine Below.drew ?_ | refine below_drewN ?_ _ | refine Below.alloc ?_ (by first | (simp; done) | (simp; omega)) _))) ?_
                  clear HKK K
                  refine wpAnyH_one 3 _ #[true, true, true, true, true, true, true, true, false, false, false] 3 (by kernel_rfl) (fun K hK => ?_)
                  have HKK := Lib.hid hK
                  clear hK
                  simp only [List.drop_succ_cons, List.drop_zero]
                  refine headH_mk (by rfl) ?_
                  refine wp_append_rowG (n := 0) (m := X.C.R.length) (cs := []) (ds := wtc X.C.R) _ _ 51 (by rfl) 66 i0 _ Try.underlying51 Hi.out Hz0.out Hz1.out Hz2.out rfl (by omega) (by omega) (by rfl) (by rfl) (RowG.zero (by first | (simp; done) | (simp; omega))) (HROW.out.below (by repeat (first | exact Below.refl _ _ | refine Below.drew ?_ | refine below_drewN ?_ _ | refine Below.alloc ?_ (by first | (simp; done) | (simp; omega)) _))).cells (by rw [wtc_len]) (wtc_one _) (by omega) ?_
                  intro b1 e1 w4 k1 ch1 f1
                  have hb4 : Below W.heap.size W w4 := Chg.below (by repeat (first | exact Below.refl _ _ | refine Below.drew ?_ | refine below_drewN ?_ _ | refine Below.alloc ?_ (by first | (simp; done) | (simp; omega)) _)) ch1 (fun x hx => by simp [blk] at hx; omega)
                  have hf4 : ∀ x ∈ blk b1, W.heap.size ≤ x := fun x hx => by
                    rcases f1 x hx with h | h
                    · simp [blk] at h; omega
                    · first | omega | (simp at h; omega)
                  have K1 : Hid (RowG 3 w4 b1 e1 X.C.R.length (wtc X.C.R)) := Lib.hid (by simpa using k1)
                  have CH1 := Lib.hid ch1
                  clear k1 ch1 f1
                  refine HKK.out _ _ (HPP.out _ hb4) ?_
                  rw [Nat.zero_add]
                  clear HKK K
                  refine wpAnyH_one 8 _ #[true, true, true, true, true, true, true, true, true, false, false] 2 (by kernel_rfl) (fun K hK => ?_)
                  have HKK := Lib.hid hK
                  clear hK
                  simp only [List.drop_succ_cons, List.drop_zero]
                  refine headH_mk (by rfl) ?_
                  refine wp_append_rowG (n := X.C.R.length) (m := 1) (cs := wtc X.C.R) (ds := wtc [(g, 0, 0)]) _ _ 51 (by rfl) 66 i0 _ Try.underlying51 Hi.out Hz0.out Hz1.out Hz2.out rfl (by omega) (by omega) (by first | rfl | simp) (by rfl) K1.out (CellsAt.chg (by first | exact CellsAt.new _ (wtc [(g, 0, 0)]) _ (by first | rfl | simp) | exact CellsAt.below (CellsAt.new _ (wtc [(g, 0, 0)]) _ (by first | rfl | simp)) (by repeat (first | exact Below.refl _ _ | refine Below.drew ?_ | refine below_drewN ?_ _ | refine Below.alloc ?_ (by first | (simp; done) | (simp; omega)) _))) CH1.out (by simp [blk])) rfl (wtc_one _) (by omega) ?_
                  intro b2 e2 w5 k2 ch2 f2
                  have hb5 : Below W.heap.size W w5 := Chg.below hb4 ch2 (fun x hx => hf4 x hx)
                  have hf5 : ∀ x ∈ blk b2, W.heap.size ≤ x := fun x hx => by
                    rcases f2 x hx with h | h
                    · exact hf4 x h
                    · have := hb4.size; first | omega | (simp at h; omega)
                  obtain ⟨x2', xm2'⟩ := (HWO.out.step hb5).celIn 3 _ rfl
                  have hrow : RowG 3 w5 b2 e2 (X.C.R ++ [(g, 0, 0)]).length (wtc (X.C.R ++ [(g, 0, 0)])) := by rw [hln, wtc_app]; exact k2
                  have o6 := (Own.rAddIn HWO.out hb5 hrow hf5).setIn 3 (.slice b2 (X.C.R ++ [(g, 0, 0)]).length e2)
                  have hP : MidM w (some ⟨lb, lo, none⟩) lc (some ⟨xb, xo, none⟩) xc ps Cs xs rs j yb X.N (i + 1) [.int .i64 (X.N : Int), .slice X.ba X.C.buf.length X.bc, .slice X.sa X.C.S.length X.sc, .slice b2 (X.C.R ++ [(g, 0, 0)]).length e2, .bool X.C.cl] (w5.setCell ⟨yb, 3, none⟩ (.slice b2 (X.C.R.length + 1) e2)) := by
                    rw [← hln]; exact ⟨⟨X.N, ⟨X.C.buf, X.C.S, X.C.R ++ [(g, 0, 0)], X.C.cl⟩, X.ba, X.bc, X.sa, X.sc, b2, e2⟩, _, ab, _, rfl, rfl, ⟨List.mem_cons_of_mem _ HX.out.2.2.2.1, List.mem_cons_of_mem _ HX.out.2.2.2.2.1, List.mem_cons_self⟩, fun q hq => List.mem_cons_of_mem _ hq, by have := HLM.out; simp only [List.length_append, List.length_cons, List.length_nil]; omega, o6⟩
                  have HP := Lib.hid hP
                  have hbs := chg_setC hb5 (b := yb) (k := 3) (.slice b2 (X.C.R.length + 1) e2)
                  clear hrow o6 hP k2 ch2 f2 hf5
                  refine HKK.out _ _ (HPP.out _ hb5) ?_
                  clear HKK K
                  refine wpAnyH_seg 9 1 _ #[true, true, true, true, true, true, true, true, true, true, false] 1 (by kernel_rfl) noPanic_put (HPP.out _ hb5) (by kernel_rfl) ?_
                  simp only [List.take_succ_cons, List.take_zero, List.drop_succ_cons, List.drop_zero]
                  repeat (first
                    | (refine wpSegH_no (by rfl) ?_; simp only [Act.put, List.setIfInBounds_toArray, List.set_cons_zero, List.set_cons_succ])
                    | (refine wpSegH_yes (by rfl) ?_; apply Exists.intro; apply And.intro; (· (intro wx hS; (try dsimp only at hS); go_simp; first | done | with_reducible rfl)); simp only [Act.put, List.setIfInBounds_toArray, List.set_cons_zero, List.set_cons_succ]))
                  refine wpSegH_nil ?_
                  refine wpAnyH_one 10 _ #[true, true, true, true, true, true, true, true, true, true, true] 0 (by kernel_rfl) (fun K hK => ?_)
                  have HKK := Lib.hid hK
                  clear hK
                  simp only [List.drop_succ_cons, List.drop_zero]
                  refine headH_mk (by rfl) ?_
                  go_simp
                  refine HKK.out _ _ (HPQ.out _ hbs) ?_
                  clear HKK K
                  refine wpAnyH_done (by kernel_rfl) (NoPanic.normal ?_) _
                  go_wp2_with fail
                  go_meet
                  exact ⟨rfl, _, _, _, _, _, HP.out⟩
                · skip
                  have HKK := Lib.hid hK
                  clear hK
                  simp only [List.drop_succ_cons, List.drop_zero]
                  refine headH_mk (by rfl) ?_
                  go_simp
                  refine HKK.out _ _ (HPP.out _ (by repeat (first | exact Below.refl _ _ | refine Below.drew ?_ | refine below_drewN ?_ _ | refine Below.alloc ?_ (by first | (simp; done) | (simp; omega)) _))) ?_
                  clear HKK K
                  refine wpAnyH_one 0 _ #[true, true, true, false, true, true, true, true, false, false, false] 4 (by kernel_rfl) (fun K hK => ?_)
                  have HKK := Lib.hid hK
                  clear hK
                  simp only [List.drop_zero]
                  refine headH_mk (by rfl) ?_
                  go_simp
                  refine HKK.out _ _ (HPP.out _ (by repeat (first | exact Below.refl _ _ | refine Below.drew ?_ | refine below_drewN ?_ _ | refine Below.alloc ?_ (by first | (simp; done) | (simp; omega)) _))) ?_
                  clear HKK K
                  refine wpAnyH_one 3 _ #[true, true, true, true, true, true, true, true, false, false, false] 3 (by kernel_rfl) (fun K hK => ?_)
                  have HKK := Lib.hid hK
                  clear hK
                  simp only [List.drop_succ_cons, List.drop_zero]
                  refine headH_mk (by rfl) ?_
                  refine wp_append_rowG (n := 0) (m := X.C.R.length) (cs := []) (ds := wtc X.C.R) _ _ 51 (by rfl) 66 i0 _ Try.underlying51 Hi.out Hz0.out Hz1.out Hz2.out rfl (by omega) (by omega) (by rfl) (by rfl) (RowG.zero (by first | (simp; done) | (simp; omega))) (HROW.out.below (by repeat (first | exact Below.refl _ _ | refine Below.drew ?_ | refine below_drewN ?_ _ | refine Below.alloc ?_ (by first | (simp; done) | (simp; omega)) _))).cells (by rw [wtc_len]) (wtc_one _) (by omega) ?_
                  intro b1 e1 w4 k1 ch1 f1
                  have hb4 : Below W.heap.size W w4 := Chg.below (by repeat (first | exact Below.refl _ _ | refine Below.drew ?_ | refine below_drewN ?_ _ | refine Below.alloc ?_ (by first | (simp; done) | (simp; omega)) _)) ch1 (fun x hx => by simp [blk] at hx; omega)
                  have hf4 : ∀ x ∈ blk b1, W.heap.size ≤ x := fun x hx => by
                    rcases f1 x hx with h | h
                    · simp [blk] at h; omega
                    · first | omega | (simp at h; omega)
                  have K1 : Hid (RowG 3 w4 b1 e1 X.C.R.length (wtc X.C.R)) := Lib.hid (by simpa using k1)
                  have CH1 := Lib.hid ch1
                  clear k1 ch1 f1
                  refine HKK.out _ _ (HPP.out _ hb4) ?_
                  rw [Nat.zero_add]
                  clear HKK K
                  refine wpAnyH_one 8 _ #[true, true, true, true, true, true, true, true, true, false, false] 2 (by kernel_rfl) (fun K hK => ?_)
                  have HKK := Lib.hid hK
                  clear hK
                  simp only [List.drop_succ_cons, List.drop_zero]
                  refine headH_mk (by rfl) ?_
                  refine wp_append_rowG (n := X.C.R.length) (m := 1) (cs := wtc X.C.R) (ds := wtc [(g, 0, 0)]) _ _ 51 (by rfl) 66 i0 _ Try.underlying51 Hi.out Hz0.out Hz1.out Hz2.out rfl (by omega) (by omega) (by first | rfl | simp) (by rfl) K1.out (CellsAt.chg (by first | exact CellsAt.new _ (wtc [(g, 0, 0)]) _ (by first | rfl | simp) | exact CellsAt.below (CellsAt.new _ (wtc [(g, 0, 0)]) _ (by first | rfl | simp)) (by repeat (first | exact Below.refl _ _ | refine Below.drew ?_ | refine below_drewN ?_ _ | refine Below.alloc ?_ (by first | (simp; done) | (simp; omega)) _))) CH1.out (by simp [blk])) rfl (wtc_one _) (by omega) ?_
                  intro b2 e2 w5 k2 ch2 f2
                  have hb5 : Below W.heap.size W w5 := Chg.below hb4 ch2 (fun x hx => hf4 x hx)
                  have hf5 : ∀ x ∈ blk b2, W.heap.size ≤ x := fun x hx => by
                    rcases f2 x hx with h | h
                    · exact hf4 x h
                    · have := hb4.size; first | omega | (simp at h; omega)
                  obtain ⟨x2', xm2'⟩ := (HWO.out.step hb5).celIn 3 _ rfl
                  have hrow : RowG 3 w5 b2 e2 (X.C.R ++ [(g, 0, 0)]).length (wtc (X.C.R ++ [(g, 0, 0)])) := by rw [hln, wtc_app]; exact k2
                  have o6 := (Own.rAddIn HWO.out hb5 hrow hf5).setIn 3 (.slice b2 (X.C.R ++ [(g, 0, 0)]).length e2)
                  have hP : MidM w (some ⟨lb, lo, none⟩) lc (some ⟨xb, xo, none⟩) xc ps Cs xs rs j yb X.N (i + 1) [.int .i64 (X.N : Int), .slice X.ba X.C.buf.length X.bc, .slice X.sa X.C.S.length X.sc, .slice b2 (X.C.R ++ [(g, 0, 0)]).length e2, .bool X.C.cl] (w5.setCell ⟨yb, 3, none⟩ (.slice b2 (X.C.R.length + 1) e2)) := by
                    rw [← hln]; exact ⟨⟨X.N, ⟨X.C.buf, X.C.S, X.C.R ++ [(g, 0, 0)], X.C.cl⟩, X.ba, X.bc, X.sa, X.sc, b2, e2⟩, _, ab, _, rfl, rfl, ⟨List.mem_cons_of_mem _ HX.out.2.2.2.1, List.mem_cons_of_mem _ HX.out.2.2.2.2.1, List.mem_cons_self⟩, fun q hq => List.mem_cons_of_mem _ hq, by have := HLM.out; simp only [List.length_append, List.length_cons, List.length_nil]; omega, o6⟩
                  have HP := Lib.hid hP
                  have hbs := chg_setC hb5 (b := yb) (k := 3) (.slice b2 (X.C.R.length + 1) e2)
                  clear hrow o6 hP k2 ch2 f2 hf5
                  refine HKK.out _ _ (HPP.out _ hb5) ?_
                  clear HKK K
                  refine wpAnyH_seg 9 1 _ #[true, true, true, true, true, true, true, true, true, true, false] 1 (by kernel_rfl) noPanic_put (HPP.out _ hb5) (by kernel_rfl) ?_
                  simp only [List.take_succ_cons, List.take_zero, List.drop_succ_cons, List.drop_zero]
                  repeat (first
                    | (refine wpSegH_no (by rfl) ?_; simp only [Act.put, List.setIfInBounds_toArray, List.set_cons_zero, List.set_cons_succ])
                    | (refine wpSegH_yes (by rfl) ?_; apply Exists.intro; apply And.intro; (· (intro wx hS; (try dsimp only at hS); go_simp; first | done | with_reducible rfl)); simp only [Act.put, List.setIfInBounds_toArray, List.set_cons_zero, List.set_cons_succ]))
                  refine wpSegH_nil ?_
                  refine wpAnyH_one 10 _ #[true, true, true, true, true, true, true, true, true, true, true] 0 (by kernel_rfl) (fun K hK => ?_)
                  have HKK := Lib.hid hK
                  clear hK
                  simp only [List.drop_succ_cons, List.drop_zero]
                  refine headH_mk (by rfl) ?_
                  go_simp
                  refine HKK.out _ _ (HPQ.out _ hbs) ?_
                  clear HKK K
                  refine wpAnyH_done (by kernel_rfl) (NoPanic.normal ?_) _
                  go_wp2_with fail
                  go_meet
                  exact ⟨rfl, _, _, _, _, _, HP.out⟩
        · obtain ⟨ps, Cs, xs, rs, h1, h2⟩ := hr.out
          have HF : Hid (MadeP w (.returned (.tuple #[.slice la 3 lc, .slice xa 3 xc])) wr) := Lib.hid ⟨la, lc, xa, xc, ps, Cs, xs, rs, rfl, h1, h2.mono (by omega)⟩
          have hcase : (i < len ∧ ¬ i < 20) ∨ ¬ i < len := by omega
          clear hr h1 h2
          rcases hcase with ⟨c1, c2⟩ | c1
          · have c1 : (i : Int) < (len : Int) := by omega
            have c2 : ¬ (i : Int) < 20 := by omega
            go_wp2
            go_ret2
            exact HF.out
          · have c1 : ¬ (i : Int) < (len : Int) := by omega
            go_wp2
            go_ret2
            exact HF.out
end Go.Proofs.Ytphjgfjfeehjhaa
