/-
  The walk of the law ChansPlays.
-/
import Derived.Test.YthfleeimhnenpaaWDoes9
import Derived.Test.YthfleeimhnenpaaPool
import Derived.Test.YthfleeimhnenpaaSegH2
import Derived.Test.YthfleeimhnenpaaActsCh
import Derived.Test.YthfleeimhnenpaaWCh6
import Derived.OpenShut
import Derived.LoopTactic
open Go Go.RowKit
set_option linter.unusedVariables false
namespace Go.Proofs.Ythfleeimhnenpaa.chansPlays
def dptr (d : Option Nat) : Value := .pointer (d.map fun q => ⟨q, 0, none⟩)
def DA (d : Option Nat) (N : Nat) (Y : Ch) : Asr := match d with
  | none => EmpA
  | some q => ChanA q N Y
abbrev xce (N : Nat) (C : Ch) (ba : Option Addr) (bc : Nat) (sa : Option Addr) (sc : Nat) (ra : Option Addr) (rc : Nat) : List Value := [.int .i64 (N : Int), .slice ba C.buf.length bc, .slice sa C.S.length sc, .slice ra C.R.length rc, .bool C.cl]
def Sml (C : Ch) (i : Nat) : Prop := C.buf.length ≤ i ∧ C.S.length ≤ i ∧ C.R.length ≤ i
/-- Behind some calls. -/
def St (w1 w : World) (p bx byy i N : Nat) (dq : Option Nat) : Prop :=
  ∃ (X Y : Ch) (rs : List Rw) (ba : Option Addr) (bc : Nat) (sa : Option Addr) (sc : Nat) (ra : Option Addr) (rc : Nat) (ba' : Option Addr) (bc' : Nat) (sa' : Option Addr) (sc' : Nat) (ra' : Option Addr) (rc' : Nat), Sml X i ∧ Sml Y i ∧ RefIn rs ba bc sa sc ra rc X ∧ RefIn rs ba' bc' sa' sc' ra' rc' Y ∧
    Own w1 w [PoolR rs, ChanA p N X, CelA bx (xce N X ba bc sa sc ra rc), CelA byy (xce N Y ba' bc' sa' sc' ra' rc'), DA dq N Y]
theorem St.bel {w1 w : World} {p bx byy i N : Nat} {dq : Option Nat} (h : St w1 w p bx byy i N dq) : Below w1.heap.size w1 w := by
  obtain ⟨X, Y, rs, ba, bc, sa, sc, ra, rc, ba', bc', sa', sc', ra', rc', _, _, _, _, h⟩ := h; exact h.bel
/-- Behind a call, its answer still apart. -/
def Mid (w1 w : World) (p bx byy i N : Nat) (dq : Option Nat) (s : Nat) : Prop :=
  ∃ (X X' Y : Ch) (rs : List Rw) (ba : Option Addr) (bc : Nat) (sa : Option Addr) (sc : Nat) (ra : Option Addr) (rc : Nat) (ca : Option Addr) (cc : Nat) (ta : Option Addr) (tc : Nat) (ua : Option Addr) (uc : Nat) (ba' : Option Addr) (bc' : Nat) (sa' : Option Addr) (sc' : Nat) (ra' : Option Addr) (rc' : Nat), Sml X' (i + 1) ∧ Sml Y (i + 1) ∧ RefIn rs ca cc ta tc ua uc X' ∧ RefIn rs ba' bc' sa' sc' ra' rc' Y ∧
    Own w1 w (CelA s (xce N X' ca cc ta tc ua uc) :: PoolR rs :: ChanA p N X' :: CelA bx (xce N X ba bc sa sc ra rc) :: CelA byy (xce N Y ba' bc' sa' sc' ra' rc') :: DA dq N Y :: [])
set_option maxRecDepth 100000 in
set_option maxHeartbeats 4000000 in
theorem walk (a0 : Int) (a1 : Option Addr) (len1 cap1 : Nat) (l1 : List Ac5) (a2 : Int) (w : World) (v0 : (Lit.int .i64 a0).wf = true) (w1' : IsActsCh w a1 len1 cap1 l1) (v2 : (Lit.int .i64 a2).wf = true) :
    Calls Try.prog 3 #[.int .i64 a0, .slice a1 len1 cap1, .int .i64 a2] w fun e w' => e = .returned (.bool true) ∧ Below w.heap.size w w' := by
  obtain ⟨hm0, hlc0, hcm0, hat0⟩ := w1'
  have HAT := Lib.hid hat0
  have HM := Lib.hid hm0
  have hlm0 : len1 ≤ maxLen := Nat.le_trans hlc0 hcm0
  unfold maxLen at hlm0
  clear hat0 hm0 hlc0 hcm0 v0 v2
  have hn1 : ∀ w, (binOp .eql 24 (.pointer none) (.pointer none)).run Try.prog w = .ok (.bool true) w := fun w => by rfl
  have hn2 : ∀ w p, (binOp .eql 24 (.pointer (some ⟨p, 0, none⟩)) (.pointer none)).run Try.prog w = .ok (.bool false) w := fun w p => by rfl
  have HN1 := Lib.hid hn1
  have HN2 := Lib.hid hn2
  clear hn1 hn2
  go_enter Try.func3, Try.ntmps3
  go_wp2_with fail
  refine (awake13_any _).mono ?_
  rintro e w1 ⟨rfl, hb1⟩
  have B1 := Lib.hid hb1; clear hb1
  go_wp2_with fail
  refine (cnew_any (w0 := w1) (Own.nil (Below.refl _ _)) a0).mono ?_
  rintro r w2 ⟨p, rfl, h2, -⟩
  obtain ⟨N, hN⟩ : ∃ N, N = roomC a0 := ⟨_, rfl⟩
  have hN16 : N ≤ 16 := by rw [hN]; exact roomC_le _
  have HN := Lib.hid hN
  rw [← hN] at h2
  have H2 := Lib.hid h2; clear h2 hN
  go_wp2_with fail
  refine (xcnew_any a0 _).mono ?_
  rintro r w3 ⟨rfl, hb3⟩
  rw [← HN.out]
  unfold xcv
  simp only [List.length_nil]
  have H3 := Lib.hid (H2.out.step hb3)
  clear hb3
  have hst : ∃ bx byy, bx = w3.heap.size ∧ byy = w3.heap.size + 1 ∧ St w1 ((w3.alloc (.cells #[.int .i64 (N : Int), .slice none 0 0, .slice none 0 0, .slice none 0 0, .bool false] 29)).alloc (.cells #[.int .i64 (N : Int), .slice none 0 0, .slice none 0 0, .slice none 0 0, .bool false] 29)) p bx byy 0 N none := by
    refine ⟨_, _, rfl, rfl, ⟨[], [], [], false⟩, ⟨[], [], [], false⟩, [(1, none, 0, 0, []), (3, none, 0, 0, [])], none, 0, none, 0, none, 0, none, 0, none, 0, none, 0, ⟨by simp, by simp, by simp⟩, ⟨by simp, by simp, by simp⟩, ⟨by simp [intc], by simp [wtc], by simp [wtc]⟩, ⟨by simp [intc], by simp [wtc], by simp [wtc]⟩, ?_⟩
    have h3 := (H3.out.alloc [.int .i64 (N : Int), .slice none 0 0, .slice none 0 0, .slice none 0 0, .bool false] 29 rfl).alloc [.int .i64 (N : Int), .slice none 0 0, .slice none 0 0, .slice none 0 0, .bool false] 29 (b := w3.heap.size + 1) (by simp)
    have h4 := h3.add (Below.refl _ _) (A := PoolR [(1, none, 0, 0, []), (3, none, 0, 0, [])]) (F := []) ⟨fun x hx => by simp at hx, fun r hr => by
      simp at hr
      rcases hr with rfl | rfl
      · exact ⟨fun x hx => by simp [blk] at hx, RowG.nil _ _⟩
      · exact ⟨fun x hx => by simp [blk] at hx, RowG.nil _ _⟩⟩ (fun x hx => by simp at hx)
    have h5 := h4.add (Below.refl _ _) (A := DA none N ⟨[], [], [], false⟩) (F := []) rfl (fun x hx => by simp at hx)
    have h6 := h5.rev
    simp only [List.reverse_cons, List.reverse_nil, List.nil_append, List.cons_append] at h6
    exact h6.pick 3 rfl
  obtain ⟨bx, byy, hbx, hby, hst⟩ := hst
  have HST := Lib.hid hst
  go_upto_region 6 with fail
  rw [← hby, ← hbx]
  clear hst hbx hby H2 H3
  have hcp : ∃ dq, Value.pointer none = dptr dq ∧ Hid (St w1 ((w3.alloc (.cells #[.int .i64 (N : Int), .slice none 0 0, .slice none 0 0, .slice none 0 0, .bool false] 29)).alloc (.cells #[.int .i64 (N : Int), .slice none 0 0, .slice none 0 0, .slice none 0 0, .bool false] 29)) p bx byy 0 N dq) := ⟨none, rfl, HST⟩
  generalize (w3.alloc (.cells #[.int .i64 (N : Int), .slice none 0 0, .slice none 0 0, .slice none 0 0, .bool false] 29)).alloc (.cells #[.int .i64 (N : Int), .slice none 0 0, .slice none 0 0, .slice none 0 0, .bool false] 29) = W0 at *
  clear HST
  go_wp2_with fail
  go_loopw [9, 11] (fun d iv wr => ∃ i : Nat, i ≤ 50 ∧ iv = .int .i64 i ∧ ∃ dq, d = dptr dq ∧ Hid (St w1 wr p bx byy i N dq)) (fun _ iv _ => 50 - (intOf iv).toNat)
  case atStart =>
    obtain ⟨dq, h1, h2⟩ := hcp
    exact ⟨0, by omega, rfl, dq, h1, h2⟩
  case round =>
    obtain ⟨i, hi, rfl, dq, rfl, hr⟩ := hrel
    clear hcp HN
    by_cases hlt : i < len1 ∧ i < 50
    · obtain ⟨q1, q2⟩ := hlt
      obtain ⟨b, off, rfl, z0, z1, z2, z3, z4⟩ := HAT.out i (by have := HM.out; omega)
      generalize l1[i]'(by have := HM.out; omega) = x at z0 z1 z2 z3 z4
      obtain ⟨kd, v, g, cs, wn⟩ := x
      simp only at z0 z1 z2 z3 z4
      have hi1 : (i : Int) < (len1 : Int) := by omega
      have hi2 : (i : Int) < 50 := by omega
      have Z0 := Lib.hid (And.intro (cell_below z0 B1.out) (And.intro (cell_below z1 B1.out) (And.intro (cell_below z2 B1.out) (And.intro (cell_below z3 B1.out) (cell_below z4 B1.out)))))
      clear z0 z1 z2 z3 z4
      go_upto_if 33 with fail
      go_cut [9] (fun s9 wx => ∃ dq, s9 = dptr dq ∧ Hid (St w1 wx p bx byy i N dq))
      case first =>
        have hS := hr
        obtain ⟨X, Y, rs, ba, bc, sa, sc, ra, rc, ba', bc', sa', sc', ra', rc', k1, k2, k3, k4, k5⟩ := hr.out
        have K1 := Lib.hid k1
        have K3 := Lib.hid k3
        have K4 := Lib.hid k4
        have K5 := Lib.hid k5
        by_cases hc : (i : Int) = a2
        · have hc1 : ((i : Int) == a2) = true := by rw [beq_iff_eq]; exact hc
          clear hc
          obtain ⟨g0, gm0⟩ := k5.cel 2 rfl 0 _ rfl
          obtain ⟨g1, gm1⟩ := k5.cel 2 rfl 1 _ rfl
          obtain ⟨g2, gm2⟩ := k5.cel 2 rfl 2 _ rfl
          obtain ⟨g3, gm3⟩ := k5.cel 2 rfl 3 _ rfl
          obtain ⟨g4, gm4⟩ := k5.cel 2 rfl 4 _ rfl
          obtain ⟨y0, ym0⟩ := k5.cel 3 rfl 0 _ rfl
          obtain ⟨y1, ym1⟩ := k5.cel 3 rfl 1 _ rfl
          obtain ⟨y2, ym2⟩ := k5.cel 3 rfl 2 _ rfl
          obtain ⟨y3, ym3⟩ := k5.cel 3 rfl 3 _ rfl
          obtain ⟨y4, ym4⟩ := k5.cel 3 rfl 4 _ rfl
          have hblt := World.block_lt_of_cell? wr _ y0
          have HST1 : Hid (CR byy 5 wr wr) := Lib.hid (CR.start (Room.of_blk (cs := xce N Y ba' bc' sa' sc' ra' rc') (k5.cel 3 rfl) hblt))
          have hne : bx ≠ byy := by
            obtain ⟨_, Fs, ⟨F0, F1, rfl, e0, e0', ⟨F1, F2, rfl, e1, e2, ⟨F3, F4, rfl, e3, e4, ⟨F5, F6, rfl, e5, e6, _⟩⟩⟩⟩, _⟩ := k5
            obtain ⟨rfl, _⟩ := e3
            obtain ⟨rfl, _⟩ := e5
            intro e; subst e
            exact e4 bx (by simp) (by simp)
          have hK : ∀ wx, CR byy 5 wr wx → (wx.cell? ⟨bx, 0, none⟩ = some (.int .i64 (N : Int)) ∧ wx.cell? ⟨bx, 1, none⟩ = some (.slice ba X.buf.length bc) ∧ wx.cell? ⟨bx, 2, none⟩ = some (.slice sa X.S.length sc) ∧ wx.cell? ⟨bx, 3, none⟩ = some (.slice ra X.R.length rc) ∧ wx.cell? ⟨bx, 4, none⟩ = some (.bool X.cl) ∧ CR byy 5 wr wx) := fun wx h => ⟨cell_chg g0 h.1 (by simp; exact hne), cell_chg g1 h.1 (by simp; exact hne), cell_chg g2 h.1 (by simp; exact hne), cell_chg g3 h.1 (by simp; exact hne), cell_chg g4 h.1 (by simp; exact hne), h⟩
          have HK := Lib.hid hK
          have HCL := Lib.hid (fun wx (hb : Below wr.heap.size wr wx) => cclone_any ((k5.step hb).pick 1 rfl) (by have := k1.1; omega) (by have := k1.2.1; omega) (by have := k1.2.2; omega))
          clear hblt hne hK k1 k2 k3 k4 k5 ym0 ym1 ym2 ym3 ym4 gm0 gm1 gm2 gm3 gm4 y0 y1 y2 y3 y4
          go_wp2_with fail
          go_region_held3 (fun wx => wx.cell? ⟨bx, 0, none⟩ = some (.int .i64 (N : Int)) ∧ wx.cell? ⟨bx, 1, none⟩ = some (.slice ba X.buf.length bc) ∧ wx.cell? ⟨bx, 2, none⟩ = some (.slice sa X.S.length sc) ∧ wx.cell? ⟨bx, 3, none⟩ = some (.slice ra X.R.length rc) ∧ wx.cell? ⟨bx, 4, none⟩ = some (.bool X.cl) ∧ CR byy 5 wr wx)
            ((refine HK.out _ ?_; repeat (first | exact HST1.out | exact cr1 | exact lim5 (by assumption) | refine CR.drew ?_ | refine CR.drewN ?_ _ | refine CR.set ?_ _ _ | refine CR.step ?_ (below_alloc1 _ _))))
            ((go_at_call 13; refine (HCL.out _ (by repeat (first | exact Below.refl _ _ | refine Below.drew ?_ | refine below_drewN ?_ _))).mono ?_; rintro r w3 ⟨q, rfl, m1, m3⟩
              have b3 : Below wr.heap.size wr w3 := by first | exact m3 | exact below_on (below_drew1 _) m3
              have cr1 : CR byy 5 wr w3 := CR.step HST1.out b3
              obtain ⟨vv0, ev0, mv0⟩ := cr1.2.at 0 (by omega)
              obtain ⟨vv1, ev1, mv1⟩ := cr1.2.at 1 (by omega)
              obtain ⟨vv2, ev2, mv2⟩ := cr1.2.at 2 (by omega)
              obtain ⟨vv3, ev3, mv3⟩ := cr1.2.at 3 (by omega)
              obtain ⟨vv4, ev4, mv4⟩ := cr1.2.at 4 (by omega)))
          all_goals
            have hE : St w1 ((((((w3).setCell ⟨byy, 0, none⟩ (.int .i64 (N : Int))).setCell ⟨byy, 1, none⟩ (.slice ba X.buf.length bc)).setCell ⟨byy, 2, none⟩ (.slice sa X.S.length sc)).setCell ⟨byy, 3, none⟩ (.slice ra X.R.length rc)).setCell ⟨byy, 4, none⟩ (.bool X.cl)) p bx byy i N (some q) := by
              have o2 := ((((m1.setAt 4 rfl 0 (.int .i64 (N : Int))).setAt 4 rfl 1 (.slice ba X.buf.length bc)).setAt 4 rfl 2 (.slice sa X.S.length sc)).setAt 4 rfl 3 (.slice ra X.R.length rc)).setAt 4 rfl 4 (.bool X.cl)
              have o3 : Own w1 ((((((w3).setCell ⟨byy, 0, none⟩ (.int .i64 (N : Int))).setCell ⟨byy, 1, none⟩ (.slice ba X.buf.length bc)).setCell ⟨byy, 2, none⟩ (.slice sa X.S.length sc)).setCell ⟨byy, 3, none⟩ (.slice ra X.R.length rc)).setCell ⟨byy, 4, none⟩ (.bool X.cl)) (ChanA q N X :: ChanA p N X :: PoolR rs :: CelA bx (xce N X ba bc sa sc ra rc) :: CelA byy (xce N X ba bc sa sc ra rc) :: DA dq N Y :: []) := o2
              have o4 := (o3.pick 5 rfl).drop
              exact ⟨X, X, rs, ba, bc, sa, sc, ra, rc, ba, bc, sa, sc, ra, rc, K1.out, K1.out, K3.out, K3.out, (((o4.pick 4 rfl).pick 4 rfl).pick 3 rfl).pick 4 rfl⟩
            have HE := Lib.hid hE
            rename_i hHeld
            clear hE hHeld m1 m3 b3 cr1
            go_wp2_with fail
            go_meet
            exact ⟨some q, rfl, HE⟩
        · have hc1 : ((i : Int) == a2) = false := by rw [beq_eq_false_iff_ne]; exact hc
          clear hc
          go_wp2_with fail
          go_meet
          exact ⟨dq, rfl, hS⟩
      case rest =>
        clear hr
        obtain ⟨dq2, rfl, hr⟩ := hcut
        obtain ⟨X, Y, rs, ba, bc, sa, sc, ra, rc, ba', bc', sa', sc', ra', rc', k1, k2, k3, k4, k5⟩ := hr.out
        have K1 := Lib.hid k1
        have K2 := Lib.hid k2
        have K3 := Lib.hid k3
        have K4 := Lib.hid k4
        have K5 := Lib.hid k5
        clear hr
        go_upto_region 11 with fail
        go_cut [12, 13] (fun s12 s13 wx => s13 = .bool true ∧ ∃ s, s12 = .pointer (some ⟨s, 0, none⟩) ∧ Hid (Mid w1 wx p bx byy i N dq2 s))
        case first =>
          obtain ⟨g0, gm0⟩ := k5.cel 2 rfl 0 _ rfl
          obtain ⟨g1, gm1⟩ := k5.cel 2 rfl 1 _ rfl
          obtain ⟨g2, gm2⟩ := k5.cel 2 rfl 2 _ rfl
          obtain ⟨g3, gm3⟩ := k5.cel 2 rfl 3 _ rfl
          obtain ⟨g4, gm4⟩ := k5.cel 2 rfl 4 _ rfl
          have hdo : ∀ w', Below wc.heap.size wc w' → Calls Try.prog 14 #[.pointer (some ⟨p, 0, none⟩), .agg #[.int .i64 (N : Int), .slice ba X.buf.length bc, .slice sa X.S.length sc, .slice ra X.R.length rc, .bool X.cl], .agg #[.int .i64 kd, .int .i64 v, .int .i64 g, .int .i64 cs, .int .i64 wn]] w' fun r w'' => DoesP p N X rs w1 [CelA bx (xce N X ba bc sa sc ra rc), CelA byy (xce N Y ba' bc' sa' sc' ra' rc'), DA dq2 N Y] r w'' := fun w' hb => does_any (k5.step hb) k3 kd v g cs wn ⟨by have := k1.1; omega, by have := k1.2.1; omega, by have := k1.2.2; omega⟩ (by omega)
          have hda : ∀ w', Below wc.heap.size wc w' → Calls Try.prog 14 #[.pointer (some ⟨p, 0, none⟩), .agg #[.int .i64 (N : Int), .slice ba X.buf.length bc, .slice sa X.S.length sc, .slice ra X.R.length rc, .bool X.cl], .agg #[.int .i64 kd, .int .i64 v, .int .i64 g, .int .i64 cs, .int .i64 wn]] (w'.alloc (.cells #[.int .i64 0, .slice none 0 0, .slice none 0 0, .slice none 0 0, .bool false] 29)) fun r w'' => DoesP p N X rs w1 [CelA w'.heap.size [.int .i64 0, .slice none 0 0, .slice none 0 0, .slice none 0 0, .bool false], CelA bx (xce N X ba bc sa sc ra rc), CelA byy (xce N Y ba' bc' sa' sc' ra' rc'), DA dq2 N Y] r w'' := fun w' hb => does_any ((((k5.step hb).alloc [.int .i64 0, .slice none 0 0, .slice none 0 0, .slice none 0 0, .bool false] 29 rfl).pick 2 rfl).pick 2 rfl) k3 kd v g cs wn ⟨by have := k1.1; omega, by have := k1.2.1; omega, by have := k1.2.2; omega⟩ (by omega)
          have hs : ∀ wx, Below wc.heap.size wc wx → ((wx.cell? ⟨bx, 0, none⟩ = some (.int .i64 (N : Int)) ∧ wx.cell? ⟨bx, 1, none⟩ = some (.slice ba X.buf.length bc) ∧ wx.cell? ⟨bx, 2, none⟩ = some (.slice sa X.S.length sc) ∧ wx.cell? ⟨bx, 3, none⟩ = some (.slice ra X.R.length rc) ∧ wx.cell? ⟨bx, 4, none⟩ = some (.bool X.cl)) ∧ wx.cell? ⟨b, off + i * 5, none⟩ = some (.int .i64 kd) ∧ wx.cell? ⟨b, off + i * 5 + 1, none⟩ = some (.int .i64 v) ∧ wx.cell? ⟨b, off + i * 5 + 2, none⟩ = some (.int .i64 g) ∧ wx.cell? ⟨b, off + i * 5 + 3, none⟩ = some (.int .i64 cs) ∧ wx.cell? ⟨b, off + i * 5 + 4, none⟩ = some (.int .i64 wn)) := fun wx hb => ⟨⟨cell_below g0 hb, cell_below g1 hb, cell_below g2 hb, cell_below g3 hb, cell_below g4 hb⟩, cell_below (cell_below Z0.out.1 k5.bel) hb, cell_below (cell_below Z0.out.2.1 k5.bel) hb, cell_below (cell_below Z0.out.2.2.1 k5.bel) hb, cell_below (cell_below Z0.out.2.2.2.1 k5.bel) hb, cell_below (cell_below Z0.out.2.2.2.2 k5.bel) hb⟩
          have hso : ∀ wx rs' X' (R' : List Asr) (u : Unit), Own w1 wx (PoolR rs' :: ChanA p N X' :: CelA bx (xce N X ba bc sa sc ra rc) :: R') → ((wx.cell? ⟨bx, 0, none⟩ = some (.int .i64 (N : Int)) ∧ wx.cell? ⟨bx, 1, none⟩ = some (.slice ba X.buf.length bc) ∧ wx.cell? ⟨bx, 2, none⟩ = some (.slice sa X.S.length sc) ∧ wx.cell? ⟨bx, 3, none⟩ = some (.slice ra X.R.length rc) ∧ wx.cell? ⟨bx, 4, none⟩ = some (.bool X.cl)) ∧ wx.cell? ⟨b, off + i * 5, none⟩ = some (.int .i64 kd) ∧ wx.cell? ⟨b, off + i * 5 + 1, none⟩ = some (.int .i64 v) ∧ wx.cell? ⟨b, off + i * 5 + 2, none⟩ = some (.int .i64 g) ∧ wx.cell? ⟨b, off + i * 5 + 3, none⟩ = some (.int .i64 cs) ∧ wx.cell? ⟨b, off + i * 5 + 4, none⟩ = some (.int .i64 wn)) := fun wx rs' X' R' _ o => ⟨⟨(o.cel 2 rfl 0 _ rfl).1, (o.cel 2 rfl 1 _ rfl).1, (o.cel 2 rfl 2 _ rfl).1, (o.cel 2 rfl 3 _ rfl).1, (o.cel 2 rfl 4 _ rfl).1⟩, cell_below Z0.out.1 o.bel, cell_below Z0.out.2.1 o.bel, cell_below Z0.out.2.2.1 o.bel, cell_below Z0.out.2.2.2.1 o.bel, cell_below Z0.out.2.2.2.2 o.bel⟩
          have hsp : ∀ wx rs' X' (C' : Asr) (R' : List Asr) (u : Unit), Own w1 wx (PoolR rs' :: ChanA p N X' :: C' :: CelA bx (xce N X ba bc sa sc ra rc) :: R') → ((wx.cell? ⟨bx, 0, none⟩ = some (.int .i64 (N : Int)) ∧ wx.cell? ⟨bx, 1, none⟩ = some (.slice ba X.buf.length bc) ∧ wx.cell? ⟨bx, 2, none⟩ = some (.slice sa X.S.length sc) ∧ wx.cell? ⟨bx, 3, none⟩ = some (.slice ra X.R.length rc) ∧ wx.cell? ⟨bx, 4, none⟩ = some (.bool X.cl)) ∧ wx.cell? ⟨b, off + i * 5, none⟩ = some (.int .i64 kd) ∧ wx.cell? ⟨b, off + i * 5 + 1, none⟩ = some (.int .i64 v) ∧ wx.cell? ⟨b, off + i * 5 + 2, none⟩ = some (.int .i64 g) ∧ wx.cell? ⟨b, off + i * 5 + 3, none⟩ = some (.int .i64 cs) ∧ wx.cell? ⟨b, off + i * 5 + 4, none⟩ = some (.int .i64 wn)) := fun wx rs' X' C' R' _ o => ⟨⟨(o.cel 3 rfl 0 _ rfl).1, (o.cel 3 rfl 1 _ rfl).1, (o.cel 3 rfl 2 _ rfl).1, (o.cel 3 rfl 3 _ rfl).1, (o.cel 3 rfl 4 _ rfl).1⟩, cell_below Z0.out.1 o.bel, cell_below Z0.out.2.1 o.bel, cell_below Z0.out.2.2.1 o.bel, cell_below Z0.out.2.2.2.1 o.bel, cell_below Z0.out.2.2.2.2 o.bel⟩
          have hsb : ∀ wx wy, Below wx.heap.size wx wy → ((wx.cell? ⟨bx, 0, none⟩ = some (.int .i64 (N : Int)) ∧ wx.cell? ⟨bx, 1, none⟩ = some (.slice ba X.buf.length bc) ∧ wx.cell? ⟨bx, 2, none⟩ = some (.slice sa X.S.length sc) ∧ wx.cell? ⟨bx, 3, none⟩ = some (.slice ra X.R.length rc) ∧ wx.cell? ⟨bx, 4, none⟩ = some (.bool X.cl)) ∧ wx.cell? ⟨b, off + i * 5, none⟩ = some (.int .i64 kd) ∧ wx.cell? ⟨b, off + i * 5 + 1, none⟩ = some (.int .i64 v) ∧ wx.cell? ⟨b, off + i * 5 + 2, none⟩ = some (.int .i64 g) ∧ wx.cell? ⟨b, off + i * 5 + 3, none⟩ = some (.int .i64 cs) ∧ wx.cell? ⟨b, off + i * 5 + 4, none⟩ = some (.int .i64 wn)) → ((wy.cell? ⟨bx, 0, none⟩ = some (.int .i64 (N : Int)) ∧ wy.cell? ⟨bx, 1, none⟩ = some (.slice ba X.buf.length bc) ∧ wy.cell? ⟨bx, 2, none⟩ = some (.slice sa X.S.length sc) ∧ wy.cell? ⟨bx, 3, none⟩ = some (.slice ra X.R.length rc) ∧ wy.cell? ⟨bx, 4, none⟩ = some (.bool X.cl)) ∧ wy.cell? ⟨b, off + i * 5, none⟩ = some (.int .i64 kd) ∧ wy.cell? ⟨b, off + i * 5 + 1, none⟩ = some (.int .i64 v) ∧ wy.cell? ⟨b, off + i * 5 + 2, none⟩ = some (.int .i64 g) ∧ wy.cell? ⟨b, off + i * 5 + 3, none⟩ = some (.int .i64 cs) ∧ wy.cell? ⟨b, off + i * 5 + 4, none⟩ = some (.int .i64 wn)) := fun wx wy hb h => ⟨⟨cell_below h.1.1 hb, cell_below h.1.2.1 hb, cell_below h.1.2.2.1 hb, cell_below h.1.2.2.2.1 hb, cell_below h.1.2.2.2.2 hb⟩, cell_below h.2.1 hb, cell_below h.2.2.1 hb, cell_below h.2.2.2.1 hb, cell_below h.2.2.2.2.1 hb, cell_below h.2.2.2.2.2 hb⟩
          have hsc : ∀ wx wy s, bx < s ∧ b < s → ((wx.cell? ⟨bx, 0, none⟩ = some (.int .i64 (N : Int)) ∧ wx.cell? ⟨bx, 1, none⟩ = some (.slice ba X.buf.length bc) ∧ wx.cell? ⟨bx, 2, none⟩ = some (.slice sa X.S.length sc) ∧ wx.cell? ⟨bx, 3, none⟩ = some (.slice ra X.R.length rc) ∧ wx.cell? ⟨bx, 4, none⟩ = some (.bool X.cl)) ∧ wx.cell? ⟨b, off + i * 5, none⟩ = some (.int .i64 kd) ∧ wx.cell? ⟨b, off + i * 5 + 1, none⟩ = some (.int .i64 v) ∧ wx.cell? ⟨b, off + i * 5 + 2, none⟩ = some (.int .i64 g) ∧ wx.cell? ⟨b, off + i * 5 + 3, none⟩ = some (.int .i64 cs) ∧ wx.cell? ⟨b, off + i * 5 + 4, none⟩ = some (.int .i64 wn)) → Chg [s] wx wy → ((wy.cell? ⟨bx, 0, none⟩ = some (.int .i64 (N : Int)) ∧ wy.cell? ⟨bx, 1, none⟩ = some (.slice ba X.buf.length bc) ∧ wy.cell? ⟨bx, 2, none⟩ = some (.slice sa X.S.length sc) ∧ wy.cell? ⟨bx, 3, none⟩ = some (.slice ra X.R.length rc) ∧ wy.cell? ⟨bx, 4, none⟩ = some (.bool X.cl)) ∧ wy.cell? ⟨b, off + i * 5, none⟩ = some (.int .i64 kd) ∧ wy.cell? ⟨b, off + i * 5 + 1, none⟩ = some (.int .i64 v) ∧ wy.cell? ⟨b, off + i * 5 + 2, none⟩ = some (.int .i64 g) ∧ wy.cell? ⟨b, off + i * 5 + 3, none⟩ = some (.int .i64 cs) ∧ wy.cell? ⟨b, off + i * 5 + 4, none⟩ = some (.int .i64 wn)) := fun wx wy s hb h c => ⟨⟨cell_chg h.1.1 c (by simp; omega), cell_chg h.1.2.1 c (by simp; omega), cell_chg h.1.2.2.1 c (by simp; omega), cell_chg h.1.2.2.2.1 c (by simp; omega), cell_chg h.1.2.2.2.2 c (by simp; omega)⟩, cell_chg h.2.1 c (by simp; omega), cell_chg h.2.2.1 c (by simp; omega), cell_chg h.2.2.2.1 c (by simp; omega), cell_chg h.2.2.2.2.1 c (by simp; omega), cell_chg h.2.2.2.2.2 c (by simp; omega)⟩
          have hbb : bx < wc.heap.size ∧ b < wc.heap.size := ⟨World.block_lt_of_cell? _ _ g0, World.block_lt_of_cell? _ _ (cell_below Z0.out.1 k5.bel)⟩
          have HDO := Lib.hid hdo
          have HDA := Lib.hid hda
          have HS := Lib.hid hs
          have HSO := Lib.hid hso
          have HSP := Lib.hid hsp
          have HSB := Lib.hid hsb
          have HSC := Lib.hid hsc
          have HBB := Lib.hid hbb
          clear hdo hda hs hso hsp hsb hsc hbb g0 g1 g2 g3 g4 gm0 gm1 gm2 gm3 gm4 k1 k2 k3 k4 k5
          go_wp2_with fail
          refine wp_region_lexH (fun wx => (wx.cell? ⟨bx, 0, none⟩ = some (.int .i64 (N : Int)) ∧ wx.cell? ⟨bx, 1, none⟩ = some (.slice ba X.buf.length bc) ∧ wx.cell? ⟨bx, 2, none⟩ = some (.slice sa X.S.length sc) ∧ wx.cell? ⟨bx, 3, none⟩ = some (.slice ra X.R.length rc) ∧ wx.cell? ⟨bx, 4, none⟩ = some (.bool X.cl)) ∧ wx.cell? ⟨b, off + i * 5, none⟩ = some (.int .i64 kd) ∧ wx.cell? ⟨b, off + i * 5 + 1, none⟩ = some (.int .i64 v) ∧ wx.cell? ⟨b, off + i * 5 + 2, none⟩ = some (.int .i64 g) ∧ wx.cell? ⟨b, off + i * 5 + 3, none⟩ = some (.int .i64 cs) ∧ wx.cell? ⟨b, off + i * 5 + 4, none⟩ = some (.int .i64 wn)) 13 (Array.replicate 13 false) (by kernel_rfl) (by kernel_rfl) ?_
          refine wpAnyH_seg 0 6 _ #[true, true, true, true, true, true, false, false, false, false, false, false, false] 7 (by kernel_rfl) noPanic_put (HS.out _ (below_drew1 _)) (by kernel_rfl) ?_
          simp only [List.take_succ_cons, List.take_zero, List.drop_zero]
          repeat (first
            | (refine wpSegH_no (by rfl) ?_; simp only [Act.put, List.setIfInBounds_toArray, List.set_cons_zero, List.set_cons_succ])
            | (refine wpSegH_yes (by rfl) ?_; apply Exists.intro; apply And.intro; (· (intro wx hS; (try dsimp only at hS); go_simp; first | done | with_reducible rfl)); simp only [Act.put, List.setIfInBounds_toArray, List.set_cons_zero, List.set_cons_succ]))
          refine wpSegH_nil ?_
          refine wpAnyH_two 6 10 _ #[true, true, true, true, true, true, true, false, false, false, false, false, false] #[true, true, true, true, true, true, false, false, false, false, true, false, false] 6 (by kernel_rfl) (fun K hK => ?_) (fun K hK => ?_)
          · have HKK := Lib.hid hK
            clear hK
            simp only [List.drop_succ_cons, List.drop_zero]
            refine headH_mk (by rfl) ?_
            go_simp
            refine (HDO.out _ (below_drew1 _)).mono ?_
            rintro r w7 ⟨X', rs', ca, cc, ta, tc, ua, uc, rfl, j1, j2, j3, j4, j5, j6⟩
            unfold xcv
            have hS7 : (fun wx => (wx.cell? ⟨bx, 0, none⟩ = some (.int .i64 (N : Int)) ∧ wx.cell? ⟨bx, 1, none⟩ = some (.slice ba X.buf.length bc) ∧ wx.cell? ⟨bx, 2, none⟩ = some (.slice sa X.S.length sc) ∧ wx.cell? ⟨bx, 3, none⟩ = some (.slice ra X.R.length rc) ∧ wx.cell? ⟨bx, 4, none⟩ = some (.bool X.cl)) ∧ wx.cell? ⟨b, off + i * 5, none⟩ = some (.int .i64 kd) ∧ wx.cell? ⟨b, off + i * 5 + 1, none⟩ = some (.int .i64 v) ∧ wx.cell? ⟨b, off + i * 5 + 2, none⟩ = some (.int .i64 g) ∧ wx.cell? ⟨b, off + i * 5 + 3, none⟩ = some (.int .i64 cs) ∧ wx.cell? ⟨b, off + i * 5 + 4, none⟩ = some (.int .i64 wn)) w7 := HSO.out _ _ _ _ () j6
            refine HKK.out _ _ hS7 ?_
            clear HKK K
            refine wpAnyH_seg 7 3 _ #[true, true, true, true, true, true, true, true, true, true, false, false, false] 3 (by kernel_rfl) noPanic_put (hS7) (by kernel_rfl) ?_
            simp only [List.take_succ_cons, List.take_zero, List.drop_succ_cons, List.drop_zero]
            repeat (first
              | (refine wpSegH_no (by rfl) ?_; simp only [Act.put, List.setIfInBounds_toArray, List.set_cons_zero, List.set_cons_succ])
              | (refine wpSegH_yes (by rfl) ?_; apply Exists.intro; apply And.intro; (· (intro wx hS; (try dsimp only at hS); go_simp; first | done | with_reducible rfl)); simp only [Act.put, List.setIfInBounds_toArray, List.set_cons_zero, List.set_cons_succ]))
            refine wpSegH_nil ?_
            refine wpAnyH_one 10 _ #[true, true, true, true, true, true, true, true, true, true, true, false, false] 2 (by kernel_rfl) (fun K hK => ?_)
            have HKK := Lib.hid hK
            clear hK
            simp only [List.drop_succ_cons, List.drop_zero]
            refine headH_mk (by rfl) ?_
            go_simp
            have j7 := j6.alloc [.int .i64 0, .slice none 0 0, .slice none 0 0, .slice none 0 0, .bool false] 29 rfl
            have hS8 := HSB.out _ _ (below_alloc1 w7 (.cells #[.int .i64 0, .slice none 0 0, .slice none 0 0, .slice none 0 0, .bool false] 29)) hS7
            refine HKK.out _ _ hS8 ?_
            clear HKK K
            obtain ⟨s12, hs12⟩ : ∃ s, s = w7.heap.size := ⟨_, rfl⟩
            rw [← hs12] at j7 ⊢
            have hbs : bx < s12 ∧ b < s12 := ⟨by rw [hs12]; exact World.block_lt_of_cell? _ _ hS7.1.1, by rw [hs12]; exact World.block_lt_of_cell? _ _ hS7.2.1⟩
            generalize w7.alloc (.cells #[.int .i64 0, .slice none 0 0, .slice none 0 0, .slice none 0 0, .bool false] 29) = W8 at *
            have j8 : Own w1 W8 (CelA s12 [.int .i64 0, .slice none 0 0, .slice none 0 0, .slice none 0 0, .bool false] :: PoolR rs' :: ChanA p N X' :: CelA bx (xce N X ba bc sa sc ra rc) :: CelA byy (xce N Y ba' bc' sa' sc' ra' rc') :: DA dq2 N Y :: []) := j7
            clear hs12 j6 j7 hS7
            have J8 := Lib.hid j8
            obtain ⟨p0, pm0⟩ := j8.cel 0 rfl 0 _ rfl
            obtain ⟨p1, pm1⟩ := j8.cel 0 rfl 1 _ rfl
            obtain ⟨p2, pm2⟩ := j8.cel 0 rfl 2 _ rfl
            obtain ⟨p3, pm3⟩ := j8.cel 0 rfl 3 _ rfl
            obtain ⟨p4, pm4⟩ := j8.cel 0 rfl 4 _ rfl
            clear j8
            refine wpAnyH_one 11 _ #[true, true, true, true, true, true, true, true, true, true, true, true, false] 1 (by kernel_rfl) (fun K hK => ?_)
            have HKK := Lib.hid hK
            clear hK
            simp only [List.drop_succ_cons, List.drop_zero]
            refine headH_mk (by rfl) ?_
            go_simp
            have hSF : (fun wx => (wx.cell? ⟨bx, 0, none⟩ = some (.int .i64 (N : Int)) ∧ wx.cell? ⟨bx, 1, none⟩ = some (.slice ba X.buf.length bc) ∧ wx.cell? ⟨bx, 2, none⟩ = some (.slice sa X.S.length sc) ∧ wx.cell? ⟨bx, 3, none⟩ = some (.slice ra X.R.length rc) ∧ wx.cell? ⟨bx, 4, none⟩ = some (.bool X.cl)) ∧ wx.cell? ⟨b, off + i * 5, none⟩ = some (.int .i64 kd) ∧ wx.cell? ⟨b, off + i * 5 + 1, none⟩ = some (.int .i64 v) ∧ wx.cell? ⟨b, off + i * 5 + 2, none⟩ = some (.int .i64 g) ∧ wx.cell? ⟨b, off + i * 5 + 3, none⟩ = some (.int .i64 cs) ∧ wx.cell? ⟨b, off + i * 5 + 4, none⟩ = some (.int .i64 wn)) ((((((W8).setCell ⟨s12, 0, none⟩ (.int .i64 (N : Int))).setCell ⟨s12, 1, none⟩ (.slice ca X'.buf.length cc)).setCell ⟨s12, 2, none⟩ (.slice ta X'.S.length tc)).setCell ⟨s12, 3, none⟩ (.slice ua X'.R.length uc)).setCell ⟨s12, 4, none⟩ (.bool X'.cl)) := HSC.out _ _ _ hbs hS8 (by repeat (first | (with_reducible exact Chg.refl _ _) | ((with_reducible refine Chg.setIn ?_ ?_); simp) | (with_reducible refine Chg.drew ?_) | (with_reducible refine Chg.drewN ?_ _)))
            refine HKK.out _ _ hSF ?_
            clear HKK K
            refine wpAnyH_seg 12 1 _ #[true, true, true, true, true, true, true, true, true, true, true, true, true] 0 (by kernel_rfl) noPanic_put (hSF) (by kernel_rfl) ?_
            simp only [List.take_succ_cons, List.take_zero, List.drop_succ_cons, List.drop_zero]
            repeat (first
              | (refine wpSegH_no (by rfl) ?_; simp only [Act.put, List.setIfInBounds_toArray, List.set_cons_zero, List.set_cons_succ])
              | (refine wpSegH_yes (by rfl) ?_; apply Exists.intro; apply And.intro; (· (intro wx hS; (try dsimp only at hS); go_simp; first | done | with_reducible rfl)); simp only [Act.put, List.setIfInBounds_toArray, List.set_cons_zero, List.set_cons_succ]))
            refine wpSegH_nil ?_
            refine wpAnyH_done (by kernel_rfl) (NoPanic.normal ?_) _
            have hE : Mid w1 ((((((W8).setCell ⟨s12, 0, none⟩ (.int .i64 (N : Int))).setCell ⟨s12, 1, none⟩ (.slice ca X'.buf.length cc)).setCell ⟨s12, 2, none⟩ (.slice ta X'.S.length tc)).setCell ⟨s12, 3, none⟩ (.slice ua X'.R.length uc)).setCell ⟨s12, 4, none⟩ (.bool X'.cl)) p bx byy i N dq2 s12 := by
              have o2 := ((((J8.out.setAt 0 rfl 0 (.int .i64 (N : Int))).setAt 0 rfl 1 (.slice ca X'.buf.length cc)).setAt 0 rfl 2 (.slice ta X'.S.length tc)).setAt 0 rfl 3 (.slice ua X'.R.length uc)).setAt 0 rfl 4 (.bool X'.cl)
              have o3 : Own w1 ((((((W8).setCell ⟨s12, 0, none⟩ (.int .i64 (N : Int))).setCell ⟨s12, 1, none⟩ (.slice ca X'.buf.length cc)).setCell ⟨s12, 2, none⟩ (.slice ta X'.S.length tc)).setCell ⟨s12, 3, none⟩ (.slice ua X'.R.length uc)).setCell ⟨s12, 4, none⟩ (.bool X'.cl)) (CelA s12 (xce N X' ca cc ta tc ua uc) :: PoolR rs' :: ChanA p N X' :: CelA bx (xce N X ba bc sa sc ra rc) :: CelA byy (xce N Y ba' bc' sa' sc' ra' rc') :: DA dq2 N Y :: []) := o2
              exact ⟨X, X', Y, rs', ba, bc, sa, sc, ra, rc, ca, cc, ta, tc, ua, uc, ba', bc', sa', sc', ra', rc', ⟨by have := K1.out.1; omega, by have := K1.out.2.1; omega, by have := K1.out.2.2; omega⟩, ⟨by have := K2.out.1; omega, by have := K2.out.2.1; omega, by have := K2.out.2.2; omega⟩, j1, ⟨j2 _ K4.out.1, j2 _ K4.out.2.1, j2 _ K4.out.2.2⟩, o3⟩
            have HE := Lib.hid hE
            clear hE
            go_wp2_with fail
            go_meet
            exact ⟨rfl, s12, rfl, HE⟩
          · have HKK := Lib.hid hK
            clear hK
            simp only [List.drop_succ_cons, List.drop_zero]
            refine headH_mk (by rfl) ?_
            go_simp
            have hS8 := HS.out _ (Below.alloc (below_drew1 wc) (by simp) (.cells #[.int .i64 0, .slice none 0 0, .slice none 0 0, .slice none 0 0, .bool false] 29))
            refine HKK.out _ _ hS8 ?_
            clear HKK K
            refine wpAnyH_one 6 _ #[true, true, true, true, true, true, true, false, false, false, true, false, false] 5 (by kernel_rfl) (fun K hK => ?_)
            have HKK := Lib.hid hK
            clear hK
            simp only [List.drop_succ_cons, List.drop_zero]
            refine headH_mk (by rfl) ?_
            go_simp
            refine (HDA.out _ (below_drew1 _)).mono ?_
            rintro r w7 ⟨X', rs', ca, cc, ta, tc, ua, uc, rfl, j1, j2, j3, j4, j5, j6⟩
            unfold xcv
            have hS9 : (fun wx => (wx.cell? ⟨bx, 0, none⟩ = some (.int .i64 (N : Int)) ∧ wx.cell? ⟨bx, 1, none⟩ = some (.slice ba X.buf.length bc) ∧ wx.cell? ⟨bx, 2, none⟩ = some (.slice sa X.S.length sc) ∧ wx.cell? ⟨bx, 3, none⟩ = some (.slice ra X.R.length rc) ∧ wx.cell? ⟨bx, 4, none⟩ = some (.bool X.cl)) ∧ wx.cell? ⟨b, off + i * 5, none⟩ = some (.int .i64 kd) ∧ wx.cell? ⟨b, off + i * 5 + 1, none⟩ = some (.int .i64 v) ∧ wx.cell? ⟨b, off + i * 5 + 2, none⟩ = some (.int .i64 g) ∧ wx.cell? ⟨b, off + i * 5 + 3, none⟩ = some (.int .i64 cs) ∧ wx.cell? ⟨b, off + i * 5 + 4, none⟩ = some (.int .i64 wn)) w7 := HSP.out _ _ _ _ _ () j6
            refine HKK.out _ _ hS9 ?_
            clear HKK K hS8
            have hS8 := hS9
            clear hS9
            refine wpAnyH_seg 7 3 _ #[true, true, true, true, true, true, true, true, true, true, true, false, false] 2 (by kernel_rfl) noPanic_put (hS8) (by kernel_rfl) ?_
            simp only [List.take_succ_cons, List.take_zero, List.drop_succ_cons, List.drop_zero]
            repeat (first
              | (refine wpSegH_no (by rfl) ?_; simp only [Act.put, List.setIfInBounds_toArray, List.set_cons_zero, List.set_cons_succ])
              | (refine wpSegH_yes (by rfl) ?_; apply Exists.intro; apply And.intro; (· (intro wx hS; (try dsimp only at hS); go_simp; first | done | with_reducible rfl)); simp only [Act.put, List.setIfInBounds_toArray, List.set_cons_zero, List.set_cons_succ]))
            refine wpSegH_nil ?_
            have j6' : Own w1 w7 (PoolR rs' :: ChanA p N X' :: CelA wc.heap.size [.int .i64 0, .slice none 0 0, .slice none 0 0, .slice none 0 0, .bool false] :: CelA bx (xce N X ba bc sa sc ra rc) :: CelA byy (xce N Y ba' bc' sa' sc' ra' rc') :: DA dq2 N Y :: []) := j6
            obtain ⟨s12, hs12⟩ : ∃ s, s = wc.heap.size := ⟨_, rfl⟩
            rw [← hs12] at j6' ⊢
            have hbs : bx < s12 ∧ b < s12 := ⟨by rw [hs12]; exact HBB.out.1, by rw [hs12]; exact HBB.out.2⟩
            have j8 : Own w1 w7 (CelA s12 [.int .i64 0, .slice none 0 0, .slice none 0 0, .slice none 0 0, .bool false] :: PoolR rs' :: ChanA p N X' :: CelA bx (xce N X ba bc sa sc ra rc) :: CelA byy (xce N Y ba' bc' sa' sc' ra' rc') :: DA dq2 N Y :: []) := j6'.pick 2 rfl
            clear hs12 j6 j6'
            generalize w7 = W8 at *
            have J8 := Lib.hid j8
            obtain ⟨p0, pm0⟩ := j8.cel 0 rfl 0 _ rfl
            obtain ⟨p1, pm1⟩ := j8.cel 0 rfl 1 _ rfl
            obtain ⟨p2, pm2⟩ := j8.cel 0 rfl 2 _ rfl
            obtain ⟨p3, pm3⟩ := j8.cel 0 rfl 3 _ rfl
            obtain ⟨p4, pm4⟩ := j8.cel 0 rfl 4 _ rfl
            clear j8
            refine wpAnyH_one 11 _ #[true, true, true, true, true, true, true, true, true, true, true, true, false] 1 (by kernel_rfl) (fun K hK => ?_)
            have HKK := Lib.hid hK
            clear hK
            simp only [List.drop_succ_cons, List.drop_zero]
            refine headH_mk (by rfl) ?_
            go_simp
            have hSF : (fun wx => (wx.cell? ⟨bx, 0, none⟩ = some (.int .i64 (N : Int)) ∧ wx.cell? ⟨bx, 1, none⟩ = some (.slice ba X.buf.length bc) ∧ wx.cell? ⟨bx, 2, none⟩ = some (.slice sa X.S.length sc) ∧ wx.cell? ⟨bx, 3, none⟩ = some (.slice ra X.R.length rc) ∧ wx.cell? ⟨bx, 4, none⟩ = some (.bool X.cl)) ∧ wx.cell? ⟨b, off + i * 5, none⟩ = some (.int .i64 kd) ∧ wx.cell? ⟨b, off + i * 5 + 1, none⟩ = some (.int .i64 v) ∧ wx.cell? ⟨b, off + i * 5 + 2, none⟩ = some (.int .i64 g) ∧ wx.cell? ⟨b, off + i * 5 + 3, none⟩ = some (.int .i64 cs) ∧ wx.cell? ⟨b, off + i * 5 + 4, none⟩ = some (.int .i64 wn)) ((((((W8).setCell ⟨s12, 0, none⟩ (.int .i64 (N : Int))).setCell ⟨s12, 1, none⟩ (.slice ca X'.buf.length cc)).setCell ⟨s12, 2, none⟩ (.slice ta X'.S.length tc)).setCell ⟨s12, 3, none⟩ (.slice ua X'.R.length uc)).setCell ⟨s12, 4, none⟩ (.bool X'.cl)) := HSC.out _ _ _ hbs hS8 (by repeat (first | (with_reducible exact Chg.refl _ _) | ((with_reducible refine Chg.setIn ?_ ?_); simp) | (with_reducible refine Chg.drew ?_) | (with_reducible refine Chg.drewN ?_ _)))
            refine HKK.out _ _ hSF ?_
            clear HKK K
            refine wpAnyH_seg 12 1 _ #[true, true, true, true, true, true, true, true, true, true, true, true, true] 0 (by kernel_rfl) noPanic_put (hSF) (by kernel_rfl) ?_
            simp only [List.take_succ_cons, List.take_zero, List.drop_succ_cons, List.drop_zero]
            repeat (first
              | (refine wpSegH_no (by rfl) ?_; simp only [Act.put, List.setIfInBounds_toArray, List.set_cons_zero, List.set_cons_succ])
              | (refine wpSegH_yes (by rfl) ?_; apply Exists.intro; apply And.intro; (· (intro wx hS; (try dsimp only at hS); go_simp; first | done | with_reducible rfl)); simp only [Act.put, List.setIfInBounds_toArray, List.set_cons_zero, List.set_cons_succ]))
            refine wpSegH_nil ?_
            refine wpAnyH_done (by kernel_rfl) (NoPanic.normal ?_) _
            have hE : Mid w1 ((((((W8).setCell ⟨s12, 0, none⟩ (.int .i64 (N : Int))).setCell ⟨s12, 1, none⟩ (.slice ca X'.buf.length cc)).setCell ⟨s12, 2, none⟩ (.slice ta X'.S.length tc)).setCell ⟨s12, 3, none⟩ (.slice ua X'.R.length uc)).setCell ⟨s12, 4, none⟩ (.bool X'.cl)) p bx byy i N dq2 s12 := by
              have o2 := ((((J8.out.setAt 0 rfl 0 (.int .i64 (N : Int))).setAt 0 rfl 1 (.slice ca X'.buf.length cc)).setAt 0 rfl 2 (.slice ta X'.S.length tc)).setAt 0 rfl 3 (.slice ua X'.R.length uc)).setAt 0 rfl 4 (.bool X'.cl)
              have o3 : Own w1 ((((((W8).setCell ⟨s12, 0, none⟩ (.int .i64 (N : Int))).setCell ⟨s12, 1, none⟩ (.slice ca X'.buf.length cc)).setCell ⟨s12, 2, none⟩ (.slice ta X'.S.length tc)).setCell ⟨s12, 3, none⟩ (.slice ua X'.R.length uc)).setCell ⟨s12, 4, none⟩ (.bool X'.cl)) (CelA s12 (xce N X' ca cc ta tc ua uc) :: PoolR rs' :: ChanA p N X' :: CelA bx (xce N X ba bc sa sc ra rc) :: CelA byy (xce N Y ba' bc' sa' sc' ra' rc') :: DA dq2 N Y :: []) := o2
              exact ⟨X, X', Y, rs', ba, bc, sa, sc, ra, rc, ca, cc, ta, tc, ua, uc, ba', bc', sa', sc', ra', rc', ⟨by have := K1.out.1; omega, by have := K1.out.2.1; omega, by have := K1.out.2.2; omega⟩, ⟨by have := K2.out.1; omega, by have := K2.out.2.1; omega, by have := K2.out.2.2; omega⟩, j1, ⟨j2 _ K4.out.1, j2 _ K4.out.2.1, j2 _ K4.out.2.2⟩, o3⟩
            have HE := Lib.hid hE
            clear hE
            go_wp2_with fail
            go_meet
            exact ⟨rfl, s12, rfl, HE⟩
        case rest =>
          clear K5
          obtain ⟨rfl, s12, rfl, hm⟩ := hcut
          obtain ⟨X, X', Y, rs, ba, bc, sa, sc, ra, rc, ca, cc, ta, tc, ua, uc, ba', bc', sa', sc', ra', rc', j1, j2, j3, j4, j5⟩ := hm.out
          have J1 := Lib.hid j1
          have J2 := Lib.hid j2
          have J3 := Lib.hid j3
          have J4 := Lib.hid j4
          have J5 := Lib.hid j5
          clear hm K1 K2 K3 K4
          obtain ⟨e0, em0⟩ := j5.cel 0 rfl 0 _ rfl
          obtain ⟨e1, em1⟩ := j5.cel 0 rfl 1 _ rfl
          obtain ⟨e2, em2⟩ := j5.cel 0 rfl 2 _ rfl
          obtain ⟨e3, em3⟩ := j5.cel 0 rfl 3 _ rfl
          obtain ⟨e4, em4⟩ := j5.cel 0 rfl 4 _ rfl
          obtain ⟨f0, fm0⟩ := j5.cel 3 rfl 0 _ rfl
          obtain ⟨f1, fm1⟩ := j5.cel 3 rfl 1 _ rfl
          obtain ⟨f2, fm2⟩ := j5.cel 3 rfl 2 _ rfl
          obtain ⟨f3, fm3⟩ := j5.cel 3 rfl 3 _ rfl
          obtain ⟨f4, fm4⟩ := j5.cel 3 rfl 4 _ rfl
          clear j1 j2 j3 j4 j5
          go_upto_region 13 with fail
          have hO : Own w1 ((((((wc).setCell ⟨bx, 0, none⟩ (.int .i64 (N : Int))).setCell ⟨bx, 1, none⟩ (.slice ca X'.buf.length cc)).setCell ⟨bx, 2, none⟩ (.slice ta X'.S.length tc)).setCell ⟨bx, 3, none⟩ (.slice ua X'.R.length uc)).setCell ⟨bx, 4, none⟩ (.bool X'.cl)) (PoolR rs :: ChanA p N X' :: CelA bx (xce N X' ca cc ta tc ua uc) :: CelA byy (xce N Y ba' bc' sa' sc' ra' rc') :: DA dq2 N Y :: []) := by
            have o2 := ((((J5.out.setAt 3 rfl 0 (.int .i64 (N : Int))).setAt 3 rfl 1 (.slice ca X'.buf.length cc)).setAt 3 rfl 2 (.slice ta X'.S.length tc)).setAt 3 rfl 3 (.slice ua X'.R.length uc)).setAt 3 rfl 4 (.bool X'.cl)
            exact o2.drop
          have HO := Lib.hid hO
          clear hO e0 e1 e2 e3 e4 em0 em1 em2 em3 em4 f0 f1 f2 f3 f4 fm0 fm1 fm2 fm3 fm4 J5
          generalize (((((wc).setCell ⟨bx, 0, none⟩ (.int .i64 (N : Int))).setCell ⟨bx, 1, none⟩ (.slice ca X'.buf.length cc)).setCell ⟨bx, 2, none⟩ (.slice ta X'.S.length tc)).setCell ⟨bx, 3, none⟩ (.slice ua X'.R.length uc)).setCell ⟨bx, 4, none⟩ (.bool X'.cl) = W9 at *
          obtain ⟨g0, gm0⟩ := HO.out.cel 2 rfl 0 _ rfl
          obtain ⟨g1, gm1⟩ := HO.out.cel 2 rfl 1 _ rfl
          obtain ⟨g2, gm2⟩ := HO.out.cel 2 rfl 2 _ rfl
          obtain ⟨g3, gm3⟩ := HO.out.cel 2 rfl 3 _ rfl
          obtain ⟨g4, gm4⟩ := HO.out.cel 2 rfl 4 _ rfl
          obtain ⟨n1, hn1⟩ : ∃ n, n = X'.buf.length := ⟨_, rfl⟩
          obtain ⟨n2, hn2⟩ : ∃ n, n = X'.S.length := ⟨_, rfl⟩
          obtain ⟨n3, hn3⟩ : ∃ n, n = X'.R.length := ⟨_, rfl⟩
          obtain ⟨cl, hcl⟩ : ∃ c, c = X'.cl := ⟨_, rfl⟩
          obtain ⟨cS, hcS⟩ : ∃ c, c = canS N X' := ⟨_, rfl⟩
          obtain ⟨cR, hcR⟩ : ∃ c, c = canR X' := ⟨_, rfl⟩
          have hstt := cstate_any ((HO.out.step (below_drew1 _)).pick 1 rfl) (by have := J1.out.1; omega) (by have := J1.out.2.1; omega) (by have := J1.out.2.2; omega)
          have hsm : ∀ w4 b1 d1 b2 d2 b3 d3, Own w1 w4 (RowGA 3 b3 d3 X'.R.length (wtc X'.R) :: RowGA 3 b2 d2 X'.S.length (wtc X'.S) :: RowGA 1 b1 d1 X'.buf.length (intc X'.buf) :: ChanA p N X' :: PoolR rs :: CelA bx (xce N X' ca cc ta tc ua uc) :: CelA byy (xce N Y ba' bc' sa' sc' ra' rc') :: DA dq2 N Y :: []) →
              Calls Try.prog 15 #[.agg #[.slice b1 X'.buf.length d1, .slice b2 X'.S.length d2, .slice b3 X'.R.length d3, .bool X'.cl], .agg #[.int .i64 (N : Int), .slice ca X'.buf.length cc, .slice ta X'.S.length tc, .slice ua X'.R.length uc, .bool X'.cl]] w4 fun r w' => r = .returned (.int .i64 0) ∧ Below w4.heap.size w4 w' := fun w4 b1 d1 b2 d2 b3 d3 o => same13_any w4 N X' b1 d1 b2 d2 b3 d3 ca cc ta tc ua uc ((o.rowG 2 rfl).cells) ((o.rowG 1 rfl).cells) ((o.rowG 0 rfl).cells) (o.refGet 4 rfl J3.out) (by have := J1.out.1; omega) (by have := J1.out.2.1; omega) (by have := J1.out.2.2; omega)
          have hcsa : ∀ wx, Own w1 wx (ChanA p N X' :: PoolR rs :: CelA bx (xce N X' ca cc ta tc ua uc) :: CelA byy (xce N Y ba' bc' sa' sc' ra' rc') :: DA dq2 N Y :: []) → Calls Try.prog 17 #[.pointer (some ⟨p, 0, none⟩)] wx fun r w' => r = .returned (.bool (canS N X')) ∧ ∃ m, w' = wx.drewN m := fun wx o => ccans_any o
          have hcra : ∀ wx, Own w1 wx (ChanA p N X' :: PoolR rs :: CelA bx (xce N X' ca cc ta tc ua uc) :: CelA byy (xce N Y ba' bc' sa' sc' ra' rc') :: DA dq2 N Y :: []) → Calls Try.prog 18 #[.pointer (some ⟨p, 0, none⟩)] wx fun r w' => r = .returned (.bool (canR X')) ∧ wx = w' := fun wx o => ccanr_any o
          have hfin : ∀ wx, Own w1 wx (ChanA p N X' :: PoolR rs :: CelA bx (xce N X' ca cc ta tc ua uc) :: CelA byy (xce N Y ba' bc' sa' sc' ra' rc') :: DA dq2 N Y :: []) → St w1 wx p bx byy (i + 1) N dq2 := fun wx o => ⟨X', Y, rs, ca, cc, ta, tc, ua, uc, ba', bc', sa', sc', ra', rc', J1.out, J2.out, J3.out, J4.out, o.pick 1 rfl⟩
          have HFIN := Lib.hid hfin
          rw [← hcS] at hcsa
          rw [← hcR] at hcra
          have hv : (cl = true ∧ cS = true ∧ cR = true) ∨ (cl = false ∧ (0 < n3 ∧ cS = true ∨ n3 = 0 ∧ cS = decide (n1 < N)) ∧ (0 < n2 ∧ cR = true ∨ n2 = 0 ∧ cR = decide (0 < n1))) := by
            rw [hcS, hcR, hcl, hn1, hn2, hn3]
            unfold canS canR
            generalize X'.buf.length = m1
            generalize X'.S.length = m2
            generalize X'.R.length = m3
            cases X'.cl
            · refine .inr ⟨rfl, ?_, ?_⟩
              · by_cases h : 0 < m3
                · exact .inl ⟨h, by simp [h]⟩
                · exact .inr ⟨by omega, by simp [h]⟩
              · by_cases h : 0 < m2
                · exact .inl ⟨h, by simp [h]⟩
                · exact .inr ⟨by omega, by simp [h]⟩
            · exact .inl ⟨rfl, by simp, by simp⟩
          simp only [← hn1, ← hn2, ← hn3, ← hcl] at g0 g1 g2 g3 g4 hstt hsm
          have hs : ∀ wx, Below W9.heap.size W9 wx → (wx.cell? ⟨bx, 0, none⟩ = some (.int .i64 (N : Int)) ∧ wx.cell? ⟨bx, 1, none⟩ = some (.slice ca n1 cc) ∧ wx.cell? ⟨bx, 2, none⟩ = some (.slice ta n2 tc) ∧ wx.cell? ⟨bx, 3, none⟩ = some (.slice ua n3 uc) ∧ wx.cell? ⟨bx, 4, none⟩ = some (.bool cl)) := fun wx hb => ⟨cell_below g0 hb, cell_below g1 hb, cell_below g2 hb, cell_below g3 hb, cell_below g4 hb⟩
          have HSTT : Hid (Calls Try.prog 16 #[.pointer (some ⟨p, 0, none⟩)] W9.drew fun r w' => ∃ b1 d1 b2 d2 b3 d3, r = .returned (.agg #[.slice b1 n1 d1, .slice b2 n2 d2, .slice b3 n3 d3, .bool cl]) ∧ Own w1 w' (RowGA 3 b3 d3 n3 (wtc X'.R) :: RowGA 3 b2 d2 n2 (wtc X'.S) :: RowGA 1 b1 d1 n1 (intc X'.buf) :: ChanA p N X' :: PoolR rs :: CelA bx (xce N X' ca cc ta tc ua uc) :: CelA byy (xce N Y ba' bc' sa' sc' ra' rc') :: DA dq2 N Y :: []) ∧ Below W9.drew.heap.size W9.drew w') := Lib.hid hstt
          have HSM := Lib.hid hsm
          have HCSA := Lib.hid hcsa
          have HCRA := Lib.hid hcra
          have HS := Lib.hid hs
          clear hstt hsm hcsa hcra hs hfin g0 g1 g2 g3 g4 gm0 gm1 gm2 gm3 gm4 hn1 hn2 hn3 hcl hcS hcR HO J1 J2 J3 J4
          rcases hv with ⟨rfl, rfl, rfl⟩ | ⟨rfl, ⟨p3, rfl⟩ | ⟨rfl, hx⟩, ⟨p2, rfl⟩ | ⟨rfl, hy⟩⟩
          · go_wp2_with fail
            refine wp_region_lexH (fun wx => wx.cell? ⟨bx, 0, none⟩ = some (.int .i64 (N : Int)) ∧ wx.cell? ⟨bx, 1, none⟩ = some (.slice ca n1 cc) ∧ wx.cell? ⟨bx, 2, none⟩ = some (.slice ta n2 tc) ∧ wx.cell? ⟨bx, 3, none⟩ = some (.slice ua n3 uc) ∧ wx.cell? ⟨bx, 4, none⟩ = some (.bool true)) 49 (Array.replicate 49 false) (by kernel_rfl) (by kernel_rfl) ?_
            refine wpAnyH_seg 0 4 _ #[true, true, true, true, false, false, false, false, false, false, false, false, false, false, false, false, false, false, false, false, false, false, false, false, false, false, false, false, false, false, false, false, false, false, false, false, false, false, false, false, false, false, false, false, false, false, false, false, false] 45 (by kernel_rfl) noPanic_put (HS.out _ (below_drew1 _)) (by kernel_rfl) ?_
            simp only [List.take_succ_cons, List.take_zero, List.drop_zero]
            repeat (first
              | (refine wpSegH_no (by rfl) ?_; simp only [Act.put, List.setIfInBounds_toArray, List.set_cons_zero, List.set_cons_succ])
              | (refine wpSegH_yes (by rfl) ?_; apply Exists.intro; apply And.intro; (· (intro wx hS; (try dsimp only at hS); go_simp; first | done | with_reducible rfl)); simp only [Act.put, List.setIfInBounds_toArray, List.set_cons_zero, List.set_cons_succ]))
            refine wpSegH_nil ?_
            refine wpAnyH_seg 5 1 _ #[true, true, true, true, false, true, false, false, false, false, false, false, false, false, false, false, false, false, false, false, false, false, false, false, false, false, false, false, false, false, false, false, false, false, false, false, false, false, false, false, false, false, false, false, false, false, false, false, false] 44 (by kernel_rfl) noPanic_put (HS.out _ (below_drew1 _)) (by kernel_rfl) ?_
            simp only [List.take_succ_cons, List.take_zero, List.drop_succ_cons, List.drop_zero]
            repeat (first
              | (refine wpSegH_no (by rfl) ?_; simp only [Act.put, List.setIfInBounds_toArray, List.set_cons_zero, List.set_cons_succ])
              | (refine wpSegH_yes (by rfl) ?_; apply Exists.intro; apply And.intro; (· (intro wx hS; (try dsimp only at hS); go_simp; first | done | with_reducible rfl)); simp only [Act.put, List.setIfInBounds_toArray, List.set_cons_zero, List.set_cons_succ]))
            refine wpSegH_nil ?_
            refine wpAnyH_one 4 _ #[true, true, true, true, true, true, false, false, false, false, false, false, false, false, false, false, false, false, false, false, false, false, false, false, false, false, false, false, false, false, false, false, false, false, false, false, false, false, false, false, false, false, false, false, false, false, false, false, false] 43 (by kernel_rfl) (fun K hK => ?_)
            have HKK := Lib.hid hK
            clear hK
            simp only [List.drop_succ_cons, List.drop_zero]
            refine headH_mk (by rfl) ?_
            go_simp
            refine HSTT.out.mono ?_
            rintro r w4 ⟨b1, d1, b2, d2, b3, d3, rfl, m4, hb4⟩
            have hsm := HSM.out w4 b1 d1 b2 d2 b3 d3 m4
            have HSAME := Lib.hid hsm
            have bw4 := below_on (below_drew1 W9) hb4
            have M4 := Lib.hid m4
            refine HKK.out _ _ (HS.out _ bw4) ?_
            clear HKK K hsm m4 hb4
            refine wpAnyH_one 6 _ #[true, true, true, true, true, true, true, false, false, false, false, false, false, false, false, false, false, false, false, false, false, false, false, false, false, false, false, false, false, false, false, false, false, false, false, false, false, false, false, false, false, false, false, false, false, false, false, false, false] 42 (by kernel_rfl) (fun K hK => ?_)
            have HKK := Lib.hid hK
            clear hK
            simp only [List.drop_succ_cons, List.drop_zero]
            refine headH_mk (by rfl) ?_
            go_simp
            refine HSAME.out.mono ?_
            rintro r w5 ⟨rfl, hb5⟩
            have m5 := (M4.out.drop.drop.drop).step hb5
            have M5 := Lib.hid m5
            have HCS := Lib.hid (HCSA.out w5 m5)
            have bw5 := below_on bw4 hb5
            refine HKK.out _ _ (HS.out _ bw5) ?_
            clear HKK K m5 hb5 HSAME M4 bw4
            refine wpAnyH_seg 7 4 _ #[true, true, true, true, true, true, true, true, true, true, true, false, false, false, false, false, false, false, false, false, false, false, false, false, false, false, false, false, false, false, false, false, false, false, false, false, false, false, false, false, false, false, false, false, false, false, false, false, false] 38 (by kernel_rfl) noPanic_put (HS.out _ bw5) (by kernel_rfl) ?_
            simp only [List.take_succ_cons, List.take_zero, List.drop_succ_cons, List.drop_zero]
            repeat (first
              | (refine wpSegH_no (by rfl) ?_; simp only [Act.put, List.setIfInBounds_toArray, List.set_cons_zero, List.set_cons_succ])
              | (refine wpSegH_yes (by rfl) ?_; apply Exists.intro; apply And.intro; (· (intro wx hS; (try dsimp only at hS); go_simp; first | done | with_reducible rfl)); simp only [Act.put, List.setIfInBounds_toArray, List.set_cons_zero, List.set_cons_succ]))
            refine wpSegH_nil ?_
            refine wpAnyH_seg 12 2 _ #[true, true, true, true, true, true, true, true, true, true, true, false, true, true, false, false, false, false, false, false, false, false, false, false, false, false, false, false, false, false, false, false, false, false, false, false, false, false, false, false, false, false, false, false, false, false, false, false, false] 36 (by kernel_rfl) noPanic_put (HS.out _ bw5) (by kernel_rfl) ?_
            simp only [List.take_succ_cons, List.take_zero, List.drop_succ_cons, List.drop_zero]
            repeat (first
              | (refine wpSegH_no (by rfl) ?_; simp only [Act.put, List.setIfInBounds_toArray, List.set_cons_zero, List.set_cons_succ])
              | (refine wpSegH_yes (by rfl) ?_; apply Exists.intro; apply And.intro; (· (intro wx hS; (try dsimp only at hS); go_simp; first | done | with_reducible rfl)); simp only [Act.put, List.setIfInBounds_toArray, List.set_cons_zero, List.set_cons_succ]))
            refine wpSegH_nil ?_
            refine wpAnyH_one 11 _ #[true, true, true, true, true, true, true, true, true, true, true, true, true, true, false, false, false, false, false, false, false, false, false, false, false, false, false, false, false, false, false, false, false, false, false, false, false, false, false, false, false, false, false, false, false, false, false, false, false] 35 (by kernel_rfl) (fun K hK => ?_)
            have HKK := Lib.hid hK
            clear hK
            simp only [List.drop_succ_cons, List.drop_zero]
            refine headH_mk (by rfl) ?_
            go_simp
            refine HCS.out.mono ?_
            rintro r w6 ⟨rfl, m, hm6⟩
            have hb6 : Below w5.heap.size w5 w6 := by rw [hm6]; exact below_drewN (Below.refl _ _) m
            have m6 := M5.out.step hb6
            have M6 := Lib.hid m6
            have HCR := Lib.hid (HCRA.out w6 m6)
            have bw6 := below_on bw5 hb6
            refine HKK.out _ _ (HS.out _ bw6) ?_
            clear HKK K m6 hb6 hm6 HCS M5 bw5
            refine wpAnyH_seg 14 18 _ #[true, true, true, true, true, true, true, true, true, true, true, true, true, true, true, true, true, true, true, true, true, true, true, true, true, true, true, true, true, true, true, true, false, false, false, false, false, false, false, false, false, false, false, false, false, false, false, false, false] 17 (by kernel_rfl) noPanic_put (HS.out _ bw6) (by kernel_rfl) ?_
            simp only [List.take_succ_cons, List.take_zero, List.drop_succ_cons, List.drop_zero]
            repeat (first
              | (refine wpSegH_no (by rfl) ?_; simp only [Act.put, List.setIfInBounds_toArray, List.set_cons_zero, List.set_cons_succ])
              | (refine wpSegH_yes (by rfl) ?_; apply Exists.intro; apply And.intro; (· (intro wx hS; (try dsimp only at hS); go_simp; first | done | with_reducible rfl)); simp only [Act.put, List.setIfInBounds_toArray, List.set_cons_zero, List.set_cons_succ]))
            refine wpSegH_nil ?_
            refine wpAnyH_seg 33 2 _ #[true, true, true, true, true, true, true, true, true, true, true, true, true, true, true, true, true, true, true, true, true, true, true, true, true, true, true, true, true, true, true, true, false, true, true, false, false, false, false, false, false, false, false, false, false, false, false, false, false] 15 (by kernel_rfl) noPanic_put (HS.out _ bw6) (by kernel_rfl) ?_
            simp only [List.take_succ_cons, List.take_zero, List.drop_succ_cons, List.drop_zero]
            repeat (first
              | (refine wpSegH_no (by rfl) ?_; simp only [Act.put, List.setIfInBounds_toArray, List.set_cons_zero, List.set_cons_succ])
              | (refine wpSegH_yes (by rfl) ?_; apply Exists.intro; apply And.intro; (· (intro wx hS; (try dsimp only at hS); go_simp; first | done | with_reducible rfl)); simp only [Act.put, List.setIfInBounds_toArray, List.set_cons_zero, List.set_cons_succ]))
            refine wpSegH_nil ?_
            refine wpAnyH_one 32 _ #[true, true, true, true, true, true, true, true, true, true, true, true, true, true, true, true, true, true, true, true, true, true, true, true, true, true, true, true, true, true, true, true, true, true, true, false, false, false, false, false, false, false, false, false, false, false, false, false, false] 14 (by kernel_rfl) (fun K hK => ?_)
            have HKK := Lib.hid hK
            clear hK
            simp only [List.drop_succ_cons, List.drop_zero]
            refine headH_mk (by rfl) ?_
            go_simp
            refine HCR.out.mono ?_
            rintro r w7 ⟨rfl, hw7⟩
            subst hw7
            refine HKK.out _ _ (HS.out _ bw6) ?_
            clear HKK K HCR
            refine wpAnyH_seg 35 14 _ #[true, true, true, true, true, true, true, true, true, true, true, true, true, true, true, true, true, true, true, true, true, true, true, true, true, true, true, true, true, true, true, true, true, true, true, true, true, true, true, true, true, true, true, true, true, true, true, true, true] 0 (by kernel_rfl) noPanic_put (HS.out _ bw6) (by kernel_rfl) ?_
            simp only [List.take_succ_cons, List.take_zero, List.drop_succ_cons, List.drop_zero]
            repeat (first
              | (refine wpSegH_no (by rfl) ?_; simp only [Act.put, List.setIfInBounds_toArray, List.set_cons_zero, List.set_cons_succ])
              | (refine wpSegH_yes (by rfl) ?_; apply Exists.intro; apply And.intro; (· (intro wx hS; (try dsimp only at hS); go_simp; first | done | with_reducible rfl)); simp only [Act.put, List.setIfInBounds_toArray, List.set_cons_zero, List.set_cons_succ]))
            refine wpSegH_nil ?_
            refine wpAnyH_done (by kernel_rfl) (NoPanic.normal ?_) _
            have HE := Lib.hid (HFIN.out w6 M6.out)
            clear M6 bw6 HFIN HS HSTT HSM HCSA HCRA
            go_wp2
            exact ⟨⟨i + 1, by omega, by go_num, dq2, rfl, HE⟩, by simp [intOf]; omega⟩
          · have i3 : (0 : Int) < (n3 : Int) := by omega
            have i2 : (0 : Int) < (n2 : Int) := by omega
            go_wp2_with fail
            refine wp_region_lexH (fun wx => wx.cell? ⟨bx, 0, none⟩ = some (.int .i64 (N : Int)) ∧ wx.cell? ⟨bx, 1, none⟩ = some (.slice ca n1 cc) ∧ wx.cell? ⟨bx, 2, none⟩ = some (.slice ta n2 tc) ∧ wx.cell? ⟨bx, 3, none⟩ = some (.slice ua n3 uc) ∧ wx.cell? ⟨bx, 4, none⟩ = some (.bool false)) 49 (Array.replicate 49 false) (by kernel_rfl) (by kernel_rfl) ?_
            refine wpAnyH_seg 0 4 _ #[true, true, true, true, false, false, false, false, false, false, false, false, false, false, false, false, false, false, false, false, false, false, false, false, false, false, false, false, false, false, false, false, false, false, false, false, false, false, false, false, false, false, false, false, false, false, false, false, false] 45 (by kernel_rfl) noPanic_put (HS.out _ (below_drew1 _)) (by kernel_rfl) ?_
            simp only [List.take_succ_cons, List.take_zero, List.drop_zero]
            repeat (first
              | (refine wpSegH_no (by rfl) ?_; simp only [Act.put, List.setIfInBounds_toArray, List.set_cons_zero, List.set_cons_succ])
              | (refine wpSegH_yes (by rfl) ?_; apply Exists.intro; apply And.intro; (· (intro wx hS; (try dsimp only at hS); go_simp; first | done | with_reducible rfl)); simp only [Act.put, List.setIfInBounds_toArray, List.set_cons_zero, List.set_cons_succ]))
            refine wpSegH_nil ?_
            refine wpAnyH_seg 5 1 _ #[true, true, true, true, false, true, false, false, false, false, false, false, false, false, false, false, false, false, false, false, false, false, false, false, false, false, false, false, false, false, false, false, false, false, false, false, false, false, false, false, false, false, false, false, false, false, false, false, false] 44 (by kernel_rfl) noPanic_put (HS.out _ (below_drew1 _)) (by kernel_rfl) ?_
            simp only [List.take_succ_cons, List.take_zero, List.drop_succ_cons, List.drop_zero]
            repeat (first
              | (refine wpSegH_no (by rfl) ?_; simp only [Act.put, List.setIfInBounds_toArray, List.set_cons_zero, List.set_cons_succ])
              | (refine wpSegH_yes (by rfl) ?_; apply Exists.intro; apply And.intro; (· (intro wx hS; (try dsimp only at hS); go_simp; first | done | with_reducible rfl)); simp only [Act.put, List.setIfInBounds_toArray, List.set_cons_zero, List.set_cons_succ]))
            refine wpSegH_nil ?_
            refine wpAnyH_one 4 _ #[true, true, true, true, true, true, false, false, false, false, false, false, false, false, false, false, false, false, false, false, false, false, false, false, false, false, false, false, false, false, false, false, false, false, false, false, false, false, false, false, false, false, false, false, false, false, false, false, false] 43 (by kernel_rfl) (fun K hK => ?_)
            have HKK := Lib.hid hK
            clear hK
            simp only [List.drop_succ_cons, List.drop_zero]
            refine headH_mk (by rfl) ?_
            go_simp
            refine HSTT.out.mono ?_
            rintro r w4 ⟨b1, d1, b2, d2, b3, d3, rfl, m4, hb4⟩
            have hsm := HSM.out w4 b1 d1 b2 d2 b3 d3 m4
            have HSAME := Lib.hid hsm
            have bw4 := below_on (below_drew1 W9) hb4
            have M4 := Lib.hid m4
            refine HKK.out _ _ (HS.out _ bw4) ?_
            clear HKK K hsm m4 hb4
            refine wpAnyH_one 6 _ #[true, true, true, true, true, true, true, false, false, false, false, false, false, false, false, false, false, false, false, false, false, false, false, false, false, false, false, false, false, false, false, false, false, false, false, false, false, false, false, false, false, false, false, false, false, false, false, false, false] 42 (by kernel_rfl) (fun K hK => ?_)
            have HKK := Lib.hid hK
            clear hK
            simp only [List.drop_succ_cons, List.drop_zero]
            refine headH_mk (by rfl) ?_
            go_simp
            refine HSAME.out.mono ?_
            rintro r w5 ⟨rfl, hb5⟩
            have m5 := (M4.out.drop.drop.drop).step hb5
            have M5 := Lib.hid m5
            have HCS := Lib.hid (HCSA.out w5 m5)
            have bw5 := below_on bw4 hb5
            refine HKK.out _ _ (HS.out _ bw5) ?_
            clear HKK K m5 hb5 HSAME M4 bw4
            refine wpAnyH_seg 7 4 _ #[true, true, true, true, true, true, true, true, true, true, true, false, false, false, false, false, false, false, false, false, false, false, false, false, false, false, false, false, false, false, false, false, false, false, false, false, false, false, false, false, false, false, false, false, false, false, false, false, false] 38 (by kernel_rfl) noPanic_put (HS.out _ bw5) (by kernel_rfl) ?_
            simp only [List.take_succ_cons, List.take_zero, List.drop_succ_cons, List.drop_zero]
            repeat (first
              | (refine wpSegH_no (by rfl) ?_; simp only [Act.put, List.setIfInBounds_toArray, List.set_cons_zero, List.set_cons_succ])
              | (refine wpSegH_yes (by rfl) ?_; apply Exists.intro; apply And.intro; (· (intro wx hS; (try dsimp only at hS); go_simp; first | done | with_reducible rfl)); simp only [Act.put, List.setIfInBounds_toArray, List.set_cons_zero, List.set_cons_succ]))
            refine wpSegH_nil ?_
            refine wpAnyH_seg 12 2 _ #[true, true, true, true, true, true, true, true, true, true, true, false, true, true, false, false, false, false, false, false, false, false, false, false, false, false, false, false, false, false, false, false, false, false, false, false, false, false, false, false, false, false, false, false, false, false, false, false, false] 36 (by kernel_rfl) noPanic_put (HS.out _ bw5) (by kernel_rfl) ?_
            simp only [List.take_succ_cons, List.take_zero, List.drop_succ_cons, List.drop_zero]
            repeat (first
              | (refine wpSegH_no (by rfl) ?_; simp only [Act.put, List.setIfInBounds_toArray, List.set_cons_zero, List.set_cons_succ])
              | (refine wpSegH_yes (by rfl) ?_; apply Exists.intro; apply And.intro; (· (intro wx hS; (try dsimp only at hS); go_simp; first | done | with_reducible rfl)); simp only [Act.put, List.setIfInBounds_toArray, List.set_cons_zero, List.set_cons_succ]))
            refine wpSegH_nil ?_
            refine wpAnyH_one 11 _ #[true, true, true, true, true, true, true, true, true, true, true, true, true, true, false, false, false, false, false, false, false, false, false, false, false, false, false, false, false, false, false, false, false, false, false, false, false, false, false, false, false, false, false, false, false, false, false, false, false] 35 (by kernel_rfl) (fun K hK => ?_)
            have HKK := Lib.hid hK
            clear hK
            simp only [List.drop_succ_cons, List.drop_zero]
            refine headH_mk (by rfl) ?_
            go_simp
            refine HCS.out.mono ?_
            rintro r w6 ⟨rfl, m, hm6⟩
            have hb6 : Below w5.heap.size w5 w6 := by rw [hm6]; exact below_drewN (Below.refl _ _) m
            have m6 := M5.out.step hb6
            have M6 := Lib.hid m6
            have HCR := Lib.hid (HCRA.out w6 m6)
            have bw6 := below_on bw5 hb6
            refine HKK.out _ _ (HS.out _ bw6) ?_
            clear HKK K m6 hb6 hm6 HCS M5 bw5
            refine wpAnyH_seg 14 18 _ #[true, true, true, true, true, true, true, true, true, true, true, true, true, true, true, true, true, true, true, true, true, true, true, true, true, true, true, true, true, true, true, true, false, false, false, false, false, false, false, false, false, false, false, false, false, false, false, false, false] 17 (by kernel_rfl) noPanic_put (HS.out _ bw6) (by kernel_rfl) ?_
            simp only [List.take_succ_cons, List.take_zero, List.drop_succ_cons, List.drop_zero]
            repeat (first
              | (refine wpSegH_no (by rfl) ?_; simp only [Act.put, List.setIfInBounds_toArray, List.set_cons_zero, List.set_cons_succ])
              | (refine wpSegH_yes (by rfl) ?_; apply Exists.intro; apply And.intro; (· (intro wx hS; (try dsimp only at hS); go_simp; first | done | with_reducible rfl)); simp only [Act.put, List.setIfInBounds_toArray, List.set_cons_zero, List.set_cons_succ]))
            refine wpSegH_nil ?_
            refine wpAnyH_seg 33 2 _ #[true, true, true, true, true, true, true, true, true, true, true, true, true, true, true, true, true, true, true, true, true, true, true, true, true, true, true, true, true, true, true, true, false, true, true, false, false, false, false, false, false, false, false, false, false, false, false, false, false] 15 (by kernel_rfl) noPanic_put (HS.out _ bw6) (by kernel_rfl) ?_
            simp only [List.take_succ_cons, List.take_zero, List.drop_succ_cons, List.drop_zero]
            repeat (first
              | (refine wpSegH_no (by rfl) ?_; simp only [Act.put, List.setIfInBounds_toArray, List.set_cons_zero, List.set_cons_succ])
              | (refine wpSegH_yes (by rfl) ?_; apply Exists.intro; apply And.intro; (· (intro wx hS; (try dsimp only at hS); go_simp; first | done | with_reducible rfl)); simp only [Act.put, List.setIfInBounds_toArray, List.set_cons_zero, List.set_cons_succ]))
            refine wpSegH_nil ?_
            refine wpAnyH_one 32 _ #[true, true, true, true, true, true, true, true, true, true, true, true, true, true, true, true, true, true, true, true, true, true, true, true, true, true, true, true, true, true, true, true, true, true, true, false, false, false, false, false, false, false, false, false, false, false, false, false, false] 14 (by kernel_rfl) (fun K hK => ?_)
            have HKK := Lib.hid hK
            clear hK
            simp only [List.drop_succ_cons, List.drop_zero]
            refine headH_mk (by rfl) ?_
            go_simp
            refine HCR.out.mono ?_
            rintro r w7 ⟨rfl, hw7⟩
            subst hw7
            refine HKK.out _ _ (HS.out _ bw6) ?_
            clear HKK K HCR
            refine wpAnyH_seg 35 14 _ #[true, true, true, true, true, true, true, true, true, true, true, true, true, true, true, true, true, true, true, true, true, true, true, true, true, true, true, true, true, true, true, true, true, true, true, true, true, true, true, true, true, true, true, true, true, true, true, true, true] 0 (by kernel_rfl) noPanic_put (HS.out _ bw6) (by kernel_rfl) ?_
            simp only [List.take_succ_cons, List.take_zero, List.drop_succ_cons, List.drop_zero]
            repeat (first
              | (refine wpSegH_no (by rfl) ?_; simp only [Act.put, List.setIfInBounds_toArray, List.set_cons_zero, List.set_cons_succ])
              | (refine wpSegH_yes (by rfl) ?_; apply Exists.intro; apply And.intro; (· (intro wx hS; (try dsimp only at hS); go_simp; first | done | with_reducible rfl)); simp only [Act.put, List.setIfInBounds_toArray, List.set_cons_zero, List.set_cons_succ]))
            refine wpSegH_nil ?_
            refine wpAnyH_done (by kernel_rfl) (NoPanic.normal ?_) _
            have HE := Lib.hid (HFIN.out w6 M6.out)
            clear M6 bw6 HFIN HS HSTT HSM HCSA HCRA
            go_wp2
            exact ⟨⟨i + 1, by omega, by go_num, dq2, rfl, HE⟩, by simp [intOf]; omega⟩
          · have i3 : (0 : Int) < (n3 : Int) := by omega
            have hy1 : decide (0 < n1) = cR := hy.symm
            have hy2 : decide ((0 : Int) < (n1 : Int)) = cR := by rw [hy]; simp
            clear hy
            go_wp2_with fail
            refine wp_region_lexH (fun wx => wx.cell? ⟨bx, 0, none⟩ = some (.int .i64 (N : Int)) ∧ wx.cell? ⟨bx, 1, none⟩ = some (.slice ca n1 cc) ∧ wx.cell? ⟨bx, 2, none⟩ = some (.slice ta 0 tc) ∧ wx.cell? ⟨bx, 3, none⟩ = some (.slice ua n3 uc) ∧ wx.cell? ⟨bx, 4, none⟩ = some (.bool false)) 49 (Array.replicate 49 false) (by kernel_rfl) (by kernel_rfl) ?_
            refine wpAnyH_seg 0 4 _ #[true, true, true, true, false, false, false, false, false, false, false, false, false, false, false, false, false, false, false, false, false, false, false, false, false, false, false, false, false, false, false, false, false, false, false, false, false, false, false, false, false, false, false, false, false, false, false, false, false] 45 (by kernel_rfl) noPanic_put (HS.out _ (below_drew1 _)) (by kernel_rfl) ?_
            simp only [List.take_succ_cons, List.take_zero, List.drop_zero]
            repeat (first
              | (refine wpSegH_no (by rfl) ?_; simp only [Act.put, List.setIfInBounds_toArray, List.set_cons_zero, List.set_cons_succ])
              | (refine wpSegH_yes (by rfl) ?_; apply Exists.intro; apply And.intro; (· (intro wx hS; (try dsimp only at hS); go_simp; first | done | with_reducible rfl)); simp only [Act.put, List.setIfInBounds_toArray, List.set_cons_zero, List.set_cons_succ]))
            refine wpSegH_nil ?_
            refine wpAnyH_seg 5 1 _ #[true, true, true, true, false, true, false, false, false, false, false, false, false, false, false, false, false, false, false, false, false, false, false, false, false, false, false, false, false, false, false, false, false, false, false, false, false, false, false, false, false, false, false, false, false, false, false, false, false] 44 (by kernel_rfl) noPanic_put (HS.out _ (below_drew1 _)) (by kernel_rfl) ?_
            simp only [List.take_succ_cons, List.take_zero, List.drop_succ_cons, List.drop_zero]
            repeat (first
              | (refine wpSegH_no (by rfl) ?_; simp only [Act.put, List.setIfInBounds_toArray, List.set_cons_zero, List.set_cons_succ])
              | (refine wpSegH_yes (by rfl) ?_; apply Exists.intro; apply And.intro; (· (intro wx hS; (try dsimp only at hS); go_simp; first | done | with_reducible rfl)); simp only [Act.put, List.setIfInBounds_toArray, List.set_cons_zero, List.set_cons_succ]))
            refine wpSegH_nil ?_
            refine wpAnyH_one 4 _ #[true, true, true, true, true, true, false, false, false, false, false, false, false, false, false, false, false, false, false, false, false, false, false, false, false, false, false, false, false, false, false, false, false, false, false, false, false, false, false, false, false, false, false, false, false, false, false, false, false] 43 (by kernel_rfl) (fun K hK => ?_)
            have HKK := Lib.hid hK
            clear hK
            simp only [List.drop_succ_cons, List.drop_zero]
            refine headH_mk (by rfl) ?_
            go_simp
            refine HSTT.out.mono ?_
            rintro r w4 ⟨b1, d1, b2, d2, b3, d3, rfl, m4, hb4⟩
            have hsm := HSM.out w4 b1 d1 b2 d2 b3 d3 m4
            have HSAME := Lib.hid hsm
            have bw4 := below_on (below_drew1 W9) hb4
            have M4 := Lib.hid m4
            refine HKK.out _ _ (HS.out _ bw4) ?_
            clear HKK K hsm m4 hb4
            refine wpAnyH_one 6 _ #[true, true, true, true, true, true, true, false, false, false, false, false, false, false, false, false, false, false, false, false, false, false, false, false, false, false, false, false, false, false, false, false, false, false, false, false, false, false, false, false, false, false, false, false, false, false, false, false, false] 42 (by kernel_rfl) (fun K hK => ?_)
            have HKK := Lib.hid hK
            clear hK
            simp only [List.drop_succ_cons, List.drop_zero]
            refine headH_mk (by rfl) ?_
            go_simp
            refine HSAME.out.mono ?_
            rintro r w5 ⟨rfl, hb5⟩
            have m5 := (M4.out.drop.drop.drop).step hb5
            have M5 := Lib.hid m5
            have HCS := Lib.hid (HCSA.out w5 m5)
            have bw5 := below_on bw4 hb5
            refine HKK.out _ _ (HS.out _ bw5) ?_
            clear HKK K m5 hb5 HSAME M4 bw4
            refine wpAnyH_seg 7 4 _ #[true, true, true, true, true, true, true, true, true, true, true, false, false, false, false, false, false, false, false, false, false, false, false, false, false, false, false, false, false, false, false, false, false, false, false, false, false, false, false, false, false, false, false, false, false, false, false, false, false] 38 (by kernel_rfl) noPanic_put (HS.out _ bw5) (by kernel_rfl) ?_
            simp only [List.take_succ_cons, List.take_zero, List.drop_succ_cons, List.drop_zero]
            repeat (first
              | (refine wpSegH_no (by rfl) ?_; simp only [Act.put, List.setIfInBounds_toArray, List.set_cons_zero, List.set_cons_succ])
              | (refine wpSegH_yes (by rfl) ?_; apply Exists.intro; apply And.intro; (· (intro wx hS; (try dsimp only at hS); go_simp; first | done | with_reducible rfl)); simp only [Act.put, List.setIfInBounds_toArray, List.set_cons_zero, List.set_cons_succ]))
            refine wpSegH_nil ?_
            refine wpAnyH_seg 12 2 _ #[true, true, true, true, true, true, true, true, true, true, true, false, true, true, false, false, false, false, false, false, false, false, false, false, false, false, false, false, false, false, false, false, false, false, false, false, false, false, false, false, false, false, false, false, false, false, false, false, false] 36 (by kernel_rfl) noPanic_put (HS.out _ bw5) (by kernel_rfl) ?_
            simp only [List.take_succ_cons, List.take_zero, List.drop_succ_cons, List.drop_zero]
            repeat (first
              | (refine wpSegH_no (by rfl) ?_; simp only [Act.put, List.setIfInBounds_toArray, List.set_cons_zero, List.set_cons_succ])
              | (refine wpSegH_yes (by rfl) ?_; apply Exists.intro; apply And.intro; (· (intro wx hS; (try dsimp only at hS); go_simp; first | done | with_reducible rfl)); simp only [Act.put, List.setIfInBounds_toArray, List.set_cons_zero, List.set_cons_succ]))
            refine wpSegH_nil ?_
            refine wpAnyH_one 11 _ #[true, true, true, true, true, true, true, true, true, true, true, true, true, true, false, false, false, false, false, false, false, false, false, false, false, false, false, false, false, false, false, false, false, false, false, false, false, false, false, false, false, false, false, false, false, false, false, false, false] 35 (by kernel_rfl) (fun K hK => ?_)
            have HKK := Lib.hid hK
            clear hK
            simp only [List.drop_succ_cons, List.drop_zero]
            refine headH_mk (by rfl) ?_
            go_simp
            refine HCS.out.mono ?_
            rintro r w6 ⟨rfl, m, hm6⟩
            have hb6 : Below w5.heap.size w5 w6 := by rw [hm6]; exact below_drewN (Below.refl _ _) m
            have m6 := M5.out.step hb6
            have M6 := Lib.hid m6
            have HCR := Lib.hid (HCRA.out w6 m6)
            have bw6 := below_on bw5 hb6
            refine HKK.out _ _ (HS.out _ bw6) ?_
            clear HKK K m6 hb6 hm6 HCS M5 bw5
            refine wpAnyH_seg 14 18 _ #[true, true, true, true, true, true, true, true, true, true, true, true, true, true, true, true, true, true, true, true, true, true, true, true, true, true, true, true, true, true, true, true, false, false, false, false, false, false, false, false, false, false, false, false, false, false, false, false, false] 17 (by kernel_rfl) noPanic_put (HS.out _ bw6) (by kernel_rfl) ?_
            simp only [List.take_succ_cons, List.take_zero, List.drop_succ_cons, List.drop_zero]
            repeat (first
              | (refine wpSegH_no (by rfl) ?_; simp only [Act.put, List.setIfInBounds_toArray, List.set_cons_zero, List.set_cons_succ])
              | (refine wpSegH_yes (by rfl) ?_; apply Exists.intro; apply And.intro; (· (intro wx hS; (try dsimp only at hS); go_simp; first | done | with_reducible rfl)); simp only [Act.put, List.setIfInBounds_toArray, List.set_cons_zero, List.set_cons_succ]))
            refine wpSegH_nil ?_
            refine wpAnyH_seg 33 2 _ #[true, true, true, true, true, true, true, true, true, true, true, true, true, true, true, true, true, true, true, true, true, true, true, true, true, true, true, true, true, true, true, true, false, true, true, false, false, false, false, false, false, false, false, false, false, false, false, false, false] 15 (by kernel_rfl) noPanic_put (HS.out _ bw6) (by kernel_rfl) ?_
            simp only [List.take_succ_cons, List.take_zero, List.drop_succ_cons, List.drop_zero]
            repeat (first
              | (refine wpSegH_no (by rfl) ?_; simp only [Act.put, List.setIfInBounds_toArray, List.set_cons_zero, List.set_cons_succ])
              | (refine wpSegH_yes (by rfl) ?_; apply Exists.intro; apply And.intro; (· (intro wx hS; (try dsimp only at hS); go_simp; first | done | with_reducible rfl)); simp only [Act.put, List.setIfInBounds_toArray, List.set_cons_zero, List.set_cons_succ]))
            refine wpSegH_nil ?_
            refine wpAnyH_one 32 _ #[true, true, true, true, true, true, true, true, true, true, true, true, true, true, true, true, true, true, true, true, true, true, true, true, true, true, true, true, true, true, true, true, true, true, true, false, false, false, false, false, false, false, false, false, false, false, false, false, false] 14 (by kernel_rfl) (fun K hK => ?_)
            have HKK := Lib.hid hK
            clear hK
            simp only [List.drop_succ_cons, List.drop_zero]
            refine headH_mk (by rfl) ?_
            go_simp
            refine HCR.out.mono ?_
            rintro r w7 ⟨rfl, hw7⟩
            subst hw7
            refine HKK.out _ _ (HS.out _ bw6) ?_
            clear HKK K HCR
            refine wpAnyH_seg 35 14 _ #[true, true, true, true, true, true, true, true, true, true, true, true, true, true, true, true, true, true, true, true, true, true, true, true, true, true, true, true, true, true, true, true, true, true, true, true, true, true, true, true, true, true, true, true, true, true, true, true, true] 0 (by kernel_rfl) noPanic_put (HS.out _ bw6) (by kernel_rfl) ?_
            simp only [List.take_succ_cons, List.take_zero, List.drop_succ_cons, List.drop_zero]
            repeat (first
              | (refine wpSegH_no (by rfl) ?_; simp only [Act.put, List.setIfInBounds_toArray, List.set_cons_zero, List.set_cons_succ])
              | (refine wpSegH_yes (by rfl) ?_; apply Exists.intro; apply And.intro; (· (intro wx hS; (try dsimp only at hS); go_simp; first | done | with_reducible rfl)); simp only [Act.put, List.setIfInBounds_toArray, List.set_cons_zero, List.set_cons_succ]))
            refine wpSegH_nil ?_
            refine wpAnyH_done (by kernel_rfl) (NoPanic.normal ?_) _
            have HE := Lib.hid (HFIN.out w6 M6.out)
            clear M6 bw6 HFIN HS HSTT HSM HCSA HCRA
            go_wp2
            exact ⟨⟨i + 1, by omega, by go_num, dq2, rfl, HE⟩, by simp [intOf]; omega⟩
          · have i2 : (0 : Int) < (n2 : Int) := by omega
            have hx1 : decide (n1 < N) = cS := hx.symm
            have hx2 : decide ((n1 : Int) < (N : Int)) = cS := by rw [hx]; simp
            clear hx
            go_wp2_with fail
            refine wp_region_lexH (fun wx => wx.cell? ⟨bx, 0, none⟩ = some (.int .i64 (N : Int)) ∧ wx.cell? ⟨bx, 1, none⟩ = some (.slice ca n1 cc) ∧ wx.cell? ⟨bx, 2, none⟩ = some (.slice ta n2 tc) ∧ wx.cell? ⟨bx, 3, none⟩ = some (.slice ua 0 uc) ∧ wx.cell? ⟨bx, 4, none⟩ = some (.bool false)) 49 (Array.replicate 49 false) (by kernel_rfl) (by kernel_rfl) ?_
            refine wpAnyH_seg 0 4 _ #[true, true, true, true, false, false, false, false, false, false, false, false, false, false, false, false, false, false, false, false, false, false, false, false, false, false, false, false, false, false, false, false, false, false, false, false, false, false, false, false, false, false, false, false, false, false, false, false, false] 45 (by kernel_rfl) noPanic_put (HS.out _ (below_drew1 _)) (by kernel_rfl) ?_
            simp only [List.take_succ_cons, List.take_zero, List.drop_zero]
            repeat (first
              | (refine wpSegH_no (by rfl) ?_; simp only [Act.put, List.setIfInBounds_toArray, List.set_cons_zero, List.set_cons_succ])
              | (refine wpSegH_yes (by rfl) ?_; apply Exists.intro; apply And.intro; (· (intro wx hS; (try dsimp only at hS); go_simp; first | done | with_reducible rfl)); simp only [Act.put, List.setIfInBounds_toArray, List.set_cons_zero, List.set_cons_succ]))
            refine wpSegH_nil ?_
            refine wpAnyH_seg 5 1 _ #[true, true, true, true, false, true, false, false, false, false, false, false, false, false, false, false, false, false, false, false, false, false, false, false, false, false, false, false, false, false, false, false, false, false, false, false, false, false, false, false, false, false, false, false, false, false, false, false, false] 44 (by kernel_rfl) noPanic_put (HS.out _ (below_drew1 _)) (by kernel_rfl) ?_
            simp only [List.take_succ_cons, List.take_zero, List.drop_succ_cons, List.drop_zero]
            repeat (first
              | (refine wpSegH_no (by rfl) ?_; simp only [Act.put, List.setIfInBounds_toArray, List.set_cons_zero, List.set_cons_succ])
              | (refine wpSegH_yes (by rfl) ?_; apply Exists.intro; apply And.intro; (· (intro wx hS; (try dsimp only at hS); go_simp; first | done | with_reducible rfl)); simp only [Act.put, List.setIfInBounds_toArray, List.set_cons_zero, List.set_cons_succ]))
            refine wpSegH_nil ?_
            refine wpAnyH_one 4 _ #[true, true, true, true, true, true, false, false, false, false, false, false, false, false, false, false, false, false, false, false, false, false, false, false, false, false, false, false, false, false, false, false, false, false, false, false, false, false, false, false, false, false, false, false, false, false, false, false, false] 43 (by kernel_rfl) (fun K hK => ?_)
            have HKK := Lib.hid hK
            clear hK
            simp only [List.drop_succ_cons, List.drop_zero]
            refine headH_mk (by rfl) ?_
            go_simp
            refine HSTT.out.mono ?_
            rintro r w4 ⟨b1, d1, b2, d2, b3, d3, rfl, m4, hb4⟩
            have hsm := HSM.out w4 b1 d1 b2 d2 b3 d3 m4
            have HSAME := Lib.hid hsm
            have bw4 := below_on (below_drew1 W9) hb4
            have M4 := Lib.hid m4
            refine HKK.out _ _ (HS.out _ bw4) ?_
            clear HKK K hsm m4 hb4
            refine wpAnyH_one 6 _ #[true, true, true, true, true, true, true, false, false, false, false, false, false, false, false, false, false, false, false, false, false, false, false, false, false, false, false, false, false, false, false, false, false, false, false, false, false, false, false, false, false, false, false, false, false, false, false, false, false] 42 (by kernel_rfl) (fun K hK => ?_)
            have HKK := Lib.hid hK
            clear hK
            simp only [List.drop_succ_cons, List.drop_zero]
            refine headH_mk (by rfl) ?_
            go_simp
            refine HSAME.out.mono ?_
            rintro r w5 ⟨rfl, hb5⟩
            have m5 := (M4.out.drop.drop.drop).step hb5
            have M5 := Lib.hid m5
            have HCS := Lib.hid (HCSA.out w5 m5)
            have bw5 := below_on bw4 hb5
            refine HKK.out _ _ (HS.out _ bw5) ?_
            clear HKK K m5 hb5 HSAME M4 bw4
            refine wpAnyH_seg 7 4 _ #[true, true, true, true, true, true, true, true, true, true, true, false, false, false, false, false, false, false, false, false, false, false, false, false, false, false, false, false, false, false, false, false, false, false, false, false, false, false, false, false, false, false, false, false, false, false, false, false, false] 38 (by kernel_rfl) noPanic_put (HS.out _ bw5) (by kernel_rfl) ?_
            simp only [List.take_succ_cons, List.take_zero, List.drop_succ_cons, List.drop_zero]
            repeat (first
              | (refine wpSegH_no (by rfl) ?_; simp only [Act.put, List.setIfInBounds_toArray, List.set_cons_zero, List.set_cons_succ])
              | (refine wpSegH_yes (by rfl) ?_; apply Exists.intro; apply And.intro; (· (intro wx hS; (try dsimp only at hS); go_simp; first | done | with_reducible rfl)); simp only [Act.put, List.setIfInBounds_toArray, List.set_cons_zero, List.set_cons_succ]))
            refine wpSegH_nil ?_
            refine wpAnyH_seg 12 2 _ #[true, true, true, true, true, true, true, true, true, true, true, false, true, true, false, false, false, false, false, false, false, false, false, false, false, false, false, false, false, false, false, false, false, false, false, false, false, false, false, false, false, false, false, false, false, false, false, false, false] 36 (by kernel_rfl) noPanic_put (HS.out _ bw5) (by kernel_rfl) ?_
            simp only [List.take_succ_cons, List.take_zero, List.drop_succ_cons, List.drop_zero]
            repeat (first
              | (refine wpSegH_no (by rfl) ?_; simp only [Act.put, List.setIfInBounds_toArray, List.set_cons_zero, List.set_cons_succ])
              | (refine wpSegH_yes (by rfl) ?_; apply Exists.intro; apply And.intro; (· (intro wx hS; (try dsimp only at hS); go_simp; first | done | with_reducible rfl)); simp only [Act.put, List.setIfInBounds_toArray, List.set_cons_zero, List.set_cons_succ]))
            refine wpSegH_nil ?_
            refine wpAnyH_one 11 _ #[true, true, true, true, true, true, true, true, true, true, true, true, true, true, false, false, false, false, false, false, false, false, false, false, false, false, false, false, false, false, false, false, false, false, false, false, false, false, false, false, false, false, false, false, false, false, false, false, false] 35 (by kernel_rfl) (fun K hK => ?_)
            have HKK := Lib.hid hK
            clear hK
            simp only [List.drop_succ_cons, List.drop_zero]
            refine headH_mk (by rfl) ?_
            go_simp
            refine HCS.out.mono ?_
            rintro r w6 ⟨rfl, m, hm6⟩
            have hb6 : Below w5.heap.size w5 w6 := by rw [hm6]; exact below_drewN (Below.refl _ _) m
            have m6 := M5.out.step hb6
            have M6 := Lib.hid m6
            have HCR := Lib.hid (HCRA.out w6 m6)
            have bw6 := below_on bw5 hb6
            refine HKK.out _ _ (HS.out _ bw6) ?_
            clear HKK K m6 hb6 hm6 HCS M5 bw5
            refine wpAnyH_seg 14 18 _ #[true, true, true, true, true, true, true, true, true, true, true, true, true, true, true, true, true, true, true, true, true, true, true, true, true, true, true, true, true, true, true, true, false, false, false, false, false, false, false, false, false, false, false, false, false, false, false, false, false] 17 (by kernel_rfl) noPanic_put (HS.out _ bw6) (by kernel_rfl) ?_
            simp only [List.take_succ_cons, List.take_zero, List.drop_succ_cons, List.drop_zero]
            repeat (first
              | (refine wpSegH_no (by rfl) ?_; simp only [Act.put, List.setIfInBounds_toArray, List.set_cons_zero, List.set_cons_succ])
              | (refine wpSegH_yes (by rfl) ?_; apply Exists.intro; apply And.intro; (· (intro wx hS; (try dsimp only at hS); go_simp; first | done | with_reducible rfl)); simp only [Act.put, List.setIfInBounds_toArray, List.set_cons_zero, List.set_cons_succ]))
            refine wpSegH_nil ?_
            refine wpAnyH_seg 33 2 _ #[true, true, true, true, true, true, true, true, true, true, true, true, true, true, true, true, true, true, true, true, true, true, true, true, true, true, true, true, true, true, true, true, false, true, true, false, false, false, false, false, false, false, false, false, false, false, false, false, false] 15 (by kernel_rfl) noPanic_put (HS.out _ bw6) (by kernel_rfl) ?_
            simp only [List.take_succ_cons, List.take_zero, List.drop_succ_cons, List.drop_zero]
            repeat (first
              | (refine wpSegH_no (by rfl) ?_; simp only [Act.put, List.setIfInBounds_toArray, List.set_cons_zero, List.set_cons_succ])
              | (refine wpSegH_yes (by rfl) ?_; apply Exists.intro; apply And.intro; (· (intro wx hS; (try dsimp only at hS); go_simp; first | done | with_reducible rfl)); simp only [Act.put, List.setIfInBounds_toArray, List.set_cons_zero, List.set_cons_succ]))
            refine wpSegH_nil ?_
            refine wpAnyH_one 32 _ #[true, true, true, true, true, true, true, true, true, true, true, true, true, true, true, true, true, true, true, true, true, true, true, true, true, true, true, true, true, true, true, true, true, true, true, false, false, false, false, false, false, false, false, false, false, false, false, false, false] 14 (by kernel_rfl) (fun K hK => ?_)
            have HKK := Lib.hid hK
            clear hK
            simp only [List.drop_succ_cons, List.drop_zero]
            refine headH_mk (by rfl) ?_
            go_simp
            refine HCR.out.mono ?_
            rintro r w7 ⟨rfl, hw7⟩
            subst hw7
            refine HKK.out _ _ (HS.out _ bw6) ?_
            clear HKK K HCR
            refine wpAnyH_seg 35 14 _ #[true, true, true, true, true, true, true, true, true, true, true, true, true, true, true, true, true, true, true, true, true, true, true, true, true, true, true, true, true, true, true, true, true, true, true, true, true, true, true, true, true, true, true, true, true, true, true, true, true] 0 (by kernel_rfl) noPanic_put (HS.out _ bw6) (by kernel_rfl) ?_
            simp only [List.take_succ_cons, List.take_zero, List.drop_succ_cons, List.drop_zero]
            repeat (first
              | (refine wpSegH_no (by rfl) ?_; simp only [Act.put, List.setIfInBounds_toArray, List.set_cons_zero, List.set_cons_succ])
              | (refine wpSegH_yes (by rfl) ?_; apply Exists.intro; apply And.intro; (· (intro wx hS; (try dsimp only at hS); go_simp; first | done | with_reducible rfl)); simp only [Act.put, List.setIfInBounds_toArray, List.set_cons_zero, List.set_cons_succ]))
            refine wpSegH_nil ?_
            refine wpAnyH_done (by kernel_rfl) (NoPanic.normal ?_) _
            have HE := Lib.hid (HFIN.out w6 M6.out)
            clear M6 bw6 HFIN HS HSTT HSM HCSA HCRA
            go_wp2
            exact ⟨⟨i + 1, by omega, by go_num, dq2, rfl, HE⟩, by simp [intOf]; omega⟩
          · have hx1 : decide (n1 < N) = cS := hx.symm
            have hx2 : decide ((n1 : Int) < (N : Int)) = cS := by rw [hx]; simp
            have hy1 : decide (0 < n1) = cR := hy.symm
            have hy2 : decide ((0 : Int) < (n1 : Int)) = cR := by rw [hy]; simp
            clear hx hy
            go_wp2_with fail
            refine wp_region_lexH (fun wx => wx.cell? ⟨bx, 0, none⟩ = some (.int .i64 (N : Int)) ∧ wx.cell? ⟨bx, 1, none⟩ = some (.slice ca n1 cc) ∧ wx.cell? ⟨bx, 2, none⟩ = some (.slice ta 0 tc) ∧ wx.cell? ⟨bx, 3, none⟩ = some (.slice ua 0 uc) ∧ wx.cell? ⟨bx, 4, none⟩ = some (.bool false)) 49 (Array.replicate 49 false) (by kernel_rfl) (by kernel_rfl) ?_
            refine wpAnyH_seg 0 4 _ #[true, true, true, true, false, false, false, false, false, false, false, false, false, false, false, false, false, false, false, false, false, false, false, false, false, false, false, false, false, false, false, false, false, false, false, false, false, false, false, false, false, false, false, false, false, false, false, false, false] 45 (by kernel_rfl) noPanic_put (HS.out _ (below_drew1 _)) (by kernel_rfl) ?_
            simp only [List.take_succ_cons, List.take_zero, List.drop_zero]
            repeat (first
              | (refine wpSegH_no (by rfl) ?_; simp only [Act.put, List.setIfInBounds_toArray, List.set_cons_zero, List.set_cons_succ])
              | (refine wpSegH_yes (by rfl) ?_; apply Exists.intro; apply And.intro; (· (intro wx hS; (try dsimp only at hS); go_simp; first | done | with_reducible rfl)); simp only [Act.put, List.setIfInBounds_toArray, List.set_cons_zero, List.set_cons_succ]))
            refine wpSegH_nil ?_
            refine wpAnyH_seg 5 1 _ #[true, true, true, true, false, true, false, false, false, false, false, false, false, false, false, false, false, false, false, false, false, false, false, false, false, false, false, false, false, false, false, false, false, false, false, false, false, false, false, false, false, false, false, false, false, false, false, false, false] 44 (by kernel_rfl) noPanic_put (HS.out _ (below_drew1 _)) (by kernel_rfl) ?_
            simp only [List.take_succ_cons, List.take_zero, List.drop_succ_cons, List.drop_zero]
            repeat (first
              | (refine wpSegH_no (by rfl) ?_; simp only [Act.put, List.setIfInBounds_toArray, List.set_cons_zero, List.set_cons_succ])
              | (refine wpSegH_yes (by rfl) ?_; apply Exists.intro; apply And.intro; (· (intro wx hS; (try dsimp only at hS); go_simp; first | done | with_reducible rfl)); simp only [Act.put, List.setIfInBounds_toArray, List.set_cons_zero, List.set_cons_succ]))
            refine wpSegH_nil ?_
            refine wpAnyH_one 4 _ #[true, true, true, true, true, true, false, false, false, false, false, false, false, false, false, false, false, false, false, false, false, false, false, false, false, false, false, false, false, false, false, false, false, false, false, false, false, false, false, false, false, false, false, false, false, false, false, false, false] 43 (by kernel_rfl) (fun K hK => ?_)
            have HKK := Lib.hid hK
            clear hK
            simp only [List.drop_succ_cons, List.drop_zero]
            refine headH_mk (by rfl) ?_
            go_simp
            refine HSTT.out.mono ?_
            rintro r w4 ⟨b1, d1, b2, d2, b3, d3, rfl, m4, hb4⟩
            have hsm := HSM.out w4 b1 d1 b2 d2 b3 d3 m4
            have HSAME := Lib.hid hsm
            have bw4 := below_on (below_drew1 W9) hb4
            have M4 := Lib.hid m4
            refine HKK.out _ _ (HS.out _ bw4) ?_
            clear HKK K hsm m4 hb4
            refine wpAnyH_one 6 _ #[true, true, true, true, true, true, true, false, false, false, false, false, false, false, false, false, false, false, false, false, false, false, false, false, false, false, false, false, false, false, false, false, false, false, false, false, false, false, false, false, false, false, false, false, false, false, false, false, false] 42 (by kernel_rfl) (fun K hK => ?_)
            have HKK := Lib.hid hK
            clear hK
            simp only [List.drop_succ_cons, List.drop_zero]
            refine headH_mk (by rfl) ?_
            go_simp
            refine HSAME.out.mono ?_
            rintro r w5 ⟨rfl, hb5⟩
            have m5 := (M4.out.drop.drop.drop).step hb5
            have M5 := Lib.hid m5
            have HCS := Lib.hid (HCSA.out w5 m5)
            have bw5 := below_on bw4 hb5
            refine HKK.out _ _ (HS.out _ bw5) ?_
            clear HKK K m5 hb5 HSAME M4 bw4
            refine wpAnyH_seg 7 4 _ #[true, true, true, true, true, true, true, true, true, true, true, false, false, false, false, false, false, false, false, false, false, false, false, false, false, false, false, false, false, false, false, false, false, false, false, false, false, false, false, false, false, false, false, false, false, false, false, false, false] 38 (by kernel_rfl) noPanic_put (HS.out _ bw5) (by kernel_rfl) ?_
            simp only [List.take_succ_cons, List.take_zero, List.drop_succ_cons, List.drop_zero]
            repeat (first
              | (refine wpSegH_no (by rfl) ?_; simp only [Act.put, List.setIfInBounds_toArray, List.set_cons_zero, List.set_cons_succ])
              | (refine wpSegH_yes (by rfl) ?_; apply Exists.intro; apply And.intro; (· (intro wx hS; (try dsimp only at hS); go_simp; first | done | with_reducible rfl)); simp only [Act.put, List.setIfInBounds_toArray, List.set_cons_zero, List.set_cons_succ]))
            refine wpSegH_nil ?_
            refine wpAnyH_seg 12 2 _ #[true, true, true, true, true, true, true, true, true, true, true, false, true, true, false, false, false, false, false, false, false, false, false, false, false, false, false, false, false, false, false, false, false, false, false, false, false, false, false, false, false, false, false, false, false, false, false, false, false] 36 (by kernel_rfl) noPanic_put (HS.out _ bw5) (by kernel_rfl) ?_
            simp only [List.take_succ_cons, List.take_zero, List.drop_succ_cons, List.drop_zero]
            repeat (first
              | (refine wpSegH_no (by rfl) ?_; simp only [Act.put, List.setIfInBounds_toArray, List.set_cons_zero, List.set_cons_succ])
              | (refine wpSegH_yes (by rfl) ?_; apply Exists.intro; apply And.intro; (· (intro wx hS; (try dsimp only at hS); go_simp; first | done | with_reducible rfl)); simp only [Act.put, List.setIfInBounds_toArray, List.set_cons_zero, List.set_cons_succ]))
            refine wpSegH_nil ?_
            refine wpAnyH_one 11 _ #[true, true, true, true, true, true, true, true, true, true, true, true, true, true, false, false, false, false, false, false, false, false, false, false, false, false, false, false, false, false, false, false, false, false, false, false, false, false, false, false, false, false, false, false, false, false, false, false, false] 35 (by kernel_rfl) (fun K hK => ?_)
            have HKK := Lib.hid hK
            clear hK
            simp only [List.drop_succ_cons, List.drop_zero]
            refine headH_mk (by rfl) ?_
            go_simp
            refine HCS.out.mono ?_
            rintro r w6 ⟨rfl, m, hm6⟩
            have hb6 : Below w5.heap.size w5 w6 := by rw [hm6]; exact below_drewN (Below.refl _ _) m
            have m6 := M5.out.step hb6
            have M6 := Lib.hid m6
            have HCR := Lib.hid (HCRA.out w6 m6)
            have bw6 := below_on bw5 hb6
            refine HKK.out _ _ (HS.out _ bw6) ?_
            clear HKK K m6 hb6 hm6 HCS M5 bw5
            refine wpAnyH_seg 14 18 _ #[true, true, true, true, true, true, true, true, true, true, true, true, true, true, true, true, true, true, true, true, true, true, true, true, true, true, true, true, true, true, true, true, false, false, false, false, false, false, false, false, false, false, false, false, false, false, false, false, false] 17 (by kernel_rfl) noPanic_put (HS.out _ bw6) (by kernel_rfl) ?_
            simp only [List.take_succ_cons, List.take_zero, List.drop_succ_cons, List.drop_zero]
            repeat (first
              | (refine wpSegH_no (by rfl) ?_; simp only [Act.put, List.setIfInBounds_toArray, List.set_cons_zero, List.set_cons_succ])
              | (refine wpSegH_yes (by rfl) ?_; apply Exists.intro; apply And.intro; (· (intro wx hS; (try dsimp only at hS); go_simp; first | done | with_reducible rfl)); simp only [Act.put, List.setIfInBounds_toArray, List.set_cons_zero, List.set_cons_succ]))
            refine wpSegH_nil ?_
            refine wpAnyH_seg 33 2 _ #[true, true, true, true, true, true, true, true, true, true, true, true, true, true, true, true, true, true, true, true, true, true, true, true, true, true, true, true, true, true, true, true, false, true, true, false, false, false, false, false, false, false, false, false, false, false, false, false, false] 15 (by kernel_rfl) noPanic_put (HS.out _ bw6) (by kernel_rfl) ?_
            simp only [List.take_succ_cons, List.take_zero, List.drop_succ_cons, List.drop_zero]
            repeat (first
              | (refine wpSegH_no (by rfl) ?_; simp only [Act.put, List.setIfInBounds_toArray, List.set_cons_zero, List.set_cons_succ])
              | (refine wpSegH_yes (by rfl) ?_; apply Exists.intro; apply And.intro; (· (intro wx hS; (try dsimp only at hS); go_simp; first | done | with_reducible rfl)); simp only [Act.put, List.setIfInBounds_toArray, List.set_cons_zero, List.set_cons_succ]))
            refine wpSegH_nil ?_
            refine wpAnyH_one 32 _ #[true, true, true, true, true, true, true, true, true, true, true, true, true, true, true, true, true, true, true, true, true, true, true, true, true, true, true, true, true, true, true, true, true, true, true, false, false, false, false, false, false, false, false, false, false, false, false, false, false] 14 (by kernel_rfl) (fun K hK => ?_)
            have HKK := Lib.hid hK
            clear hK
            simp only [List.drop_succ_cons, List.drop_zero]
            refine headH_mk (by rfl) ?_
            go_simp
            refine HCR.out.mono ?_
            rintro r w7 ⟨rfl, hw7⟩
            subst hw7
            refine HKK.out _ _ (HS.out _ bw6) ?_
            clear HKK K HCR
            refine wpAnyH_seg 35 14 _ #[true, true, true, true, true, true, true, true, true, true, true, true, true, true, true, true, true, true, true, true, true, true, true, true, true, true, true, true, true, true, true, true, true, true, true, true, true, true, true, true, true, true, true, true, true, true, true, true, true] 0 (by kernel_rfl) noPanic_put (HS.out _ bw6) (by kernel_rfl) ?_
            simp only [List.take_succ_cons, List.take_zero, List.drop_succ_cons, List.drop_zero]
            repeat (first
              | (refine wpSegH_no (by rfl) ?_; simp only [Act.put, List.setIfInBounds_toArray, List.set_cons_zero, List.set_cons_succ])
              | (refine wpSegH_yes (by rfl) ?_; apply Exists.intro; apply And.intro; (· (intro wx hS; (try dsimp only at hS); go_simp; first | done | with_reducible rfl)); simp only [Act.put, List.setIfInBounds_toArray, List.set_cons_zero, List.set_cons_succ]))
            refine wpSegH_nil ?_
            refine wpAnyH_done (by kernel_rfl) (NoPanic.normal ?_) _
            have HE := Lib.hid (HFIN.out w6 M6.out)
            clear M6 bw6 HFIN HS HSTT HSM HCSA HCRA
            go_wp2
            exact ⟨⟨i + 1, by omega, by go_num, dq2, rfl, HE⟩, by simp [intOf]; omega⟩
    · have hcase : (i < len1 ∧ ¬ i < 50) ∨ ¬ i < len1 := by omega
      obtain ⟨X, Y, rs, ba, bc, sa, sc, ra, rc, ba', bc', sa', sc', ra', rc', k1, k2, k3, k4, k5⟩ := hr.out
      have hfin : ∀ w', Below wr.heap.size wr w' → Below w.heap.size w w' := fun w' hb => below_on (below_on B1.out k5.bel) hb
      have HF := Lib.hid hfin
      have K2 := Lib.hid k2
      have K4 := Lib.hid k4
      have K5 := Lib.hid k5
      clear hr k1 k2 k3 k4 k5 hfin hlt
      cases dq with
      | none =>
        unfold dptr
        simp only [Option.map_none]
        have hn := HN1.out
        rcases hcase with ⟨c1, c3⟩ | c1
        case' inl => have c1 : (i : Int) < (len1 : Int) := by omega
        case' inl => have c3 : ¬ (i : Int) < 50 := by omega
        case' inr => have c1 : ¬ (i : Int) < (len1 : Int) := by omega
        all_goals
          go_wp2_with fail
          refine wp_region_lexH (fun wx => True) 10 (Array.replicate 10 false) (by kernel_rfl) (by kernel_rfl) ?_
          refine wpAnyH_seg 0 10 _ #[true, true, true, true, true, true, true, true, true, true] 0 (by kernel_rfl) noPanic_put (trivial) (by kernel_rfl) ?_
          simp only [List.take_succ_cons, List.take_zero, List.drop_zero]
          repeat (first
            | (refine wpSegH_no (by rfl) ?_; simp only [Act.put, List.setIfInBounds_toArray, List.set_cons_zero, List.set_cons_succ])
            | (refine wpSegH_yes (by rfl) ?_; apply Exists.intro; apply And.intro; (· (intro wx hS; (try dsimp only at hS); go_simp; first | done | with_reducible rfl)); simp only [Act.put, List.setIfInBounds_toArray, List.set_cons_zero, List.set_cons_succ]))
          refine wpSegH_nil ?_
          refine wpAnyH_done (by kernel_rfl) (NoPanic.normal ?_) _
          go_wp2_with fail
          go_ret
          exact ⟨rfl, HF.out _ (below_drew1 _)⟩
      | some q =>
        unfold dptr
        simp only [Option.map_some]
        have hn := fun w => HN2.out w q
        have k5' : Own w1 wr (ChanA q N Y :: PoolR rs :: ChanA p N X :: CelA bx (xce N X ba bc sa sc ra rc) :: CelA byy (xce N Y ba' bc' sa' sc' ra' rc') :: []) := K5.out.pick 4 rfl
        obtain ⟨g0, gm0⟩ := k5'.cel 4 rfl 0 _ rfl
        obtain ⟨g1, gm1⟩ := k5'.cel 4 rfl 1 _ rfl
        obtain ⟨g2, gm2⟩ := k5'.cel 4 rfl 2 _ rfl
        obtain ⟨g3, gm3⟩ := k5'.cel 4 rfl 3 _ rfl
        obtain ⟨g4, gm4⟩ := k5'.cel 4 rfl 4 _ rfl
        have hs : ∀ wx, Below wr.heap.size wr wx → (wx.cell? ⟨byy, 0, none⟩ = some (.int .i64 (N : Int)) ∧ wx.cell? ⟨byy, 1, none⟩ = some (.slice ba' Y.buf.length bc') ∧ wx.cell? ⟨byy, 2, none⟩ = some (.slice sa' Y.S.length sc') ∧ wx.cell? ⟨byy, 3, none⟩ = some (.slice ra' Y.R.length rc') ∧ wx.cell? ⟨byy, 4, none⟩ = some (.bool Y.cl)) := fun wx hb => ⟨cell_below g0 hb, cell_below g1 hb, cell_below g2 hb, cell_below g3 hb, cell_below g4 hb⟩
        have hstt := cstate_any (k5'.step (below_drew1 _)) (by have := K2.out.1; omega) (by have := K2.out.2.1; omega) (by have := K2.out.2.2; omega)
        have HS := Lib.hid hs
        have HSTT := Lib.hid hstt
        clear hs hstt g0 g1 g2 g3 g4 gm0 gm1 gm2 gm3 gm4 k5'
        rcases hcase with ⟨c1, c3⟩ | c1
        case' inl => have c1 : (i : Int) < (len1 : Int) := by omega
        case' inl => have c3 : ¬ (i : Int) < 50 := by omega
        case' inr => have c1 : ¬ (i : Int) < (len1 : Int) := by omega
        all_goals
          go_wp2_with fail
          refine wp_region_lexH (fun wx => wx.cell? ⟨byy, 0, none⟩ = some (.int .i64 (N : Int)) ∧ wx.cell? ⟨byy, 1, none⟩ = some (.slice ba' Y.buf.length bc') ∧ wx.cell? ⟨byy, 2, none⟩ = some (.slice sa' Y.S.length sc') ∧ wx.cell? ⟨byy, 3, none⟩ = some (.slice ra' Y.R.length rc') ∧ wx.cell? ⟨byy, 4, none⟩ = some (.bool Y.cl)) 10 (Array.replicate 10 false) (by kernel_rfl) (by kernel_rfl) ?_
          refine wpAnyH_seg 0 4 _ #[true, true, true, true, false, false, false, false, false, false] 6 (by kernel_rfl) noPanic_put (HS.out _ (below_drew1 _)) (by kernel_rfl) ?_
          simp only [List.take_succ_cons, List.take_zero, List.drop_zero]
          repeat (first
            | (refine wpSegH_no (by rfl) ?_; simp only [Act.put, List.setIfInBounds_toArray, List.set_cons_zero, List.set_cons_succ])
            | (refine wpSegH_yes (by rfl) ?_; apply Exists.intro; apply And.intro; (· (intro wx hS; (try dsimp only at hS); go_simp; first | done | with_reducible rfl)); simp only [Act.put, List.setIfInBounds_toArray, List.set_cons_zero, List.set_cons_succ]))
          refine wpSegH_nil ?_
          refine wpAnyH_seg 5 1 _ #[true, true, true, true, false, true, false, false, false, false] 5 (by kernel_rfl) noPanic_put (HS.out _ (below_drew1 _)) (by kernel_rfl) ?_
          simp only [List.take_succ_cons, List.take_zero, List.drop_succ_cons, List.drop_zero]
          repeat (first
            | (refine wpSegH_no (by rfl) ?_; simp only [Act.put, List.setIfInBounds_toArray, List.set_cons_zero, List.set_cons_succ])
            | (refine wpSegH_yes (by rfl) ?_; apply Exists.intro; apply And.intro; (· (intro wx hS; (try dsimp only at hS); go_simp; first | done | with_reducible rfl)); simp only [Act.put, List.setIfInBounds_toArray, List.set_cons_zero, List.set_cons_succ]))
          refine wpSegH_nil ?_
          refine wpAnyH_one 4 _ #[true, true, true, true, true, true, false, false, false, false] 4 (by kernel_rfl) (fun K hK => ?_)
          have HKK := Lib.hid hK
          clear hK
          simp only [List.drop_succ_cons, List.drop_zero]
          refine headH_mk (by rfl) ?_
          go_simp
          refine HSTT.out.mono ?_
          rintro r w4 ⟨b1, d1, b2, d2, b3, d3, rfl, m4, hb4⟩
          have hsm := same13_any w4 N Y b1 d1 b2 d2 b3 d3 ba' bc' sa' sc' ra' rc' ((m4.rowG 2 rfl).cells) ((m4.rowG 1 rfl).cells) ((m4.rowG 0 rfl).cells) (m4.refGet 4 rfl K4.out) (by have := K2.out.1; omega) (by have := K2.out.2.1; omega) (by have := K2.out.2.2; omega)
          unfold xcv at hsm
          have HSAME := Lib.hid hsm
          have bw4 := below_on (below_drew1 wr) hb4
          refine HKK.out _ _ (HS.out _ bw4) ?_
          clear HKK K hsm m4 hb4
          refine wpAnyH_one 6 _ #[true, true, true, true, true, true, true, false, false, false] 3 (by kernel_rfl) (fun K hK => ?_)
          have HKK := Lib.hid hK
          clear hK
          simp only [List.drop_succ_cons, List.drop_zero]
          refine headH_mk (by rfl) ?_
          go_simp
          refine HSAME.out.mono ?_
          rintro r w5 ⟨rfl, hb5⟩
          have bw5 := below_on bw4 hb5
          refine HKK.out _ _ (HS.out _ bw5) ?_
          clear HKK K hb5 HSAME bw4
          refine wpAnyH_seg 7 3 _ #[true, true, true, true, true, true, true, true, true, true] 0 (by kernel_rfl) noPanic_put (HS.out _ bw5) (by kernel_rfl) ?_
          simp only [List.take_succ_cons, List.take_zero, List.drop_succ_cons, List.drop_zero]
          repeat (first
            | (refine wpSegH_no (by rfl) ?_; simp only [Act.put, List.setIfInBounds_toArray, List.set_cons_zero, List.set_cons_succ])
            | (refine wpSegH_yes (by rfl) ?_; apply Exists.intro; apply And.intro; (· (intro wx hS; (try dsimp only at hS); go_simp; first | done | with_reducible rfl)); simp only [Act.put, List.setIfInBounds_toArray, List.set_cons_zero, List.set_cons_succ]))
          refine wpSegH_nil ?_
          refine wpAnyH_done (by kernel_rfl) (NoPanic.normal ?_) _
          have hb := HF.out _ bw5
          clear bw5 HSTT HS
          go_wp2_with fail
          go_ret
          exact ⟨rfl, hb⟩
end Go.Proofs.Ythfleeimhnenpaa.chansPlays
