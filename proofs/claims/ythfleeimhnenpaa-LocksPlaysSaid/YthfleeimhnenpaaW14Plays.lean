/-
  The walk of the law LocksPlays.
-/
import Derived.Test.YthfleeimhnenpaaWLk4
import Derived.Test.YthfleeimhnenpaaInts
import Derived.Test.YthfleeimhnenpaaInArgs
import Derived.OpenShut
import Derived.LoopTactic
open Go Go.RowKit
set_option linter.unusedVariables false
namespace Go.Proofs.Ythfleeimhnenpaa.locksPlays
def dptr (d : Option Nat) : Value := .pointer (d.map fun q => ⟨q, 0, none⟩)
def DA (d : Option Nat) (Y : List Int) : Asr := match d with
  | none => EmpA
  | some q => LockA q Y
/-- Behind some calls. -/
def St (w1 w : World) (p bx byy i : Nat) (dq : Option Nat) : Prop :=
  ∃ (X Y : List Int) (rs : List (Option Addr × Nat × List Int)) (a : Option Addr) (c : Nat) (a2 : Option Addr) (c2 : Nat), X.length ≤ i ∧ Y.length ≤ i ∧ (a, c, X) ∈ rs ∧ (a2, c2, Y) ∈ rs ∧
    Own w1 w [PoolA rs, LockA p X, CelA bx [.slice a X.length c], CelA byy [.slice a2 Y.length c2], DA dq Y]
theorem St.bel {w1 w : World} {p bx byy i : Nat} {dq : Option Nat} (h : St w1 w p bx byy i dq) : Below w1.heap.size w1 w := by
  obtain ⟨X, Y, rs, a, c, a2, c2, _, _, _, _, h⟩ := h; exact h.bel
theorem St.up {w1 w : World} {p bx byy i : Nat} {dq : Option Nat} (h : St w1 w p bx byy i dq) : St w1 w p bx byy (i + 1) dq := by
  obtain ⟨X, Y, rs, a, c, a2, c2, h1, h2, h⟩ := h
  exact ⟨X, Y, rs, a, c, a2, c2, by omega, by omega, h⟩
theorem gaveL_len (L : List Int) (g : Int) : (gaveL L g).length ≤ L.length := by
  unfold gaveL; split
  · simp
  · split <;> simp
set_option maxRecDepth 100000 in
set_option maxHeartbeats 1000000 in
theorem walk (a0 : Option Addr) (len0 cap0 : Nat) (l0 : List Bool) (a1 : Option Addr) (len1 cap1 : Nat) (z1 : List Int) (a2 : Int) (w : World) (w0 : IsBools w a0 len0 cap0 l0) (w1' : IsRow .i64 w a1 len1 cap1 z1) (v2 : (Lit.int .i64 a2).wf = true) :
    Calls Try.prog 7 #[.slice a0 len0 cap0, .slice a1 len1 cap1, .int .i64 a2] w fun e w' => e = .returned (.bool true) ∧ Below w.heap.size w w' := by
  obtain ⟨hm0, hlc0, hcm0, hat0⟩ := w0
  obtain ⟨hlc, hcm, hzl, hcells⟩ := w1'.cells
  have hzc : ∀ j, j < len1 → ∃ b off x, a1 = some ⟨b, off, none⟩ ∧ w.cell? ⟨b, off + j, none⟩ = some (.int .i64 x) := fun j hj => by
    obtain ⟨b, off, e1, e2, e3⟩ := hcells j (by omega)
    exact ⟨b, off, _, e1, e2⟩
  clear w1' hcells
  have HZC := Lib.hid hzc
  have HAT := Lib.hid hat0
  have HM := Lib.hid hm0
  have hlm0 : len0 ≤ maxLen := Nat.le_trans hlc0 hcm0
  have hlm1 : len1 ≤ maxLen := Nat.le_trans hlc hcm
  unfold maxLen at hlm0 hlm1
  clear hzc hat0 hm0 hlc0 hcm0 hlc hcm hzl v2
  have hn1 : ∀ w, (binOp .eql 60 (.pointer none) (.pointer none)).run Try.prog w = .ok (.bool true) w := fun w => by rfl
  have hn2 : ∀ w p, (binOp .eql 60 (.pointer (some ⟨p, 0, none⟩)) (.pointer none)).run Try.prog w = .ok (.bool false) w := fun w p => by rfl
  have HN1 := Lib.hid hn1
  have HN2 := Lib.hid hn2
  clear hn1 hn2
  go_enter Try.func7, Try.ntmps7
  go_wp2_with fail
  refine (awake14_any _).mono ?_
  rintro e w1 ⟨rfl, hb1⟩
  have B1 := Lib.hid hb1; clear hb1
  go_wp2_with fail
  refine (o_knew (w0 := w1) (Own.nil (Below.refl _ _))).mono ?_
  rintro r w2 ⟨p, rfl, h2, -⟩
  have H2 := Lib.hid h2; clear h2
  go_upto_region 6 with fail
  have hst : ∃ bx byy, bx = w2.heap.size ∧ byy = w2.heap.size + 1 ∧ St w1 ((w2.alloc (.cells #[.slice none 0 0] 63)).alloc (.cells #[.slice none 0 0] 63)) p bx byy 0 none := by
    refine ⟨_, _, rfl, rfl, [], [], [(none, 0, [])], none, 0, none, 0, by simp, by simp, by simp, by simp, ?_⟩
    have h3 := (H2.out.alloc [.slice none 0 0] 63 rfl).alloc [.slice none 0 0] 63 (b := w2.heap.size + 1) (by simp)
    have h4 := h3.add (Below.refl _ _) (A := PoolA [(none, 0, [])]) (F := []) ⟨fun x hx => by simp at hx, fun r hr => by simp at hr; subst hr; exact ⟨fun x hx => by simp [blk] at hx, RowAt.nil _⟩⟩ (fun x hx => by simp at hx)
    have h5 := h4.add (Below.refl _ _) (A := DA none []) (F := []) rfl (fun x hx => by simp at hx)
    have h6 := h5.rev
    simp only [List.reverse_cons, List.reverse_nil, List.nil_append, List.cons_append] at h6
    exact h6.pick 3 rfl
  obtain ⟨bx, byy, hbx, hby, hst⟩ := hst
  have HST := Lib.hid hst
  rw [← hby, ← hbx]
  clear hst hbx hby H2
  have hcp : ∃ dq, Value.pointer none = dptr dq ∧ Hid (St w1 ((w2.alloc (.cells #[.slice none 0 0] 63)).alloc (.cells #[.slice none 0 0] 63)) p bx byy 0 dq) := ⟨none, rfl, HST⟩
  generalize (w2.alloc (.cells #[.slice none 0 0] 63)).alloc (.cells #[.slice none 0 0] 63) = W0 at *
  clear HST
  go_wp2_with fail
  go_loopw [9, 11] (fun d iv wr => ∃ i : Nat, i ≤ 50 ∧ iv = .int .i64 i ∧ ∃ dq, d = dptr dq ∧ Hid (St w1 wr p bx byy i dq)) (fun _ iv _ => 50 - (intOf iv).toNat)
  case atStart =>
    obtain ⟨dq, h1, h2⟩ := hcp
    exact ⟨0, by omega, rfl, dq, h1, h2⟩
  case round =>
    obtain ⟨i, hi, rfl, dq, rfl, hr⟩ := hrel
    clear hcp
    by_cases hlt : i < len0 ∧ i < len1 ∧ i < 50
    · obtain ⟨q1, q2, q3⟩ := hlt
      obtain ⟨b, off, g, rfl, z1⟩ := HZC.out i q2
      obtain ⟨b0, off0, rfl, z0⟩ := HAT.out i (by have := HM.out; omega)
      generalize l0[i]'(by have := HM.out; omega) = tk at z0
      have z1' := cell_below (cell_below z1 B1.out) hr.out.bel
      have z0' := cell_below (cell_below z0 B1.out) hr.out.bel
      have hi1 : (i : Int) < (len0 : Int) := by omega
      have hi2 : (i : Int) < (len1 : Int) := by omega
      have hi3 : (i : Int) < 50 := by omega
      have Z0 := Lib.hid (cell_below z0 B1.out)
      generalize hG : bits BinOp.and IntKind.i64 g 65535 = G
      clear z1 z0 z0'
      go_upto_if 48 with fail
      clear hG
      go_cut [9] (fun s9 wx => ∃ dq, s9 = dptr dq ∧ Hid (St w1 wx p bx byy i dq))
      case first =>
        have hS := hr
        obtain ⟨X, Y, rs, xa, xc, ya, yc, k1, k2, k3, k4, k5⟩ := hr.out
        have K3 := Lib.hid k3
        have K4 := Lib.hid k4
        have K5 := Lib.hid k5
        obtain ⟨g0, f0⟩ := k5.cel 2 rfl 0 _ rfl
        obtain ⟨g1, f1⟩ := k5.cel 3 rfl 0 _ rfl
        have k5' := k5
        clear hr k3 k4 k5 z1'
        by_cases hc : (i : Int) = a2
        · have hc1 : ((i : Int) == a2) = true := by rw [beq_iff_eq]; exact hc
          clear hc
          obtain ⟨F, hF, -⟩ := k5'.fact 1 rfl
          have HFF := Lib.hid hF
          have hblt : byy < wr.heap.size := World.block_lt_of_cell? wr _ g1
          have HST1 : Hid (CR byy 1 wr wr) := Lib.hid (CR.start (Room.of_blk (cs := [.slice ya Y.length yc]) (k5'.cel 3 rfl) hblt))
          have hne : bx ≠ byy := by
            obtain ⟨_, Fs, ⟨F0, F1, rfl, e0, e0', ⟨F1, F2, rfl, e1, e2, ⟨F3, F4, rfl, e3, e4, ⟨F5, F6, rfl, e5, e6, _⟩⟩⟩⟩, _⟩ := k5'
            obtain ⟨rfl, _⟩ := e3
            obtain ⟨rfl, _⟩ := e5
            intro e; subst e
            exact e4 bx (by simp) (by simp)
          have HK := Lib.hid (CR.loads (b := byy) (n := 1) g0 hne)
          have hl : X.length ≤ 1000000 := by omega
          have HL := Lib.hid hl
          clear hF hblt hne k5' g1 f1 hl
          go_wp2_with fail
          go_region_held3 (fun w' => w'.cell? ⟨bx, 0, none⟩ = some (.slice xa X.length xc) ∧ CR byy 1 wr w')
            ((refine HK.out _ ?_; repeat (first | exact HST1.out | exact cr1 | exact lim1 (by assumption) | refine CR.drew ?_ | refine CR.drewN ?_ _ | refine CR.set ?_ _ _ | refine CR.step ?_ (below_alloc1 _ _))))
            ((go_at_call 26; refine (kclone_any _ p X F (HFF.out.chg (Chg.of_below (F := []) (by repeat (first | exact Below.refl _ _ | refine Below.drew ?_ | refine below_drewN ?_ _))) (by simp)) HL.out).mono ?_; rintro r w3 ⟨q, F', rfl, m1, m2, m3⟩
              have b3 : Below wr.heap.size wr w3 := by first | exact m3 | exact below_on (below_drew1 _) m3
              have cr1 : CR byy 1 wr w3 := CR.step HST1.out b3
              obtain ⟨v9, e9, m9⟩ := cr1.2.at 0 (by omega)))
          all_goals
            have hE : St w1 (w3.setCell ⟨byy, 0, none⟩ (.slice xa X.length xc)) p bx byy i (some q) := by
              have o1 := K5.out.add b3 (A := LockA q X) m1 (fun x hx => m2 x hx)
              have o2 := o1.setAt 4 rfl 0 (.slice xa X.length xc)
              exact ⟨X, X, rs, xa, xc, xa, xc, k1, k1, K3.out, K3.out, ((o2.pick 5 rfl).drop).rot⟩
            have HE := Lib.hid hE
            rename_i hHeld
            clear hE hHeld m1 m2 m3 b3 cr1
            go_wp2_with fail
            go_meet
            exact ⟨some q, rfl, HE⟩
        · have hc1 : ((i : Int) == a2) = false := by rw [beq_eq_false_iff_ne]; exact hc
          clear hc k5'
          go_wp2_with fail
          go_meet
          exact ⟨dq, rfl, hS⟩
      case rest =>
        clear hr z1'
        obtain ⟨dq2, rfl, hr⟩ := hcut
        obtain ⟨X, Y, rs, xa, xc, ya, yc, k1, k2, k3, k4, k5⟩ := hr.out
        have K3 := Lib.hid k3
        have K4 := Lib.hid k4
        have K5 := Lib.hid k5
        obtain ⟨g0, f0⟩ := k5.cel 2 rfl 0 _ rfl
        have hrow : RowAt wc xa xc X := k5.poolGet 0 rfl k3
        have hl : X.length ≤ 1000000 := by omega
        have z0' := cell_below Z0.out k5.bel
        have ht := ztake_any wc xa X.length xc X G rfl hrow.ints hl
        have hg := zgive_any wc xa X.length xc X G rfl hrow hl
        unfold zv at ht hg
        have HT := Lib.hid ht
        have HGV := Lib.hid hg
        have HL := Lib.hid hl
        clear hr k3 k4 k5 hrow ht hg hl
        cases tk with
        | true =>
          go_wp2_with fail
          refine HT.out.mono ?_
          rintro r w4 ⟨a', c', rfl, m1, m2, m3⟩
          have o1 := Own.poolAdd K5.out m3 K3.out m1 (fun x hx => .inr (m2 x hx))
          have o2 := o1.alloc [.slice a' (X.length + 1) c'] 63 rfl
          have o3 := o2.setAt 3 rfl 0 (.slice a' (X.length + 1) c')
          have O3 := Lib.hid (o3.pick 2 rfl)
          obtain ⟨x0, y0⟩ := o2.cel 3 rfl 0 _ rfl
          clear o1 o2 o3 m1 m2 m3 g0
          have hk := o_ktake O3.out G HL.out
          have HTK := Lib.hid hk
          clear hk
          generalize X.isEmpty = em at *
          go_wp2_with fail
          refine HTK.out.mono ?_
          rintro r w5 ⟨rfl, h5⟩
          have h5' : Own w1 w5 [LockA p (X ++ [G]), CelA w4.heap.size [.slice a' (X.length + 1) c'], PoolA ((a', c', X ++ [G]) :: rs), CelA bx [.slice a' (X.length + 1) c'], CelA byy [.slice ya Y.length yc], DA dq2 Y] := h5
          obtain ⟨x1, y1⟩ := h5'.cel 3 rfl 0 _ rfl
          obtain ⟨F, hF, -⟩ := h5'.fact 0 rfl
          have hrow6 := h5'.poolGet 2 rfl (List.mem_cons_self ..)
          have hs := ksame_any _ p (X ++ [G]) F a' (X.length + 1) c' hF (by simp) hrow6.ints (by have := HL.out; simp; omega)
          unfold zv at hs
          have HSM := Lib.hid hs
          have H6 := Lib.hid h5'
          have hlen : (X ++ [G]).length ≤ i + 1 := by simp; omega
          have HLN := Lib.hid hlen
          clear h5 h5' hF hrow6 hs O3 HTK x0 y0 hlen
          go_wp2_with fail
          refine HSM.out.mono ?_
          rintro r w7 ⟨rfl, b7⟩
          have hE : St w1 w7 p bx byy (i + 1) dq2 := by
            have h7 := H6.out.step b7
            have e : X.length + 1 = (X ++ [G]).length := by simp
            rw [e] at h7
            exact ⟨X ++ [G], Y, _, a', c', ya, yc, HLN.out, by omega, List.mem_cons_self .., List.mem_cons_of_mem _ K4.out, ((h7.pick 1 rfl).drop).pick 1 rfl⟩
          have HE := Lib.hid hE
          clear hE b7
          go_wp2
          exact ⟨⟨i + 1, by omega, by go_num, dq2, rfl, HE⟩, by simp [intOf]; omega⟩
        | false =>
          go_wp2_with fail
          refine HGV.out.mono ?_
          rintro r w4 ⟨a', n', c', rfl, m0, m1, m2, m3⟩
          have o1 := Own.poolAdd K5.out m3 K3.out m1 m2
          have o2 := o1.alloc [.slice a' n' c'] 63 rfl
          have O2 := Lib.hid (o2.pick 2 rfl)
          have M0 := Lib.hid m0
          obtain ⟨x0, y0⟩ := o2.cel 3 rfl 0 _ rfl
          clear o1 o2 m0 m1 m2 m3 g0
          go_wp2_with fail
          refine (o_kgive O2.out G).mono ?_
          rintro r w5 ⟨rfl, h5⟩
          have h5' : Own w1 w5 [LockA p (gaveL X G), CelA w4.heap.size [.slice a' n' c'], PoolA ((a', c', gaveL X G) :: rs), CelA bx [.slice xa X.length xc], CelA byy [.slice ya Y.length yc], DA dq2 Y] := h5
          obtain ⟨x1, y1⟩ := h5'.cel 3 rfl 0 _ rfl
          obtain ⟨x2, y2⟩ := h5'.cel 1 rfl 0 _ rfl
          have h6 := h5'.setAt 3 rfl 0 (.slice a' n' c')
          obtain ⟨F, hF, -⟩ := h6.fact 0 rfl
          have hrow6 := h6.poolGet 2 rfl (List.mem_cons_self ..)
          have hln : (gaveL X G).length ≤ X.length := gaveL_len X G
          have hs := ksame_any _ p (gaveL X G) F a' n' c' hF M0.out hrow6.ints (by have := HL.out; omega)
          unfold zv at hs
          have HSM := Lib.hid hs
          have H6 := Lib.hid h6
          have hlen : (gaveL X G).length ≤ i + 1 := by omega
          have HLN := Lib.hid hlen
          clear h5 h5' h6 hF hrow6 hln hs O2 x0 y0 hlen
          generalize (gaveR X G).1 = r1
          generalize (gaveR X G).2 = r2
          go_wp2_with fail
          refine HSM.out.mono ?_
          rintro r w7 ⟨rfl, b7⟩
          have hE : St w1 w7 p bx byy (i + 1) dq2 := by
            have h7 := H6.out.step b7
            have := M0.out
            subst this
            exact ⟨gaveL X G, Y, _, a', c', ya, yc, HLN.out, by omega, List.mem_cons_self .., List.mem_cons_of_mem _ K4.out, ((h7.pick 1 rfl).drop).pick 1 rfl⟩
          have HE := Lib.hid hE
          clear hE b7
          go_wp2
          exact ⟨⟨i + 1, by omega, by go_num, dq2, rfl, HE⟩, by simp [intOf]; omega⟩
    · have hcase : (i < len0 ∧ i < len1 ∧ ¬ i < 50) ∨ (i < len0 ∧ ¬ i < len1) ∨ ¬ i < len0 := by omega
      obtain ⟨X, Y, rs, xa, xc, ya, yc, k1, k2, k3, k4, k5⟩ := hr.out
      obtain ⟨g1, f1⟩ := k5.cel 3 rfl 0 _ rfl
      have hrow : RowAt wr ya yc Y := k5.poolGet 0 rfl k4
      have HROW := Lib.hid hrow.ints
      have hy : Y.length ≤ 1000000 := by omega
      have hfin : ∀ w', Below wr.heap.size wr w' → Below w.heap.size w w' := fun w' hb => below_on (below_on B1.out k5.bel) hb
      have HF := Lib.hid hfin
      have K5 := Lib.hid k5
      clear hr k3 k5 hrow hfin hlt
      cases dq with
      | none =>
        unfold dptr
        simp only [Option.map_none]
        have hn := HN1.out
        rcases hcase with ⟨c1, c2, c3⟩ | ⟨c1, c2⟩ | c1
        case' inl => have c1 : (i : Int) < (len0 : Int) := by omega
        case' inl => have c2 : (i : Int) < (len1 : Int) := by omega
        case' inl => have c3 : ¬ (i : Int) < 50 := by omega
        case' inr.inl => have c1 : (i : Int) < (len0 : Int) := by omega
        case' inr.inl => have c2 : ¬ (i : Int) < (len1 : Int) := by omega
        case' inr.inr => have c1 : ¬ (i : Int) < (len0 : Int) := by omega
        all_goals
          go_wp2
          go_ret
          exact ⟨rfl, HF.out _ (Below.refl _ _)⟩
      | some q =>
        unfold dptr
        simp only [Option.map_some]
        have hn := fun w => HN2.out w q
        obtain ⟨F, hF, -⟩ := K5.out.fact 4 rfl
        have hs := ksame_any wr q Y F ya Y.length yc hF rfl HROW.out hy
        unfold zv at hs
        have HSM := Lib.hid hs
        clear hF hs
        rcases hcase with ⟨c1, c2, c3⟩ | ⟨c1, c2⟩ | c1
        case' inl => have c1 : (i : Int) < (len0 : Int) := by omega
        case' inl => have c2 : (i : Int) < (len1 : Int) := by omega
        case' inl => have c3 : ¬ (i : Int) < 50 := by omega
        case' inr.inl => have c1 : (i : Int) < (len0 : Int) := by omega
        case' inr.inl => have c2 : ¬ (i : Int) < (len1 : Int) := by omega
        case' inr.inr => have c1 : ¬ (i : Int) < (len0 : Int) := by omega
        all_goals
          go_wp2_with fail
          refine HSM.out.mono ?_
          rintro r w3 ⟨rfl, b3⟩
          have hb := HF.out _ b3
          clear b3
          go_wp2
          go_ret
          exact ⟨rfl, hb⟩
end Go.Proofs.Ythfleeimhnenpaa.locksPlays
