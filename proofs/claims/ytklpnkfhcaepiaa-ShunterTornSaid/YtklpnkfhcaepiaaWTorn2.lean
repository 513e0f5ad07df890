/-
  ShunterTorn: the walk of its first loop.
-/
import Derived.Test.YtklpnkfhcaepiaaWTorn1
import Derived.Test.YtklpnkfhcaepiaaWSome
import Derived.Test.YtklpnkfhcaepiaaRecsIn
import Derived.Deep.AppendLies
import Derived.Deep.RegionHeld3
import Derived.Deep.DrawnRows
import Derived.RegionTactic
import Derived.ChangeAlike
import Derived.WalkSmall
import Derived.OpenShut
import Derived.Deep.DeepCutAuto
import Derived.BigQuiet
import Derived.Deep.QuietTactic
open Go Go.RowKit
set_option linter.unusedVariables false
namespace Go.Proofs.Ytklpnkfhcaepiaa.shunterTorn
open Go.Proofs.Ytklpnkfhcaepiaa.burst
attribute [local go_sem ↓] Go.wp_at_zero Go.wp_at_succ
theorem llen_any {w0 w : World} {p pb : Nat} {s : SSt} {b : BSt} (h : Log w0 w p pb s b) :
    Calls Try.prog 35 #[.pointer (some ⟨p, 0, none⟩)] w fun e w' => e = .returned (.int .i64 (s.bs.length : Int)) ∧ w = w' := by
  obtain ⟨F, G, h1, _⟩ := h; exact slen_any p s F w h1
theorem sizeOf_nat (n : Nat) (h1 : 1 ≤ n) (h2 : n ≤ 400) : sizeOf_ (n : Int) = n := by unfold sizeOf_; omega
theorem info_int : (Try.prog.info? 3).map (fun i => (i.zero, i.size, i.bytes)) = some (some (.int .i64 0), 1, 8) := by kernel_rfl
/-- What stands while decisions are added. -/
def St (w0 w : World) (p pb SZ m i : Nat) (l : List Rec) (v : Value) : Prop :=
  ∃ s b bat K, Lg w0 w p pb s b bat K ∧ bat.flatten ++ b.wait = l.take i ∧ b.size = SZ ∧ b.wait.length < SZ ∧ (i < m → ∀ x ∈ bat, x.length = SZ) ∧ (i = m → b.wait = []) ∧ Full SZ bat ∧
    w.ownsRow w0.heap.size 3 1 v (bat.length + 1) (i64c (endsB bat)) ∧ (∀ g, v.ownBlock = some g → g ∉ K)
theorem St.grow {w0 w : World} {p pb SZ m i : Nat} {l : List Rec} {v : Value} {s : SSt} {b : BSt} {bat : List (List Rec)} {x : List Rec} {K : List Nat} (h : Lg w0 w p pb s b (bat ++ [x]) K) (hfl : bat.flatten ++ x = l.take (i + 1)) (hbs : b.size = SZ) (hw : b.wait = []) (hSZ : 1 ≤ SZ)
    (hful : i + 1 < m → x.length = SZ) (hF : ∀ y ∈ bat, y.length = SZ) (hown : w.ownsRow w0.heap.size 3 1 v (bat.length + 1 + 1) (i64c (endsB bat) ++ [.int .i64 ((logL (bat ++ [x])).length : Int)])) (hv : ∀ g, v.ownBlock = some g → g ∉ K) : St w0 w p pb SZ m (i + 1) l v := by
  refine ⟨s, b, bat ++ [x], K, h, by rw [hw]; simpa using hfl, hbs, by rw [hw, List.length_nil]; omega, fun hlt y hy => ?_, fun _ => hw, fun j h1 h2 => ?_, ?_, hv⟩
  · rw [List.mem_append, List.mem_singleton] at hy
    rcases hy with hy | rfl
    · exact hF y hy
    · exact hful hlt
  · rw [List.length_append, List.length_singleton] at h2
    rw [List.getElem_append_left (by omega)]
    exact hF _ (List.getElem_mem _)
  · rw [endsB_snoc, i64c_app, List.length_append, List.length_singleton]
    exact hown
theorem row_keep {w w' : World} {base n size : Nat} {e : TypeId} {v : Value} {xs : List Value} {K K' : List Nat} (h : w.ownsRow base e size v n xs) (hv : ∀ g, v.ownBlock = some g → g ∉ K) (c : Chg K w w') (hn : ∀ x ∈ K', x ∈ K ∨ w.heap.size ≤ x) :
    w'.ownsRow base e size v n xs ∧ ∀ g, v.ownBlock = some g → g ∉ K' :=
  ⟨owns_chg h c hv, fun g hg hK => by
    rcases hn g hK with h1 | h1
    · exact hv g hg h1
    · have := owns_lt h g hg; omega⟩
theorem ends_at {w : World} {base n ce : Nat} {e : TypeId} {ae : Option Addr} {bat : List (List Rec)} (h : w.ownsRow base e 1 (.slice ae (n + 1) ce) (n + 1) (i64c (endsB bat))) (hn : n = bat.length) (j : Nat) (hj : j ≤ n) :
    ∃ be oe, ae = some ⟨be, oe, none⟩ ∧ w.cell? ⟨be, oe + j, none⟩ = some (.int .i64 ((logL (bat.take j)).length : Int)) := by
  obtain ⟨a', c', h1, _, _, h2⟩ := NatsAt.of_own h (by rw [endsB_len, hn])
  simp only [Value.slice.injEq] at h1
  obtain ⟨rfl, _, _⟩ := h1
  obtain ⟨be, oe, h3, h4⟩ := h2 j (by rw [endsB_len]; omega)
  rw [endsB_at] at h4
  exact ⟨be, oe, h3, h4⟩
theorem Lg.chg {w0 w w' : World} {p pb : Nat} {s : SSt} {b : BSt} {bat : List (List Rec)} {K O : List Nat} (h : Lg w0 w p pb s b bat K) (c : Chg O w w') (hd : ∀ x ∈ O, x ∉ K) (ho : ∀ x ∈ O, w0.heap.size ≤ x) : Lg w0 w' p pb s b bat K := by
  obtain ⟨⟨F, G, h1, h2, h3, h4, h5, h6, h7⟩, g2, g3, g4⟩ := h
  refine ⟨⟨F, G, h1.chg c (fun x hx hO => hd x hO (by rw [h7]; simp [hx])), h2.chg c (fun x hx hO => hd x hO (by rw [h7]; simp [hx])), h3, h4, h5, Chg.below h6 c ho, h7⟩, g2, g3, g4⟩
theorem after_last (b : BSt) (bat : List (List Rec)) (r : Rec) : batFlush (b.after r) (batAfter b bat r) = bat ++ [b.wait ++ [r]] := by
  unfold batFlush batAfter BSt.after
  by_cases hc : b.wait.length + 1 < b.size
  · rw [if_pos hc, if_pos hc, if_neg (by simp [BSt.added])]; rfl
  · rw [if_neg hc, if_neg hc, if_pos (flushed_wait _)]
theorem logL_grow (bat : List (List Rec)) (x : List Rec) : (logL bat).length < (logL (bat ++ [x])).length := by rw [logL_snoc, List.length_append, frameL_len]; omega
set_option maxRecDepth 100000 in
theorem size_rec (w : World) : (sizeOf (Try.prog.elem 48)).run Try.prog w = .ok 2 w := by first | rfl | kernel_rfl
theorem lbytes_any {w0 w : World} {p pb : Nat} {s : SSt} {b : BSt} (h : Log w0 w p pb s b) :
    Calls Try.prog 30 #[.pointer (some ⟨p, 0, none⟩)] w fun e w' => e = .returned (.string ⟨s.bs.toArray⟩) ∧ w = w' := by
  obtain ⟨F, G, h1, _⟩ := h; exact sbytes_any p s F w h1
theorem and_65535 (k : Int) : bits BinOp.and IntKind.i64 k 65535 = k % 65536 := by
  show IntKind.i64.wrap (((BitVec.ofInt 64 k) &&& (BitVec.ofInt 64 65535)).toNat : Int) = k % 65536
  have e : (BitVec.ofInt 64 65535).toNat = 65535 := by decide
  rw [BitVec.toNat_and, e, show (65535 : Nat) = 2 ^ 16 - 1 from rfl, Nat.and_two_pow_sub_one_eq_mod, IntKind.wrap_i64, BitVec.toNat_ofInt]; omega
theorem st_cc {W w' : World} {g n cap be o : Nat} {cs : List UInt8} {T : ByteArray} {v : Value} (h : Hid (Bytes W g cs ∧ cs.length = n ∧ T = ⟨cs.toArray⟩)) (hc : Hid (W.cell? ⟨be, o, none⟩ = some v)) (hb : Below W.heap.size W w') :
    (convert 36 9 (.slice (some ⟨g, 0, none⟩) n cap)).run Try.prog w' = .ok (.string T) w' ∧ w'.cell? ⟨be, o, none⟩ = some v ∧ Below W.heap.size W w' :=
  ⟨by rw [h.out.2.2]; exact conv_back (h.out.1.below hb) h.out.2.1 _ _ 5 Try.underlying36 Try.underlying5 Try.underlying9, cell_below hc.out hb, hb⟩
theorem st_cc_b {W w' w'' : World} {v T u : Value} {a : Addr} (h : (convert 36 9 v).run Try.prog w' = .ok T w'' ∧ w'.cell? a = some u ∧ Below W.heap.size W w') : Below W.heap.size W w' := h.2.2
set_option maxRecDepth 100000 in
set_option maxHeartbeats 2000000 in
theorem walk (a0 : Option Addr) (len0 cap0 : Nat) (l0 : List Rec) (a1 a2 a3 a4 : Int) (w : World) (v0 : IsRecs w a0 len0 cap0 l0) (v1 : (Lit.int .i64 a1).wf = true) (v2 : (Lit.int .i64 a2).wf = true) (v3 : (Lit.int .i64 a3).wf = true) (v4 : (Lit.int .u32 a4).wf = true) :
    Calls Try.prog 11 #[.slice a0 len0 cap0, .int .i64 a1, .int .i64 a2, .int .i64 a3, .int .u32 a4] w fun e w' => e = .returned (.bool true) ∧ Below w.heap.size w w' := by
  obtain ⟨rfl, hlc, hcm, hat, hub⟩ := v0
  obtain ⟨l1, u1⟩ := bounds_i64 v1
  obtain ⟨l2, u2⟩ := bounds_i64 v2
  obtain ⟨l3, u3⟩ := bounds_i64 v3
  have hw4 := bounds_u32 v4
  obtain ⟨m4, rfl⟩ := Int.eq_ofNat_of_zero_le hw4.1
  have hm4 : m4 < 4294967296 := by omega
  clear v1 v2 v3 v4 hw4
  have hlm : l0.length ≤ maxLen := Nat.le_trans hlc hcm
  obtain ⟨i0, hi, hz0, hz1, hz2⟩ := info_parts info_int
  have Hi := Lib.hid hi; clear hi
  have Hz0 := Lib.hid hz0; clear hz0
  have Hz1 := Lib.hid hz1; clear hz1
  have Hz2 := Lib.hid hz2; clear hz2
  have hok := someL_ok l0
  have hl40 := someL_len l0
  have Hat := Lib.hid hat; clear hat
  have Hub := Lib.hid hub; clear hub
  have Hlm := Lib.hid hlm; clear hlm hcm
  obtain ⟨m0, hm0⟩ : ∃ m, m = l0.length := ⟨_, rfl⟩
  rw [← hm0] at hlc ⊢
  have Hm0 := Lib.hid hm0; clear hm0
  go_enter Try.func11, Try.ntmps11
  go_wp2_with fail
  rw [Hm0.out]
  refine (some_any a0 cap0 l0 _ Hlm.out Hat.out Hub.out).mono ?_
  rintro e w1 ⟨a, ca, rfl, hc1, hc2, hc3, hb1⟩
  generalize someL l0 = l at hc1 hc3 hl40 hok
  have Hok := Lib.hid hok; clear hok
  have B1 := Lib.hid hb1
  have R1 := Lib.hid hc3; clear hc3 hb1 hc2
  obtain ⟨m, hm⟩ : ∃ m, m = l.length := ⟨_, rfl⟩
  rw [← hm] at hc1 hl40 ⊢
  have Hm := Lib.hid hm; clear hm
  go_wp2_with fail
  refine (live_any _).mono ?_
  rintro e w2 ⟨rfl, hb2⟩
  have B2 := Lib.hid (below_on B1.out hb2)
  have R2 := Lib.hid (R1.out.below hb2); clear hb2 R1 B1
  by_cases hz : m = 0 ∨ m4 = 0
  · by_cases hz0 : m = 0
    · have z1 : ((m : Int) == 0) = true := by rw [beq_iff_eq]; omega
      clear hz
      go_wp2_with fail
      refine (live_any _).mono ?_
      rintro e w3 ⟨rfl, hb3⟩
      have B3 := Lib.hid (below_on B2.out hb3); clear hb3
      go_wp2
      go_ret
      exact ⟨rfl, B3.out⟩
    · have z1 : ((m : Int) == 0) = false := by rw [beq_eq_false_iff_ne]; omega
      have z2 : ((m4 : Int) == 0) = true := by rw [beq_iff_eq]; omega
      clear hz
      go_wp2_with fail
      refine (live_any _).mono ?_
      rintro e w3 ⟨rfl, hb3⟩
      have B3 := Lib.hid (below_on B2.out hb3); clear hb3
      go_wp2
      go_ret
      exact ⟨rfl, B3.out⟩
  · have hmp : 0 < m := by omega
    have hm4p : 0 < m4 := by omega
    clear hz
    obtain ⟨SZ, hSZ⟩ : ∃ SZ : Nat, 1 + (bits BinOp.and IntKind.i64 a1 255).tmod 6 = (SZ : Int) := ⟨(1 + (a1 % 256).tmod 6).toNat, by rw [and_255, Int.toNat_of_nonneg (by have := Int.tmod_nonneg 6 (show 0 ≤ a1 % 256 by omega); omega)]⟩
    have hSZ2 : 1 ≤ SZ ∧ SZ ≤ 6 := by
      have h1 := Int.tmod_lt_of_pos (a1 % 256) (show (0 : Int) < 6 by omega)
      have h2 := Int.tmod_nonneg 6 (show 0 ≤ a1 % 256 by omega)
      rw [and_255] at hSZ
      omega
    have z1 : ((m : Int) == 0) = false := by rw [beq_eq_false_iff_ne]; omega
    have z2 : ((m4 : Int) == 0) = false := by rw [beq_eq_false_iff_ne]; omega
    go_wp2_with fail
    refine (inv_new 1048576 w2 _ (Below.refl _ _) (by omega) (by omega)).mono ?_
    rintro e w3 ⟨rfl, h3⟩
    have H3 := Lib.hid h3; clear h3
    obtain ⟨p, hp⟩ : ∃ p, p = w2.heap.size := ⟨_, rfl⟩
    rw [← hp] at H3 ⊢
    clear hp
    go_wp2_with fail
    refine (open_new H3.out SZ (by omega) (by omega)).mono ?_
    rintro e w4 ⟨pb, aa, cc, rfl, h4⟩
    rw [sizeOf_nat SZ (by omega) (by omega)] at h4
    obtain ⟨K0, h4k⟩ := h4.k
    have hlg : Lg w2 w4 p pb (SSt.new 1048576) ⟨SZ, 0, 0, []⟩ [] K0 := ⟨h4k, by have := LogOf.new SZ; rw [sizeOf_nat SZ (by omega) (by omega)] at this; exact this, by simp, by simp⟩
    have HL := Lib.hid hlg; clear hlg h4 h4k H3
    have hst : St w2 (w4.alloc (.cells #[.int .i64 0] 3)) p pb SZ m 0 l (.slice (some ⟨w4.heap.size, 0, none⟩) 1 1) := by
      refine ⟨_, _, [], K0, HL.out.step (below_alloc1 _ _), by simp, rfl, by simp; omega, fun _ x hx => by simp at hx, fun h => by omega, fun j h => by simp at h, ?_, fun g hg hK => by have := HL.out.log.lt g hK; simp [Value.ownBlock] at hg; omega⟩
      refine ⟨by simp [i64c_len, endsB_len], .inr ⟨w4.heap.size, 1, _, rfl, HL.out.log.log.bel.size, heap_alloc_new w4 _, by simp, by decide, rfl, ?_⟩⟩
      simp [endsB, i64c, logL, rowF]
    have HST := Lib.hid hst; clear hst
    go_wp2_with fail
    go_loopw [16, 17, 18, 66] (fun v _ _ iv wr => ∃ i : Nat, i ≤ m ∧ iv = .int .i64 i ∧ Hid (St w2 wr p pb SZ m i l v)) (fun _ _ _ iv _ => m - (intOf iv).toNat)
    case atStart => exact ⟨0, by omega, rfl, HST.out⟩
    case round =>
      obtain ⟨i, him, rfl, hr⟩ := hrel
      obtain ⟨s, b, bat, K, hlg, hfl, hbs, hbw, hful, hend, hfu, hown, hvK⟩ := hr.out
      have HLG := Lib.hid hlg; clear hlg hr HST HL
      have HFL := Lib.hid hfl; clear hfl
      have HFULL := Lib.hid hful; clear hful
      have HEND := Lib.hid hend; clear hend
      have HFU := Lib.hid hfu; clear hfu
      have HBS := Lib.hid hbs; clear hbs
      by_cases hlt : i < m
      · obtain ⟨b0, off, rfl, hr0, hr1⟩ := (R2.out.below HLG.out.log.log.bel) i (by have := Hm.out; omega)
        have hrok := Hok.out _ (List.getElem_mem (by have := Hm.out; omega : i < l.length))
        have htk : l.take (i + 1) = l.take i ++ [l[i]'(by have := Hm.out; omega)] := List.take_succ_eq_append_getElem (by have := Hm.out; omega)
        generalize l[i]'(by have := Hm.out; omega) = r at hr0 hr1 hrok htk
        obtain ⟨rk, rn⟩ := r
        simp only at hr0 hr1
        have HTK := Lib.hid htk; clear htk
        have HRK := Lib.hid hrok; clear hrok
        have hfew : bat.flatten.length + b.wait.length ≤ 40 := by
          have h := congrArg List.length HFL.out
          rw [List.length_append, List.length_take] at h; omega
        have hbn := HLG.out.of.bat.count
        obtain ⟨n, hn⟩ : ∃ n, n = bat.length := ⟨_, rfl⟩
        have hn2 : n ≤ 40 := by omega
        obtain ⟨ae, ce, rfl, hce1, hce2, _⟩ := NatsAt.of_own hown (by rw [endsB_len])
        rw [endsB_len, ← hn] at hce1 hown hvK ⊢
        have HN := Lib.hid hn; clear hn
        obtain ⟨E0, hE0⟩ : ∃ E0, E0 = (logL bat).length := ⟨_, rfl⟩
        have HE0 := Lib.hid hE0; clear hE0
        have hEs : E0 ≤ 100000 := by have h1 := HLG.out.of.bat.len; have h2 := HE0.out; omega
        have HOWN := Lib.hid hown; clear hown
        have HVK := Lib.hid hvK; clear hvK
        have hz3 : ((rn : Int) = rn) := rfl
        by_cases hlast : i + 1 = m
        · have g1 : ((i : Int) == (m : Int) - 1) = true := by rw [beq_iff_eq]; omega
          go_wp2_with fail
          refine (lg_add (HLG.out.step (below_alloc1 _ _)) (rk, rn) HRK.out (by omega) (by omega)).mono ?_
          rintro e w5 ⟨rfl, K5, h5, c5, n5⟩
          have H5 := Lib.hid h5; clear h5
          have C5 := Lib.hid c5; clear c5
          have N5 := Lib.hid n5; clear n5
          go_wp2_with fail
          refine (lg_flush H5.out).mono ?_
          rintro e w6 ⟨rfl, K6, h6, c6, n6⟩
          rw [after_last] at h6
          obtain ⟨o5, k5⟩ := row_keep (owns_below HOWN.out (below_alloc1 wr (.cells #[.int .i64 rk, .int .u64 (rn : Int)] 56))) HVK.out C5.out N5.out
          obtain ⟨o6, k6⟩ := row_keep o5 k5 c6 n6
          have H6 := Lib.hid h6; clear h6 c6 n6 o5 k5 C5 N5 H5
          have O6 := Lib.hid (And.intro o6 k6)
          obtain ⟨be, oe, hae, hce⟩ := ends_at o6 HN.out n (Nat.le_refl _)
          rw [HN.out, List.take_length, ← HE0.out, ← HN.out] at hce
          clear o6 k6
          obtain ⟨s6, hs6⟩ : ∃ s6, s6 = (s.after b (rk, rn)).flushed (b.after (rk, rn)) := ⟨_, rfl⟩
          obtain ⟨b6, hb6⟩ : ∃ b6, b6 = (b.after (rk, rn)).flushed := ⟨_, rfl⟩
          have hb6w : b6.wait = [] := by rw [hb6]; exact flushed_wait _
          have hb6s : b6.size = SZ := by rw [hb6, flushed_size, after_size]; exact HBS.out
          rw [← hs6, ← hb6] at H6
          clear hs6 hb6
          have HLEN : Hid (i + 1 < m → (b.wait ++ [(rk, rn)]).length = SZ) := Lib.hid (fun h => by omega)
          obtain ⟨E1, hE1⟩ : ∃ E1, E1 = s6.bs.length := ⟨_, rfl⟩
          have hE2 : E1 = (logL (bat ++ [b.wait ++ [(rk, rn)]])).length := by rw [hE1, H6.out.of.bs]
          have hE3 : E0 < E1 := by rw [hE2, HE0.out]; exact logL_grow _ _
          have hE4 : E1 ≤ 1000000 := by
            have := H6.out.of.room2 (by have := H6.out.few; omega); have h3 := H6.out.of.bat.len; have h4 := H6.out.of.bat.count; have h5 := H6.out.few; omega
          have HE2 := Lib.hid hE2; clear hE2
          have HE1 := Lib.hid hE1; clear hE1
          have HB6 := Lib.hid (And.intro hb6w hb6s); clear hb6w hb6s
          have q1 : IntKind.i64.wrap ((n : Int) + 1 - 1) = (n : Int) := by rw [IntKind.wrap_i64]; omega
          subst hae
          go_wp2_with fail
          have hq : ∀ W, Below w6.heap.size w6 W → Calls Try.prog 35 #[.pointer (some ⟨p, 0, none⟩)] W fun e w' => e = .returned (.int .i64 (E1 : Int)) ∧ w' = W := fun W hb =>
            (llen_any (H6.out.log.log.step hb)).mono (by rintro e w' ⟨rfl, rfl⟩; exact ⟨by rw [HE1.out], rfl⟩)
          have HQ := Lib.hid hq; clear hq
          go_quiet ((go_at_call 35; exact Calls.quiet_of_same (HQ.out _ (below_drewN (Below.refl _ _) _))))
          have bq := below_drewN (Below.refl w6.heap.size w6) nq
          have o7 := owns_below O6.out.1 bq
          have h7 := H6.out.step bq
          have k7 := O6.out.2
          have l7 := h7.log.lt
          clear hce q1
          have HBQ := Lib.hid bq; clear bq
          generalize w6.drewN nq = W7 at *
          have O7 := Lib.hid (And.intro o7 (And.intro k7 l7)); clear k7 l7
          have H7 := Lib.hid h7; clear h7
          go_wp2_with fail
          refine (HQ.out _ HBQ.out).mono ?_
          rintro e w' ⟨rfl, rfl⟩
          go_wp2_with (first
            | (at_builtin; go_loud (refine wpList_append_lies _ rfl _ _ 41 rfl w2.heap.size 3 i0 (.int .i64 0) 1 8 Try.underlying41 Hi.out Hz0.out Hz1.out Hz2.out rfl (by decide) _ _ _ rfl (o7.alloc _) ⟨w'.heap.size, 0, none⟩ 1 1 [.int .i64 (E1 : Int)] rfl rfl (one_new _ _ _ rfl) (one_one _ rfl) (by omega) (by unfold maxLen; omega) (by omega) (by have := H7.out.log.log.bel.size; simp; omega) (w'.heap.size + 1) (by simp) ?_))
            | go_in)
          intro g cp w8 hown8 hgrow8 hg8 hlt8
          have c8 : Chg [be] w' w8 := (Chg.of_below (below_alloc1 _ _)).grown hgrow8 (fun x hx => .inl (by simp [Value.ownBlock] at hx; simp [hx]))
          have hbe : be ∉ _ := O7.out.2.1 be rfl
          have h8 := Lg.chg H7.out c8 (fun x hx => by simp at hx; subst hx; exact hbe) (fun x hx => by simp at hx; subst hx; exact (o7.lt x rfl).1)
          have hg9 : ∀ y, Value.ownBlock (.slice (some ⟨g, 0, none⟩) (n + 1 + 1) cp) = some y → y ∉ K6 := fun y hy hK => by
            simp [Value.ownBlock] at hy
            subst hy
            rcases hg8 with hg8 | hg8
            · simp [Value.ownBlock] at hg8; subst hg8; exact hbe hK
            · have := O7.out.2.2 g hK; omega
          rw [HE2.out] at hown8
          rw [HN.out] at hown8 hg9
          have hst2 := St.grow (m := m) h8 (by rw [← List.append_assoc, HFL.out, HTK.out]) HB6.out.2 HB6.out.1 hSZ2.1 HLEN.out (HFULL.out hlt) hown8 hg9
          rw [← HN.out] at hst2
          have HST2 := Lib.hid hst2
          clear hst2 h8 hown8 hgrow8 hg8 hlt8 c8 hg9 o7 hbe
          go_wp2
          exact ⟨⟨i + 1, by omega, by go_num, HST2.out⟩, by simp [intOf]; omega⟩
        · have g1 : ((i : Int) == (m : Int) - 1) = false := by rw [beq_eq_false_iff_ne]; omega
          by_cases hw1 : b.wait.length + 1 < SZ
          · go_wp2_with fail
            refine (lg_add (HLG.out.step (below_alloc1 _ _)) (rk, rn) HRK.out (by omega) (by omega)).mono ?_
            rintro e w6 ⟨rfl, K6, h6, c6, n6⟩
            have eb : b.after (rk, rn) = b.added (rk, rn) ∧ s.after b (rk, rn) = s ∧ batAfter b bat (rk, rn) = bat := by
              unfold BSt.after SSt.after batAfter
              rw [HBS.out, if_pos hw1, if_pos hw1, if_pos hw1]; exact ⟨rfl, rfl, rfl⟩
            rw [eb.1, eb.2.1, eb.2.2] at h6
            clear eb
            obtain ⟨o6, k6⟩ := row_keep (owns_below HOWN.out (below_alloc1 wr (.cells #[.int .i64 rk, .int .u64 (rn : Int)] 56))) HVK.out c6 n6
            have H6 := Lib.hid h6; clear h6 c6 n6
            have O6 := Lib.hid (And.intro o6 k6)
            obtain ⟨be, oe, hae, hce⟩ := ends_at o6 HN.out n (Nat.le_refl _)
            rw [HN.out, List.take_length, ← HE0.out, ← HN.out] at hce
            clear o6 k6
            have hE1 : s.bs.length = E0 := by rw [HE0.out, H6.out.of.bs]
            have HE1 := Lib.hid hE1; clear hE1
            have q1 : IntKind.i64.wrap ((n : Int) + 1 - 1) = (n : Int) := by rw [IntKind.wrap_i64]; omega
            subst hae
            go_wp2_with fail
            have hq : ∀ W, Below w6.heap.size w6 W → Calls Try.prog 35 #[.pointer (some ⟨p, 0, none⟩)] W fun e w' => e = .returned (.int .i64 (E0 : Int)) ∧ w' = W := fun W hb =>
              (llen_any (H6.out.log.log.step hb)).mono (by rintro e w' ⟨rfl, rfl⟩; exact ⟨by rw [HE1.out], rfl⟩)
            have HQ := Lib.hid hq; clear hq
            go_quiet ((go_at_call 35; exact Calls.quiet_of_same (HQ.out _ (below_drewN (Below.refl _ _) _))))
            have bq := below_drewN (Below.refl w6.heap.size w6) nq
            have hst2 : St w2 (w6.drewN nq) p pb SZ m (i + 1) l (.slice (some ⟨be, oe, none⟩) (n + 1) ce) := by
              refine ⟨s, b.added (rk, rn), bat, K6, H6.out.step bq, ?_, HBS.out, ?_, fun _ => HFULL.out hlt, fun h => absurd h hlast, HFU.out, ?_, O6.out.2⟩
              · show bat.flatten ++ (b.wait ++ [(rk, rn)]) = _
                rw [← List.append_assoc, HFL.out, HTK.out]
              · simp only [BSt.added, List.length_append, List.length_singleton]; exact hw1
              · rw [← HN.out]; exact owns_below O6.out.1 bq
            have HST2 := Lib.hid hst2
            clear hst2 bq hce q1
            generalize w6.drewN nq = W7 at *
            go_wp2
            exact ⟨⟨i + 1, by omega, by go_num, HST2.out⟩, by simp [intOf]; omega⟩
          · have HLEN : Hid (i + 1 < m → (b.wait ++ [(rk, rn)]).length = SZ) := Lib.hid (fun h => by rw [List.length_append, List.length_singleton]; omega)
            go_wp2_with fail
            refine (lg_add (HLG.out.step (below_alloc1 _ _)) (rk, rn) HRK.out (by omega) (by omega)).mono ?_
            rintro e w6 ⟨rfl, K6, h6, c6, n6⟩
            have eb : b.after (rk, rn) = (b.added (rk, rn)).flushed ∧ batAfter b bat (rk, rn) = bat ++ [b.wait ++ [(rk, rn)]] := by
              unfold BSt.after batAfter
              rw [HBS.out, if_neg hw1, if_neg hw1]; exact ⟨rfl, rfl⟩
            rw [eb.2] at h6
            obtain ⟨o6, k6⟩ := row_keep (owns_below HOWN.out (below_alloc1 wr (.cells #[.int .i64 rk, .int .u64 (rn : Int)] 56))) HVK.out c6 n6
            have H6 := Lib.hid h6; clear h6 c6 n6
            have O6 := Lib.hid (And.intro o6 k6)
            obtain ⟨be, oe, hae, hce⟩ := ends_at o6 HN.out n (Nat.le_refl _)
            rw [HN.out, List.take_length, ← HE0.out, ← HN.out] at hce
            clear o6 k6
            obtain ⟨s6, hs6⟩ : ∃ s6, s6 = s.after b (rk, rn) := ⟨_, rfl⟩
            obtain ⟨b6, hb6⟩ : ∃ b6, b6 = b.after (rk, rn) := ⟨_, rfl⟩
            have hb6w : b6.wait = [] := by rw [hb6, eb.1]; exact flushed_wait _
            have hb6s : b6.size = SZ := by rw [hb6, after_size]; exact HBS.out
            rw [← hs6, ← hb6] at H6
            clear hs6 hb6 eb
            obtain ⟨E1, hE1⟩ : ∃ E1, E1 = s6.bs.length := ⟨_, rfl⟩
            have hE2 : E1 = (logL (bat ++ [b.wait ++ [(rk, rn)]])).length := by rw [hE1, H6.out.of.bs]
            have hE3 : E0 < E1 := by rw [hE2, HE0.out]; exact logL_grow _ _
            have hE4 : E1 ≤ 1000000 := by
              have := H6.out.of.room2 (by have := H6.out.few; omega); have h3 := H6.out.of.bat.len; have h4 := H6.out.of.bat.count; have h5 := H6.out.few; omega
            have HE2 := Lib.hid hE2; clear hE2
            have HE1 := Lib.hid hE1; clear hE1
            have HB6 := Lib.hid (And.intro hb6w hb6s); clear hb6w hb6s
            have q1 : IntKind.i64.wrap ((n : Int) + 1 - 1) = (n : Int) := by rw [IntKind.wrap_i64]; omega
            subst hae
            go_wp2_with fail
            have hq : ∀ W, Below w6.heap.size w6 W → Calls Try.prog 35 #[.pointer (some ⟨p, 0, none⟩)] W fun e w' => e = .returned (.int .i64 (E1 : Int)) ∧ w' = W := fun W hb =>
              (llen_any (H6.out.log.log.step hb)).mono (by rintro e w' ⟨rfl, rfl⟩; exact ⟨by rw [HE1.out], rfl⟩)
            have HQ := Lib.hid hq; clear hq
            go_quiet ((go_at_call 35; exact Calls.quiet_of_same (HQ.out _ (below_drewN (Below.refl _ _) _))))
            have bq := below_drewN (Below.refl w6.heap.size w6) nq
            have o7 := owns_below O6.out.1 bq
            have h7 := H6.out.step bq
            have k7 := O6.out.2
            have l7 := h7.log.lt
            clear hce q1
            have HBQ := Lib.hid bq; clear bq
            generalize w6.drewN nq = W7 at *
            have O7 := Lib.hid (And.intro o7 (And.intro k7 l7)); clear k7 l7
            have H7 := Lib.hid h7; clear h7
            go_wp2_with fail
            refine (HQ.out _ HBQ.out).mono ?_
            rintro e w' ⟨rfl, rfl⟩
            go_wp2_with (first
              | (at_builtin; go_loud (refine wpList_append_lies _ rfl _ _ 41 rfl w2.heap.size 3 i0 (.int .i64 0) 1 8 Try.underlying41 Hi.out Hz0.out Hz1.out Hz2.out rfl (by decide) _ _ _ rfl (o7.alloc _) ⟨w'.heap.size, 0, none⟩ 1 1 [.int .i64 (E1 : Int)] rfl rfl (one_new _ _ _ rfl) (one_one _ rfl) (by omega) (by unfold maxLen; omega) (by omega) (by have := H7.out.log.log.bel.size; simp; omega) (w'.heap.size + 1) (by simp) ?_))
              | go_in)
            intro g cp w8 hown8 hgrow8 hg8 hlt8
            have c8 : Chg [be] w' w8 := (Chg.of_below (below_alloc1 _ _)).grown hgrow8 (fun x hx => .inl (by simp [Value.ownBlock] at hx; simp [hx]))
            have hbe : be ∉ _ := O7.out.2.1 be rfl
            have h8 := Lg.chg H7.out c8 (fun x hx => by simp at hx; subst hx; exact hbe) (fun x hx => by simp at hx; subst hx; exact (o7.lt x rfl).1)
            have hg9 : ∀ y, Value.ownBlock (.slice (some ⟨g, 0, none⟩) (n + 1 + 1) cp) = some y → y ∉ K6 := fun y hy hK => by
              simp [Value.ownBlock] at hy
              subst hy
              rcases hg8 with hg8 | hg8
              · simp [Value.ownBlock] at hg8; subst hg8; exact hbe hK
              · have := O7.out.2.2 g hK; omega
            rw [HE2.out] at hown8
            rw [HN.out] at hown8 hg9
            have hst2 := St.grow (m := m) h8 (by rw [← List.append_assoc, HFL.out, HTK.out]) HB6.out.2 HB6.out.1 hSZ2.1 HLEN.out (HFULL.out hlt) hown8 hg9
            rw [← HN.out] at hst2
            have HST2 := Lib.hid hst2
            clear hst2 h8 hown8 hgrow8 hg8 hlt8 c8 hg9 o7 hbe
            go_wp2
            exact ⟨⟨i + 1, by omega, by go_num, HST2.out⟩, by simp [intOf]; omega⟩
      · obtain rfl : i = m := by omega
        clear hlt him
        have hw0 := HEND.out rfl
        have hfl := HFL.out
        rw [hw0, List.append_nil, Hm.out, List.take_length] at hfl
        have hofb := HLG.out.of
        have hbat := hofb.bat
        have hcount := hbat.count
        have hlenb := hbat.len
        have hfll : bat.flatten.length = i := by rw [hfl, Hm.out]
        obtain ⟨n, hn⟩ : ∃ n, n = bat.length := ⟨_, rfl⟩
        have hn1 : 1 ≤ n := by
          rcases Nat.eq_zero_or_pos n with h | h
          · rw [hn] at h; rw [List.length_eq_zero_iff.1 h] at hfll; simp at hfll; omega
          · exact h
        have hn2 : n ≤ 40 := by omega
        obtain ⟨ae, ce, rfl, hce1, hce2, _⟩ := NatsAt.of_own hown (by rw [endsB_len])
        rw [endsB_len, ← hn] at hce1 hown hvK ⊢
        obtain ⟨W, hW⟩ : ∃ W : Nat, (bits BinOp.and IntKind.i64 a2 65535).tmod (n : Int) = (W : Int) := ⟨((a2 % 65536).tmod (n : Int)).toNat, by rw [and_65535, Int.toNat_of_nonneg (Int.tmod_nonneg _ (by omega))]⟩
        have hW2 : W < n := by
          have := Int.tmod_lt_of_pos (bits BinOp.and IntKind.i64 a2 65535) (show (0 : Int) < (n : Int) by omega)
          omega
        have hWb : W < bat.length := by omega
        obtain ⟨T0, hT0⟩ : ∃ T0, T0 = ByteArray.mk s.bs.toArray := ⟨_, rfl⟩
        have hT0l : T0.data.toList = logL bat := by rw [hT0, hofb.bs]
        have hopen := open_log T0 bat W hWb hT0l hbat (by omega)
        obtain ⟨D, hD⟩ : ∃ D, D = bodyA bat[W] := ⟨_, rfl⟩
        have hDl : D.data.toList = bytesL bat[W] := by rw [hD]; rfl
        have hDs : 1 ≤ D.size ∧ D.size ≤ 1100 := by
          have h1 := hbat bat[W] (List.getElem_mem hWb)
          have h2 := bytesL_pos bat[W]
          have h3 := bytesL_len bat[W]
          have h4 : 0 < bat[W].length := List.length_pos_iff.2 h1.1
          rw [size_list, hDl]; omega
        obtain ⟨E0, hE0⟩ : ∃ E0, E0 = (logL (bat.take W)).length := ⟨_, rfl⟩
        obtain ⟨E1, hE1⟩ : ∃ E1, E1 = (logL (bat.take (W + 1))).length := ⟨_, rfl⟩
        obtain ⟨q0, hq0⟩ : ∃ q0, q0 = E0 + (headL W D.size).length := ⟨_, rfl⟩
        have hE01 : E1 = q0 + D.size + 4 := by
          rw [hE1, logL_take bat W hWb, List.length_append, frameL_len, hq0, headL_len, hE0, size_list, hDl]; omega
        have hE2 : E1 ≤ T0.size := by
          rw [hE1, size_list, hT0l, logL_split bat W hWb, logL_take bat W hWb]; simp only [List.length_append]; omega
        have hT0s : T0.size ≤ 60000 := by rw [size_list, hT0l]; omega
        rw [← hD, ← hE0, ← hE1] at hopen
        have hT0L := Lib.hid hT0l
        have hrs := fun B cs => read_spoilt bat W B cs hWb hbat (by omega)
        rw [← hDl, ← size_list, ← hE0, ← hq0, ← hT0l, ← size_list] at hrs
        have hr0 := read_log0 T0 bat hT0l hbat (by omega)
        obtain ⟨ft1, ft2⟩ := HFU.out.take W hWb
        rw [hfl] at ft2
        obtain ⟨KK, hKK⟩ : ∃ KK, KK = W * SZ := ⟨_, rfl⟩
        rw [← hKK] at ft1 ft2
        have hKm : KK ≤ i := by rw [← ft1, ft2, List.length_take, ← Hm.out]; omega
        have hmul : (W : Int) * (SZ : Int) = (KK : Int) := by rw [hKK]; simp
        have hmin : min (KK : Int) (i : Int) = (KK : Int) := by omega
        rw [ft2] at hrs
        rw [hfl] at hr0
        obtain ⟨be, oe, hae, hceW⟩ := ends_at hown hn W (by omega)
        obtain ⟨be', oe', hae', hceW1⟩ := ends_at hown hn (W + 1) (by omega)
        rw [← hE0] at hceW
        rw [← hE1] at hceW1
        subst hae
        simp only [Option.some.injEq, Addr.mk.injEq, and_true] at hae'
        obtain ⟨rfl, rfl⟩ := hae'
        have HOP := Lib.hid hopen; clear hopen
        have HRS := Lib.hid hrs; clear hrs
        have HR0 := Lib.hid hr0; clear hr0
        have HT0 := Lib.hid hT0; clear hT0 hT0l
        have HMUL := Lib.hid hmul; clear hmul
        have HMIN := Lib.hid hmin; clear hmin
        have hEa : E1 ≤ q0 + D.size + 4 := by omega
        have hEb : q0 + D.size + 4 ≤ E1 := by omega
        have hEc : E0 ≤ q0 := by omega
        clear hE01 hKK ft1 ft2 hq0 hE0 hE1 hD hDl hWb hn hfll hlenb hcount hbat hofb hfl hw0 hvK hown
        have BL := Lib.hid HLG.out.log.log.bel
        go_wp2_with fail
        refine (lbytes_any HLG.out.log.log).mono ?_
        rintro e w6 ⟨rfl, rfl⟩
        rw [← HT0.out]
        obtain ⟨cap, w7, hconv, hcap, hby, hbel⟩ := conv_bytes (P := Try.prog) wr 9 36 5 T0 Try.underlying9 Try.underlying36 Try.underlying5
        obtain ⟨g, hg⟩ : ∃ g, g = wr.heap.size := ⟨_, rfl⟩
        rw [← hg] at hconv hby
        have hgw : Hid (w2.heap.size ≤ g) := Lib.hid (by rw [hg]; exact BL.out.size)
        have hbg : be < g := by rw [hg]; exact World.block_lt_of_cell? wr _ hceW
        obtain ⟨cs0, hcs0⟩ : ∃ cs0, cs0 = T0.data.toList := ⟨_, rfl⟩
        have hCV : Bytes w7 g cs0 ∧ cs0.length = T0.size ∧ T0 = ⟨cs0.toArray⟩ := ⟨by rw [hcs0]; exact hby, by rw [hcs0]; simp, by rw [hcs0, mk_list]⟩
        have HCS := Lib.hid hcs0; clear hcs0
        have HCV := Lib.hid hCV; clear hCV hby hg
        have c0 := cell_below hceW hbel
        have c1 := cell_below hceW1 hbel
        have B7 := Lib.hid (below_on BL.out hbel); clear hbel hceW hceW1 BL
        have C0 := Lib.hid c0; clear c0
        have r1 : (0 : Int) ≤ (W : Int) := by omega
        have r2 : (W : Int) < (n : Int) + 1 := by omega
        go_wp2_with fail
        go_region_held3 (fun w' => (convert 36 9 (.slice (some ⟨g, 0, none⟩) T0.size cap)).run Try.prog w' = .ok (.string T0) w' ∧ w'.cell? ⟨be, oe + W, none⟩ = some (.int .i64 (E0 : Int)) ∧ Below w7.heap.size w7 w')
          (first | exact st_cc HCV C0 (Below.refl _ _) | exact st_cc HCV C0 (below_drew1 _) | exact st_cc HCV C0 (below_on (below_drew1 _) hb5))
          (first | (go_at_call 15; refine (open_any T0 (E0 : Int) _ (by omega) (by omega) (by omega)).mono ?_; rintro e w5 ⟨rfl, hb5⟩; rw [HOP.out]; simp only [openV]))
        have b8 : Below w7.heap.size w7 w5 := below_on (below_drew1 _) hb5
        have d1 := cell_below c1 b8
        have D0 := Lib.hid (cell_below C0.out b8)
        have hbit : ∀ x : Int, 0 ≤ x → x < 8 * (D.size : Int) → x = (x.toNat : Int) := fun x h _ => by omega
        have B8 := Lib.hid (below_on B7.out b8)
        have BY8 := Lib.hid (HCV.out.1.below b8)
        have hcv8 : (convert 36 9 (.slice (some ⟨g, 0, none⟩) T0.size cap)).run Try.prog w5 = .ok (.string T0) w5 := (st_cc HCV C0 b8).1
        clear hb5 b8 c1 hbit
        clear hconv
        go_upto_region 26 with fail
        go_cut [3, 24, 25, 26, 27] (fun s3 s24 s25 s26 s27 wx => ∃ B : Nat, B < 8 * D.size ∧ s3 = .int .i64 B ∧ s24 = .int .i64 (8 * (q0 : Int)) ∧ s25 = .int .i64 (8 * (D.size : Int)) ∧ s26 = .string T0 ∧ s27 = .int .i64 0 ∧ wx = w5)
        case first =>
          go_wp2_with fail
          go_meet
          obtain ⟨y1, y2⟩ := turn_in a3 (8 * (D.size : Int)) (by omega) (by omega)
          exact ⟨_, by omega, int_nat _ y1, by congr 1; omega, rfl, rfl, rfl, rfl⟩
        case rest =>
          obtain ⟨B, hB, rfl, rfl, rfl, rfl, rfl, hwx⟩ := hcut
          have hwx' := hwx.symm; clear hwx
          subst hwx'
          clear hcv8 l1 u1 l2 u2 l3 u3 hcap C0
          go_wp2_with fail
          go_loopw [27] (fun iv wr' => ∃ j : Nat, ∃ cs : List UInt8, j ≤ 32 ∧ iv = .int .i64 j ∧ Hid (cs.length = T0.size ∧ Bytes wr' g cs ∧ Chg [g] w5 wr' ∧ ∀ k, (k < 8 * q0 + B ∨ 8 * q0 + B + 32 ≤ k ∨ 8 * (q0 + D.size) ≤ k) → bitAt cs k = bitAt T0.data.toList k)) (fun iv _ => 32 - (intOf iv).toNat)
          case atStart => exact ⟨0, cs0, by omega, rfl, HCV.out.2.1, BY8.out, Chg.refl _ _, fun _ _ => by rw [HCS.out]⟩
          case round =>
            obtain ⟨j, cs, hj, rfl, hr⟩ := hrel
            by_cases hc : j < 32 ∧ B + j < 8 * D.size
            · obtain ⟨hi1, hi2⟩ := hc
              have t1 : decide ((B : Int) < 8 * (D.size : Int) - (j : Int)) = true := by rw [decide_eq_true_eq]; omega
              go_wp2_with fail
              · obtain ⟨hcl, hby, hbel, hbit⟩ := hr.out
                obtain ⟨k, hk⟩ : ∃ k : Nat, k = q0 + (B + j) / 8 := ⟨_, rfl⟩
                obtain ⟨r, hrr⟩ : ∃ r : Nat, r = (B + j) % 8 := ⟨_, rfl⟩
                have hqs : k < cs.length := by omega
                have hs1 : IntKind.i64.wrap (8 * (q0 : Int) + (B : Int)) = 8 * (q0 : Int) + (B : Int) := by rw [IntKind.wrap_i64]; omega
                have hs2 : IntKind.i64.wrap (8 * (q0 : Int) + (B : Int) + j) = 8 * (q0 : Int) + (B : Int) + j := by rw [IntKind.wrap_i64]; omega
                have hq1 : (8 * (q0 : Int) + (B : Int) + j) / 8 = (k : Int) := by omega
                have hr1 : (8 * (q0 : Int) + (B : Int) + j) % 8 = (r : Int) := by omega
                have hqi : (0 : Int) ≤ (k : Int) := by omega
                have hqj : (k : Int) < (T0.size : Int) := by omega
                have hr8 : (r : Int) < 8 := by omega
                have hc1 := hby.1 k hqs
                have hc2 := hby.2 k hqs
                obtain ⟨c, hc⟩ : ∃ c, c = cs[k] := ⟨_, rfl⟩
                rw [← hc] at hc1
                have Hc := Lib.hid hc; clear hc
                have Hby := Lib.hid hby; clear hby
                have Hbit := Lib.hid hbit; clear hbit
                have Hbel := Lib.hid hbel; clear hbel
                have Hcl := Lib.hid hcl; clear hcl
                have Hk := Lib.hid hk; clear hk
                have Hr := Lib.hid hrr; clear hrr hr
                go_region
                go_wp2
                have e8 := xor_pow_u8 c r (by omega)
                refine ⟨⟨j + 1, cs.set k (UInt8.ofNat (c.toNat ^^^ 2 ^ r)), by omega, by go_num, ?_⟩, by simp [intOf]; omega⟩
                refine ⟨by rw [List.length_set]; exact Hcl.out, ((Hby.out.set k hqs _ _ e8).below (below_drew1 _)), (Hbel.out.setCell _ (.inl (by simp))).drew, fun k' hk' => ?_⟩
                rw [← Hbit.out k' hk', Hc.out]
                refine bit_set cs k r k' hqs (by omega) ?_
                have := Hk.out
                have := Hr.out
                omega
              · exact ⟨⟨j + 1, cs, by omega, by go_num, hr⟩, by simp [intOf]; omega⟩
            · obtain ⟨hcl, hby, hbel, hbit⟩ := hr.out
              obtain ⟨T, hTe⟩ : ∃ T : ByteArray, T = ⟨cs.toArray⟩ := ⟨_, rfl⟩
              have hT1 : T.data.toList = cs := by rw [hTe]
              have hTs : T.size = T0.size := by rw [size_list, hT1, hcl]
              have hTs2 : T.size ≤ 1048576 := by omega
              have hCV2 : Bytes wr g cs ∧ cs.length = T0.size ∧ T = ⟨cs.toArray⟩ := ⟨hby, hcl, hTe⟩
              have HCV2 := Lib.hid hCV2; clear hCV2
              have hcv : ∀ W', Below wr.heap.size wr W' → (convert 36 9 (.slice (some ⟨g, 0, none⟩) T0.size cap)).run Try.prog W' = .ok (.string T) W' := fun W' hb => by
                rw [HCV2.out.2.2]; exact conv_back (HCV2.out.1.below hb) HCV2.out.2.1 _ _ 5 Try.underlying36 Try.underlying5 Try.underlying9
              have HCC := Lib.hid hcv
              have hcvr := hcv wr (Below.refl _ _)
              have hres : ∃ bb : Bool, (T.toList == T0.toList) = bb ∧ ((bb = true ∧ recsOf (readR T) = l) ∨ (bb = false ∧ recsOf (readR T) = l.take KK ∧ lastEnd (readR T) = E0 ∧ (readR T).length = W)) := by
                by_cases hE : T = T0
                · exact ⟨true, by rw [hE]; simp, .inl ⟨rfl, by rw [hE]; exact HR0.out.2.1⟩⟩
                · have hne : cs ≠ T0.data.toList := fun h => hE (bytes_ext (by rw [hT1, h]))
                  have h3 := HRS.out B cs (by rw [hcl]) (fun k hk => hbit k (by omega)) hne
                  rw [← hTe] at h3
                  exact ⟨false, by rw [beq_eq_false_iff_ne, ByteArray.toList_eq, ByteArray.toList_eq]; exact fun h => hE (bytes_ext h), .inr ⟨rfl, h3⟩⟩
              have hcase : (¬ j < 32) ∨ (j < 32 ∧ decide ((B : Int) < 8 * (D.size : Int) - (j : Int)) = false) := by
                by_cases h1 : j < 32
                · exact .inr ⟨h1, by rw [decide_eq_false_iff_not]; omega⟩
                · exact .inl h1
              clear hc hcv hTs hT1 hTe hbit hcl hby
              have CH := Lib.hid hbel; clear hbel hr
              obtain ⟨bb, hbb, hee⟩ := hres
              have hread := read_any T wr hTs2
              unfold GotRead at hread
              have HRD := Lib.hid hread; clear hread
              have hgg := hgw.out
              have BW := Lib.hid (Chg.below B8.out CH.out (fun x hx => by simp at hx; subst hx; exact hgg))
              have D0' := Lib.hid (cell_chg D0.out CH.out (by simp; omega))
              have hRl := R2.out.below BW.out
              have RL := Lib.hid hRl; clear hRl
              rcases hee with ⟨rfl, he1⟩ | ⟨rfl, he1, he2, he3⟩
              · have HE1 := Lib.hid he1; clear he1
                rcases hcase with h1 | ⟨h1, t1⟩
                all_goals
                  go_wp2_with fail
                  refine HRD.out.mono ?_
                  rw [HE1.out]
                  rintro e w9 ⟨a9, cap9, rfl, k1, k2, k3, k4, k5⟩
                  rw [← Hm.out] at k1 ⊢
                  generalize lastEnd (readR T) = z9
                  generalize (readR T).length = z8
                  have hcv9 := HCC.out w9 k4
                  have B9 := Lib.hid (below_on BW.out k4); clear k3 k4 k5
                  go_wp2
                  go_ret
                  exact ⟨rfl, below_on B2.out B9.out⟩
              · have hlk : (l.take KK).length = KK := by rw [List.length_take, ← Hm.out]; omega
                have HLK := Lib.hid hlk; clear hlk
                have HE1 := Lib.hid he1; clear he1
                have HE2 := Lib.hid he2; clear he2
                have HE3 := Lib.hid he3; clear he3
                rcases hcase with h1 | ⟨h1, t1⟩
                all_goals
                  go_wp2_with fail
                  refine HRD.out.mono ?_
                  rw [HE1.out, HE2.out, HE3.out]
                  rintro e w9 ⟨a9, cap9, rfl, k1, k2, k3, k4, k5⟩
                  rw [HLK.out] at k1 ⊢
                  have hcv9 := HCC.out w9 k4
                  have d9 := cell_below D0'.out k4
                  have B9 := Lib.hid (below_on BW.out k4)
                  have R9 := Lib.hid (RL.out.below k4)
                  have K3 := Lib.hid k3; clear k3 k4 k5
                  have hmul := HMUL.out
                  have hmin := HMIN.out
                  have hsl := fun w => slice_head (P := Try.prog) (t := 48) w Try.underlying48 size_rec a i ca KK (by omega)
                  go_wp2_with fail
                  have ht := told_any a ca (l.take KK) w9 (by rw [HLK.out]; omega) (R9.out.take KK)
                  unfold GotRecs at ht
                  rw [HLK.out] at ht
                  refine ht.mono ?_
                  rintro e w10 ⟨tc, tcc, rfl, n1, n2, n3, n4⟩
                  have ha := are_eq a9 tc cap9 tcc (l.take KK) w10 (by rw [HLK.out]; omega) (K3.out.below n4) n3
                  rw [HLK.out] at ha
                  have B10 := Lib.hid (below_on B9.out n4); clear n2 n3 n4 ht
                  go_wp2_with fail
                  refine ha.mono ?_
                  rintro e w11 ⟨rfl, n5⟩
                  have B11 := Lib.hid (below_on B10.out n5); clear n5 ha
                  go_wp2
                  go_ret
                  exact ⟨rfl, below_on B2.out B11.out⟩
end Go.Proofs.Ytklpnkfhcaepiaa.shunterTorn
