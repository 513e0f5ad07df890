/-
  The walk of the law RecordCuts.
-/
import Derived.Test.YtollinpahfjecaaWRecs3
import Derived.Test.YtollinpahfjecaaWSome
import Derived.Test.YtollinpahfjecaaRecsIn
open Go Go.RowKit
set_option linter.unusedVariables false
namespace Go.Proofs.Ytollinpahfjecaa.recordCuts
/-- What stays while the loop goes on. -/
def Rest (w0 : World) (a b : Option Addr) (l q : List Rec) (w : World) : Prop := RecsAt w a l ∧ RecsAt w b q ∧ Below w0.heap.size w0 w
theorem Rest.step {w0 w w' : World} {a b : Option Addr} {l q : List Rec} (h : Rest w0 a b l q w) (hb : Below w.heap.size w w') : Rest w0 a b l q w' := ⟨h.1.below hb, h.2.1.below hb, below_on h.2.2 hb⟩
theorem and_65535 (k : Int) : bits BinOp.and IntKind.i64 k 65535 = k % 65536 := by
  show IntKind.i64.wrap (((BitVec.ofInt 64 k) &&& (BitVec.ofInt 64 65535)).toNat : Int) = k % 65536
  have e : (BitVec.ofInt 64 65535).toNat = 65535 := by decide
  rw [BitVec.toNat_and, e, nat_mask16, IntKind.wrap_i64, BitVec.toNat_ofInt]; omega
theorem extract_head (l : List UInt8) (c : Nat) : (ByteArray.mk l.toArray).extract 0 c = ⟨(l.take c).toArray⟩ := by
  apply ByteArray.ext
  simp [ByteArray.data_extract, List.extract_eq_take_drop]
theorem sizeOf_rec (w : World) : (sizeOf (Try.prog.elem 42)).run Try.prog w = .ok 2 w := by first | rfl | kernel_rfl | exact Try.sizeOf50 w

set_option maxRecDepth 100000 in
set_option maxHeartbeats 1000000 in
theorem walk (a0 : Option Addr) (len0 cap0 : Nat) (l0 : List Rec) (a1 : Int) (w : World) (w0 : IsRecs w a0 len0 cap0 l0) (wx1 : (Lit.int .i64 a1).wf = true) :
    Calls Try.prog 9 #[.slice a0 len0 cap0, .int .i64 a1] w fun e w' => e = .returned (.bool true) ∧ Below w.heap.size w w' := by
  obtain ⟨rfl, hlc, hcm, hat, hub⟩ := w0
  clear wx1
  have hlm : l0.length ≤ maxLen := Nat.le_trans hlc hcm
  have hok := someL_ok l0
  have hl40 := someL_len l0
  have hsl := bytesL_len (someL l0)
  have Hok := Lib.hid hok; clear hok
  have Hub := Lib.hid hub; clear hub
  have Hlm := Lib.hid hlm; clear hlm hcm
  have Hat := Lib.hid hat; clear hat
  obtain ⟨m0, hm0⟩ : ∃ m, m = l0.length := ⟨_, rfl⟩
  rw [← hm0] at hlc ⊢
  have Hm0 := Lib.hid hm0; clear hm0
  go_enter Try.func9, Try.ntmps9
  go_wp2_with fail
  refine (awake2_any _).mono ?_
  rintro e w1 ⟨rfl, hb1⟩
  have Hat1 := Lib.hid (Hat.out.below hb1)
  have B1 := Lib.hid hb1; clear hb1 Hat
  go_wp2_with fail
  rw [Hm0.out]
  refine (some_any a0 cap0 l0 _ Hlm.out Hat1.out Hub.out).mono ?_
  rintro e w2 ⟨a, ca, rfl, hc1, hc2, hc3, hb2⟩
  generalize someL l0 = l at hc1 hc3 hl40 hsl Hok
  have B2 := Lib.hid (below_on B1.out hb2)
  have R2 := Lib.hid hc3; clear hc3 hb2 B1 Hat1 hc2
  obtain ⟨m, hm⟩ : ∃ m, m = l.length := ⟨_, rfl⟩
  rw [← hm] at hc1 hl40 hsl ⊢
  have Hm := Lib.hid hm; clear hm
  go_wp2_with fail
  rw [Hm.out]
  refine (bytes_any a ca l _ (by have := Hm.out; omega) Hok.out R2.out).mono ?_
  rintro e w3 ⟨rfl, hb3⟩
  rw [← Hm.out]
  have B3 := Lib.hid (below_on B2.out hb3)
  have R3 := Lib.hid (R2.out.below hb3); clear hb3 B2 R2
  obtain ⟨z, hz⟩ : ∃ z : Nat, bits BinOp.and IntKind.i64 a1 65535 = (z : Int) := ⟨(a1 % 65536).toNat, by rw [and_65535]; omega⟩
  have hz2 : z ≤ 65535 := by rw [and_65535] at hz; omega
  obtain ⟨c, hc⟩ : ∃ c : Nat, c = z % ((bytesL l).length + 1) := ⟨_, rfl⟩
  have hcz : ((z : Int) % ((bytesL l).length + 1)) = (c : Int) := by rw [hc]; simp
  have hcz2 : ((z : Int).tmod ((bytesL l).length + 1)) = (c : Int) := by rw [Int.tmod_eq_emod_of_nonneg (by omega)]; exact hcz
  have hcl : c ≤ (bytesL l).length := by have := Nat.mod_lt z (show (bytesL l).length + 1 > 0 by omega); omega
  clear hc
  have hsz : (ByteArray.mk (bytesL l).toArray).size = (bytesL l).length := by simp [ByteArray.size]
  have Hsz := Lib.hid hsz; clear hsz
  have hcut : ∀ w, (Instr.slice 9 (.string ⟨(bytesL l).toArray⟩) none (some (.int .i64 (c : Int))) none).run Try.prog w = .ok (.string ⟨((bytesL l).take c).toArray⟩) w := fun w => by
    rw [run_slice_string_h (P := Try.prog) (w := w) (t := 9) (s := ⟨(bytesL l).toArray⟩) (ht := Try.underlying9) (kh := .i64) (h := (c : Int)) (h0 := by omega) (h2 := by rw [Hsz.out]; omega), Int.toNat_natCast, extract_head]
  go_wp2_with fail
  refine (all_any _ _ (by simp [ByteArray.size]; omega)).mono ?_
  have hgr : ∀ k, k ≤ l.length → (bytesL (l.take k)).length ≤ c → (k = l.length ∨ c < (bytesL (l.take (k + 1))).length) → allR ⟨((bytesL l).take c).toArray⟩ = (l.take k, (bytesL (l.take k)).length) := fun k h1 h2 h3 => by
    have hge : ∀ q : List Rec, q.length ≤ (bytesL q).length := fun q => by
      induction q with
      | nil => simp
      | cons r q ih => simp only [bytesL, List.flatMap_cons, List.length_append, List.length_cons] at *; have := putL_pos r.num; omega
    unfold allR
    have hsz2 : (ByteArray.mk ((bytesL l).take c).toArray).size = c := by simp [ByteArray.size]; omega
    have hk := hge (l.take k)
    have hk2 : (l.take k).length = k := by simp; omega
    have := allF_cut l ((ByteArray.mk ((bytesL l).take c).toArray).size + 1) ⟨((bytesL l).take c).toArray⟩ 0 c k Hok.out (by unfold from_; simp) (Nat.zero_le _) (by rw [hsz2]; omega) h1 h2 h3
    rw [Nat.zero_add] at this; exact this
  obtain ⟨g, E, hgE⟩ : ∃ g E, allR ⟨((bytesL l).take c).toArray⟩ = (g, E) := ⟨_, _, rfl⟩
  rw [hgE] at hgr ⊢
  rintro e w4 ⟨b, cb, rfl, hd1, hd2, hd3, hb4⟩
  simp only at hd1 hd3 ⊢
  have rest4 : Rest w4 a b l g w4 := ⟨R3.out.below hb4, hd3, Below.refl _ _⟩
  have Rest4 := Lib.hid rest4; clear rest4
  have B4 := Lib.hid (below_on B3.out hb4)
  clear hb4 hd3 B3 R3 hgE hd2 hcut
  have Hgr := Lib.hid hgr; clear hgr
  obtain ⟨q, hq⟩ : ∃ q, q = g.length := ⟨_, rfl⟩
  rw [← hq] at hd1 ⊢
  have Hq := Lib.hid hq; clear hq
  go_wp2_with fail
  go_loopw [9, 10] (fun n x wr => ∃ k p : Nat, k ≤ m ∧ p ≤ c ∧ n = .int .i64 k ∧ x = .int .i64 p ∧ Hid (p = (bytesL (l.take k)).length) ∧ Hid (Rest w4 a b l g wr)) (fun n _ _ => m - (intOf n).toNat)
  case atStart => exact ⟨0, 0, by omega, by omega, rfl, rfl, rfl, Rest4⟩
  case round =>
    obtain ⟨k, p, hk, hp, rfl, rfl, hpe, hr⟩ := hrel
    by_cases hlt : k < m
    · obtain ⟨b1, o1, rfl, h0, h1⟩ := hr.out.1 k (by have := Hm.out; omega)
      have hrok := Hok.out _ (List.getElem_mem (by have := Hm.out; omega : k < l.length))
      have hsn := congrArg List.length (bytesL_snoc l k (by have := Hm.out; omega))
      rw [List.length_append, ← hpe.out] at hsn
      generalize l[k]'(by have := Hm.out; omega) = r at h0 h1 hrok hsn
      obtain ⟨rk, rn⟩ := r
      simp only at h0 h1
      have hpl := putL_len (Rec.num (rk, rn))
      have Hrok := Lib.hid hrok; clear hrok
      have hsz3 : (ByteArray.mk (putL (Rec.num (rk, rn))).toArray).size = (putL (Rec.num (rk, rn))).length := by simp [ByteArray.size]
      have Hsn := Lib.hid hsn; clear hsn
      have Hsz3 := Lib.hid hsz3; clear hsz3
      by_cases hle : p + (putL (Rec.num (rk, rn))).length ≤ c
      · go_wp2_with fail
        refine (bytes1_any rk rn _ Hrok.out).mono ?_
        rintro e w5 ⟨rfl, hb5⟩
        have h0' : w5.cell? ⟨b1, o1 + k * 2, none⟩ = some (.int .i64 rk) := by rw [hb5.cell (p := ⟨b1, o1 + k * 2, none⟩) (World.block_lt_of_cell? wr _ h0)]; exact h0
        have h1' : w5.cell? ⟨b1, o1 + k * 2 + 1, none⟩ = some (.int .u64 (rn : Int)) := by rw [hb5.cell (p := ⟨b1, o1 + k * 2 + 1, none⟩) (World.block_lt_of_cell? wr _ h1)]; exact h1
        have R5 := Lib.hid (hr.out.step hb5); clear hb5 h0 h1
        go_wp2_with fail
        refine (bytes1_any rk rn _ Hrok.out).mono ?_
        rintro e w6 ⟨rfl, hb6⟩
        have R6 := Lib.hid (R5.out.step hb6); clear hb6 h0' h1'
        go_wp2
        exact ⟨⟨k + 1, p + (putL (Rec.num (rk, rn))).length, by omega, by omega, by go_num, by go_num, Lib.hid Hsn.out.symm, R6⟩, by simp [intOf]; omega⟩
      · go_wp2_with fail
        refine (bytes1_any rk rn _ Hrok.out).mono ?_
        rintro e w5 ⟨rfl, hb5⟩
        have R5 := Lib.hid (hr.out.step hb5); clear hb5 h0 h1
        have hfin := Hgr.out k (by have := Hm.out; omega) (by rw [← hpe.out]; exact hp) (.inr (by rw [Hsn.out]; omega))
        rw [Prod.mk.injEq] at hfin
        obtain ⟨rfl, rfl⟩ := hfin
        have hkl : (l.take k).length = k := by have := Hm.out; simp; omega
        have hqk := Hq.out
        rw [hkl] at hqk
        subst hqk
        have ht := fun W => told_any (some ⟨b1, o1, none⟩) ca (l.take q) W (by rw [hkl]; omega) 
        have ha := fun W cc dd => are_eq b cc cb dd (l.take q) W (by rw [hkl]; omega)
        rw [hkl] at ht ha
        have Ht := Lib.hid ht; clear ht
        have Ha := Lib.hid ha; clear ha
        have Hkl := Lib.hid hkl; clear hkl
        have hslh := fun w => slice_head (P := Try.prog) (t := 42) w Try.underlying42 sizeOf_rec (some ⟨b1, o1, none⟩) m ca q (by omega)
        go_wp2_with fail
        refine (Ht.out _ (R5.out.1.take q)).mono ?_
        rintro e w6 ⟨c1, cc, rfl, he1, he2, he3, hb6⟩
        rw [Hkl.out] at he1 ⊢
        have R6 := Lib.hid (R5.out.step hb6); clear hb6
        go_wp2_with fail
        refine (Ha.out _ c1 cc R6.out.2.1 he3).mono ?_
        rintro e w7 ⟨rfl, hb7⟩
        have hpeo := hpe.out
        go_wp2
        go_ret
        exact ⟨rfl, below_on (below_on B4.out R6.out.2.2) hb7⟩
    · have hkm : k = m := by omega
      have hfin := Hgr.out k (by have := Hm.out; omega) (by rw [← hpe.out]; exact hp) (.inl (by have := Hm.out; omega))
      clear hkm
      rw [Prod.mk.injEq] at hfin
      obtain ⟨rfl, rfl⟩ := hfin
      have hkl : (l.take k).length = k := by have := Hm.out; simp; omega
      have hqk := Hq.out
      rw [hkl] at hqk
      subst hqk
      have ht := fun W => told_any a ca (l.take q) W (by rw [hkl]; omega) 
      have ha := fun W cc dd => are_eq b cc cb dd (l.take q) W (by rw [hkl]; omega)
      rw [hkl] at ht ha
      have Ht := Lib.hid ht; clear ht
      have Ha := Lib.hid ha; clear ha
      have Hkl := Lib.hid hkl; clear hkl
      have hslh := fun w => slice_head (P := Try.prog) (t := 42) w Try.underlying42 sizeOf_rec a m ca q (by omega)
      go_wp2_with fail
      refine (Ht.out _ (hr.out.1.take q)).mono ?_
      rintro e w6 ⟨c1, cc, rfl, he1, he2, he3, hb6⟩
      rw [Hkl.out] at he1 ⊢
      have R6 := Lib.hid (hr.out.step hb6); clear hb6
      go_wp2_with fail
      refine (Ha.out _ c1 cc R6.out.2.1 he3).mono ?_
      rintro e w7 ⟨rfl, hb7⟩
      have hpeo := hpe.out
      go_wp2
      go_ret
      exact ⟨rfl, below_on (below_on B4.out R6.out.2.2) hb7⟩
end Go.Proofs.Ytollinpahfjecaa.recordCuts
