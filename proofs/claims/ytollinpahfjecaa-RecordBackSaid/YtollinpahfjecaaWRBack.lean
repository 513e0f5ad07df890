/-
  The walk of the law RecordBack.
-/
import Derived.Test.YtollinpahfjecaaWRecs3
import Derived.Test.YtollinpahfjecaaWSome
import Derived.Test.YtollinpahfjecaaRecsIn
open Go Go.RowKit
set_option linter.unusedVariables false
namespace Go.Proofs.Ytollinpahfjecaa.recordBack
/-- What stays while the last statement goes on. -/
def Rest (w0 : World) (a b : Option Addr) (l : List Rec) (w : World) : Prop := RecsAt w a l ∧ RecsAt w b l ∧ Below w0.heap.size w0 w
theorem Rest.step {w0 w w' : World} {a b : Option Addr} {l : List Rec} (h : Rest w0 a b l w) (hb : Below w.heap.size w w') : Rest w0 a b l w' := ⟨h.1.below hb, h.2.1.below hb, below_on h.2.2 hb⟩
theorem cell_step {w w' : World} {b o : Nat} {v : Value} (h : w.cell? ⟨b, o, none⟩ = some v) (hb : Below w.heap.size w w') : w'.cell? ⟨b, o, none⟩ = some v := by
  rw [hb.cell (p := ⟨b, o, none⟩) (World.block_lt_of_cell? w _ h)]; exact h
theorem keep {P : World → Prop} {w0 w w' : World} {a b : Option Addr} {l : List Rec} {B : Nat} {u v : Value} (h : w.cell? ⟨B, 0, none⟩ = some u ∧ w.cell? ⟨B, 1, none⟩ = some v ∧ Rest w0 a b l w) (hb : Below w.heap.size w w') :
    w'.cell? ⟨B, 0, none⟩ = some u ∧ w'.cell? ⟨B, 1, none⟩ = some v ∧ Rest w0 a b l w' := ⟨cell_step h.1 hb, cell_step h.2.1 hb, h.2.2.step hb⟩
theorem allR_back (l : List Rec) (hok : ∀ r ∈ l, Rec.ok r) : allR ⟨(bytesL l).toArray⟩ = (l, (bytesL l).length) := by
  have hsz : (ByteArray.mk (bytesL l).toArray).size = (bytesL l).length := by simp [ByteArray.size]
  have hge : l.length ≤ (bytesL l).length := by
    clear hok hsz
    induction l with
    | nil => simp
    | cons r l ih => simp only [bytesL, List.flatMap_cons, List.length_append, List.length_cons] at *; have := putL_pos r.num; omega
  have := allF_back l ((ByteArray.mk (bytesL l).toArray).size + 1) ⟨(bytesL l).toArray⟩ 0 hok (by unfold from_; simp) (by rw [hsz]; omega) (Nat.zero_le _)
  rw [hsz] at this
  unfold allR; rw [hsz]; exact this

set_option maxRecDepth 100000 in
set_option maxHeartbeats 1000000 in
theorem walk (a0 : Option Addr) (len0 cap0 : Nat) (l0 : List Rec) (x1 y1 : Int) (w : World) (w0 : IsRecs w a0 len0 cap0 l0) (wx1 : (Lit.int .i64 x1).wf = true) (wy1 : (Lit.int .u64 y1).wf = true) :
    Calls Try.prog 7 #[.slice a0 len0 cap0, .agg #[.int .i64 x1, .int .u64 y1]] w fun e w' => e = .returned (.bool true) ∧ Below w.heap.size w w' := by
  obtain ⟨rfl, hlc, hcm, hat, hub⟩ := w0
  clear wx1 wy1
  have hlm : l0.length ≤ maxLen := Nat.le_trans hlc hcm
  have hok := someL_ok l0
  have hl40 := someL_len l0
  have hall := allR_back (someL l0) hok
  have hsl := bytesL_len (someL l0)
  have Hok := Lib.hid hok; clear hok
  have Hall := Lib.hid hall; clear hall
  have Hat := Lib.hid hat; clear hat
  have Hub := Lib.hid hub; clear hub
  have Hlm := Lib.hid hlm; clear hlm hcm
  obtain ⟨m0, hm0⟩ : ∃ m, m = l0.length := ⟨_, rfl⟩
  rw [← hm0] at hlc ⊢
  have Hm0 := Lib.hid hm0; clear hm0
  go_enter Try.func7, Try.ntmps7
  go_wp2_with fail
  refine (awake2_any _).mono ?_
  rintro e w1 ⟨rfl, hb1⟩
  have hbx := (Below.refl w.heap.size w).alloc (Nat.le_refl _) (.cells #[.int .i64 x1, .int .u64 y1] 41)
  have c0 : w1.cell? ⟨w.heap.size, 0, none⟩ = some (.int .i64 x1) := cell_step (by rw [World.cell?_alloc_mark]; rfl) hb1
  have c1 : w1.cell? ⟨w.heap.size, 1, none⟩ = some (.int .u64 y1) := cell_step (by rw [World.cell?_alloc_mark]; rfl) hb1
  have b1 := below_on hbx hb1
  have Hat1 := Lib.hid (Hat.out.below b1)
  have B1 := Lib.hid b1; clear b1 hb1 hbx Hat
  go_wp2_with fail
  rw [Hm0.out]
  refine (some_any a0 cap0 l0 _ Hlm.out Hat1.out Hub.out).mono ?_
  rintro e w2 ⟨a, ca, rfl, hc1, hc2, hc3, hb2⟩
  generalize someL l0 = l at hc1 hc3 hl40 hsl Hok Hall
  have c0 := cell_step c0 hb2
  have c1 := cell_step c1 hb2
  have B2 := Lib.hid (below_on B1.out hb2)
  have R2 := Lib.hid hc3; clear hc3 hb2 B1 Hat1 hc2
  obtain ⟨m, hm⟩ : ∃ m, m = l.length := ⟨_, rfl⟩
  rw [← hm] at hc1 hl40 hsl ⊢
  have Hm := Lib.hid hm; clear hm
  go_wp2_with fail
  rw [Hm.out]
  refine (bytes_any a ca l _ (by have := Hm.out; omega) Hok.out R2.out).mono ?_
  rintro e w3 ⟨rfl, hb3⟩
  rw [← Hm.out]
  have c0 := cell_step c0 hb3
  have c1 := cell_step c1 hb3
  have B3 := Lib.hid (below_on B2.out hb3)
  have R3 := Lib.hid (R2.out.below hb3); clear hb3 B2 R2
  have hsz : (ByteArray.mk (bytesL l).toArray).size = (bytesL l).length := by simp [ByteArray.size]
  have Hsz := Lib.hid hsz; clear hsz
  go_wp2_with fail
  refine (all_any _ _ (by rw [Hsz.out]; omega)).mono ?_
  rw [Hall.out]
  rintro e w4 ⟨b, cb, rfl, hd1, hd2, hd3, hb4⟩
  simp only at hd1 hd3 ⊢
  rw [← Hm.out] at hd1 ⊢
  have c0 := cell_step c0 hb4
  have c1 := cell_step c1 hb4
  have B4 := Lib.hid (below_on B3.out hb4)
  have R4 := Lib.hid (R3.out.below hb4)
  have S4 := Lib.hid hd3; clear hb4 B3 R3 hd3 hd2
  go_wp2_with fail
  have hstart : w4.cell? ⟨w.heap.size, 0, none⟩ = some (.int .i64 x1) ∧ w4.cell? ⟨w.heap.size, 1, none⟩ = some (.int .u64 y1) ∧ Rest w4 a b l w4 := ⟨c0, c1, R4.out, S4.out, Below.refl _ _⟩
  have hstart2 := keep (P := fun _ => True) hstart ((Below.refl _ _).drew)
  have HS1 := Lib.hid hstart; clear hstart
  have HS2 := Lib.hid hstart2; clear hstart2
  clear c0 c1
  go_region_held3 (fun w' => w'.cell? ⟨w.heap.size, 0, none⟩ = some (.int .i64 x1) ∧ w'.cell? ⟨w.heap.size, 1, none⟩ = some (.int .u64 y1) ∧ Rest w4 a b l w')
    (first | exact HS1.out | exact HS2.out | exact keep (P := fun _ => True) (by assumption) hb5 | exact keep (P := fun _ => True) (by assumption) hb6 | exact keep (P := fun _ => True) (by assumption) hb7 | exact keep (P := fun _ => True) (by assumption) hb8 | exact keep (P := fun _ => True) (by assumption) hb9)
    (first
      | (go_at_call 25; rw [Hm.out]; refine (told_any a ca l _ (by have := Hm.out; omega) (by assumption : _ ∧ _ ∧ Rest w4 a b l _).2.2.1).mono ?_; rw [← Hm.out]; rintro e w5 ⟨c, cc, rfl, he1, he2, he3, hb5⟩)
      | (go_at_call 24; rw [Hm.out]; refine (rbytes_any _ _ l _ (by have := Hm.out; omega) Hok.out he3).mono ?_; rw [← Hm.out]; rintro e w6 ⟨rfl, hb6⟩)
      | (go_at_call 26; rw [Hm.out]; refine (are_eq b _ cb _ l _ (by have := Hm.out; omega) (by assumption : _ ∧ _ ∧ Rest w4 a b l _).2.2.2.1 he3).mono ?_; rw [← Hm.out]; rintro e w7 ⟨rfl, hb7⟩)
      | (go_at_call 27; refine (check_any x1 y1 _).mono ?_; rintro e w8 ⟨rfl, hb8⟩)
      | (go_at_call 28; refine (rcheck_any x1 y1 _).mono ?_; rintro e w9 ⟨rfl, hb9⟩))
  all_goals
    go_wp2
    go_ret
    exact ⟨rfl, below_on B4.out (by assumption : _ ∧ _ ∧ Rest w4 a b l _).2.2.2.2⟩
end Go.Proofs.Ytollinpahfjecaa.recordBack
