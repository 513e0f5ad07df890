/-
  The walks of crc's own calls.
-/
import Derived.Test.YtigjaopafhjhaaaWCrc1
open Go Go.RowKit
set_option linter.unusedVariables false
namespace Go.Proofs.Ytigjaopafhjhaaa
/-- All their bytes. -/
def catL (l : List ByteArray) : List UInt8 := l.flatMap (·.data.toList)
theorem catL_snoc (l : List ByteArray) (k : Nat) (h : k < l.length) : catL (l.take (k + 1)) = catL (l.take k) ++ l[k].data.toList := by
  unfold catL; rw [List.take_succ_eq_append_getElem h, List.flatMap_append]; simp
/-- The state behind more bytes. -/
def crcA (x : Nat) (l : List UInt8) : Nat := 4294967295 - crcF l (4294967295 - x)
theorem crcA_app (x : Nat) (l m : List UInt8) : crcA (crcA x l) m = crcA x (l ++ m) := by
  unfold crcA
  have := crcF_lt l (4294967295 - x) (by omega)
  rw [crcF_app, show 4294967295 - (4294967295 - crcF l (4294967295 - x)) = crcF l (4294967295 - x) by omega]
theorem crcA_zero (l : List UInt8) : crcA 0 l = crcSum l := rfl
theorem crcA_lt (x : Nat) (l : List UInt8) : crcA x l < 4294967296 := by unfold crcA; omega

theorem xor_u8 (a b : Nat) (ha : a < 256) (hb : b < 256) : bits BinOp.xor IntKind.u8 (a : Int) (b : Int) = ((a ^^^ b : Nat) : Int) := by
  show IntKind.u8.wrap ((BitVec.ofInt 8 (a : Int) ^^^ BitVec.ofInt 8 (b : Int)).toNat : Int) = _
  have e : ∀ n : Nat, BitVec.ofInt 8 (n : Int) = BitVec.ofNat 8 n := fun n => by apply BitVec.eq_of_toNat_eq; rw [BitVec.toNat_ofInt, BitVec.toNat_ofNat]; omega
  rw [e, e, BitVec.toNat_xor, BitVec.toNat_ofNat, BitVec.toNat_ofNat, Nat.mod_eq_of_lt (by omega), Nat.mod_eq_of_lt (by omega), IntKind.wrap_u8]
  have := Nat.xor_lt_two_pow (n := 8) (by omega : a < _) (by omega : b < _)
  omega
theorem not_u32 (x : Nat) (h : x < 4294967296) : bits BinOp.xor IntKind.u32 IntKind.u32.max (x : Int) = ((4294967295 - x : Nat) : Int) := by
  have e : IntKind.u32.max = ((4294967295 : Nat) : Int) := by decide
  rw [e, xor_u32 _ _ (by omega) h, Nat.xor_comm]
  congr 1
  have h2 : (BitVec.ofNat 32 x ^^^ BitVec.allOnes 32).toNat = (~~~ (BitVec.ofNat 32 x)).toNat := by rw [BitVec.xor_allOnes]
  rw [BitVec.toNat_xor, BitVec.toNat_not, BitVec.toNat_ofNat, BitVec.toNat_allOnes, Nat.mod_eq_of_lt (by simpa using h)] at h2
  simpa using h2
theorem tabL_len (k : Nat) : (tabL k).length = k := by unfold tabL; rw [List.length_map, List.length_range]
theorem tabL_at (k i : Nat) (h : i < k) : (tabL k)[i]? = some (.int .u32 (crcK 8 i : Int)) := by
  unfold tabL; rw [List.getElem?_map, List.getElem?_range h]; rfl

set_option maxRecDepth 100000 in
set_option maxHeartbeats 1000000 in
theorem addAll_any (x cap : Nat) (a : Option Addr) (l : List ByteArray) (w : World) (hx : x < 4294967296) (hl : l.length ≤ 1000) (ha : StrsAt w a l) (hs : ∀ s ∈ l, s.size ≤ maxLen) :
    Calls Try.prog 16 #[.agg #[.int .u32 x], .slice a l.length cap] w fun e w' => e = .returned (.agg #[.int .u32 (crcA x (catL l) : Int)]) ∧ Below w.heap.size w w' := by
  have hz := tab_zero
  have Ha := Lib.hid ha; clear ha
  have Hs := Lib.hid hs; clear hs
  obtain ⟨m, hm⟩ : ∃ m, m = l.length := ⟨_, rfl⟩
  rw [← hm] at hl ⊢
  have Hm := Lib.hid hm; clear hm
  go_enter Try.func16, Try.ntmps16
  go_wp2_with fail
  refine (table_any _).mono ?_
  rintro e w1 ⟨rfl, hb⟩
  obtain ⟨T, hT⟩ : ∃ T, T = tabL 256 := ⟨_, rfl⟩
  obtain ⟨T0, hT0⟩ : ∃ T0, T0 = tab0 := ⟨_, rfl⟩
  rw [← hT]
  rw [← hT0] at hz
  have hsz := hb.size
  simp at hsz
  have c0 : w1.cell? ⟨w.heap.size, 0, none⟩ = some (.int .u32 x) := by rw [hb.cell (p := ⟨w.heap.size, 0, none⟩) (by simp; omega)]; simp
  have c1 : Blk w1 (w.heap.size + 1) [.int .u32 0] := (Blk.mk _ [.int .u32 0] _ _ (by simp)).below hb
  have HA1 : Hid (StrsAt w1 a l) := Lib.hid (((Ha.out.below ((Below.refl _ _).alloc (Nat.le_refl _) _)).below ((Below.refl _ _).alloc (Nat.le_refl _) _)).below hb)
  have HB1 : Hid (Below w.heap.size w w1) := Lib.hid (((((Below.refl _ _).alloc (Nat.le_refl _) _).alloc (by simp) _)).trans (hb.mono (by simp; omega)))
  have C1 := Lib.hid c1
  have hl0 : T0.length = 256 := by rw [hT0]; exact tab0_len
  have ht : (w1.alloc (.cells T0.toArray 51)).there w1.heap.size 0 256 := (Blk.mk w1 T0 51 _ rfl).there 256 (by rw [hl0]; omega)
  have ht' : ∀ j, j < 256 → ((w1.alloc (.cells T0.toArray 51)).cell? ⟨w1.heap.size, j, none⟩).isSome = true ∧ (w1.alloc (.cells T0.toArray 51)).frozen? ⟨w1.heap.size, j, none⟩ = false := fun j hj => by have := ht j hj; rw [Nat.zero_add] at this; exact this
  have hlen : T.length = 256 := by rw [hT]; exact tabL_len 256
  have hst : Sem.run Try.prog (storeCells ⟨w1.heap.size, 0, none⟩ T) (w1.alloc (.cells T0.toArray 51)) = .ok () ((w1.alloc (.cells T0.toArray 51)).setCells w1.heap.size 0 T) := by
    have := run_storeCells_cells (P := Try.prog) w1.heap.size 0 T 0 (w1.alloc (.cells T0.toArray 51)) (fun j hj => by simp only [Nat.zero_add] at *; exact (ht' j (by omega)).1) (fun j hj => by simp only [Nat.zero_add] at *; exact (ht' j (by omega)).2) (fun v hv => by rw [hT] at hv; unfold tabL at hv; simp only [List.mem_map] at hv; obtain ⟨i, _, rfl⟩ := hv; rfl)
    exact this
  have hTT : Blk ((w1.alloc (.cells T0.toArray 51)).setCells w1.heap.size 0 T) w1.heap.size T := (Blk.mk w1 T0 51 _ rfl).setCells (by omega)
  have hbx : ((w1.alloc (.cells T0.toArray 51)).setCells w1.heap.size 0 T).cell? ⟨w.heap.size, 0, none⟩ = some (.int .u32 x) := by
    rw [World.cell?_setCells_out _ _ _ _ _ (fun hb _ => absurd hb (by simp; omega)), World.cell?_alloc_past _ _ _ (by omega)]; exact c0
  have hb2 : Below w1.heap.size w1 ((w1.alloc (.cells T0.toArray 51)).setCells w1.heap.size 0 T) := below_setCells ((Below.refl _ _).alloc (Nat.le_refl _) _) _ (Nat.le_refl _) _ _
  obtain ⟨w2, hw2⟩ : ∃ w2, w2 = (w1.alloc (.cells T0.toArray 51)).setCells w1.heap.size 0 T := ⟨_, rfl⟩
  rw [← hw2] at hst hTT hbx hb2
  have HC2 := Lib.hid (C1.out.below hb2)
  have HA2 := Lib.hid (HA1.out.below hb2)
  have HB2 := Lib.hid (below_on HB1.out hb2)
  have HTT := Lib.hid hTT
  have HT := Lib.hid hT; clear hT
  clear hb c1 hT0 ht ht' hTT hb2 hw2 C1 HA1 HB1
  have hsg : IntKind.u32.signed = false := rfl
  have hnx := not_u32 x hx
  obtain ⟨y0, hy0⟩ : ∃ y0, y0 = 4294967295 - x := ⟨_, rfl⟩
  rw [← hy0] at hnx
  have hy0' : y0 < 4294967296 := by omega
  have HY0 := Lib.hid hy0; clear hy0
  go_wp2_with fail
  obtain ⟨gt, hgt⟩ : ∃ gt, gt = w1.heap.size := ⟨_, rfl⟩
  rw [← hgt] at HTT ⊢
  clear hst hz hgt hl0 hlen hnx c0
  go_loopw [6, 8, 16] (fun xv pv iv wr => ∃ k y : Nat, k ≤ m ∧ y < 4294967296 ∧ iv = .int .i64 k ∧ xv = .int .u32 y ∧ wr = w2 ∧ Hid (y = crcF (catL (l.take k)) y0)) (fun _ _ iv _ => m - (intOf iv).toNat)
  case atStart => exact ⟨0, y0, by omega, hy0', rfl, rfl, rfl, rfl⟩
  case round =>
    obtain ⟨k, y, hk, hy, rfl, rfl, rfl, Hy⟩ := hrel
    by_cases hlt : k < m
    · obtain ⟨b, off, rfl, hcell⟩ := HA2.out k (by have := Hm.out; omega)
      have hsl := Hs.out _ (List.getElem_mem (by have := Hm.out; omega : k < l.length))
      have hsn := catL_snoc l k (by have := Hm.out; omega)
      generalize l[k]'(by have := Hm.out; omega) = s at hcell hsl hsn
      unfold maxLen at hsl
      have Hsn := Lib.hid hsn; clear hsn
      go_wp2_with fail
      go_loopw [6, 9, 22] (fun xv iv cv wi => ∃ j z : Nat, j ≤ s.size ∧ z < 4294967296 ∧ cv = .int .i64 j ∧ xv = .int .u32 z ∧ wi = wr ∧ Hid (z = crcF (s.data.toList.take j) y)) (fun _ _ cv _ => s.size - (intOf cv).toNat)
      case atStart => exact ⟨0, y, by omega, hy, rfl, rfl, rfl, rfl⟩
      case round =>
        obtain ⟨j, z, hj, hz, rfl, rfl, rfl, Hz⟩ := hrel
        by_cases hjl : j < s.size
        · obtain ⟨c, hc⟩ : ∃ c : Nat, c = s[j].toNat := ⟨_, rfl⟩
          have hc2 : c < 256 := by rw [hc]; exact s[j].toNat_lt
          obtain ⟨i, hi⟩ : ∃ i : Nat, i = (z % 256) ^^^ c := ⟨_, rfl⟩
          have hi2 : i < 256 := by rw [hi]; exact Nat.xor_lt_two_pow (n := 8) (by omega) hc2
          have hidx : bits BinOp.xor IntKind.u8 ((z : Int) % 256) (s[j].toNat : Int) = (i : Int) := by
            rw [show ((z : Int) % 256) = ((z % 256 : Nat) : Int) by omega, ← hc, xor_u8 _ _ (by omega) hc2, hi]
          have htc : wr.cell? ⟨gt, i, none⟩ = some (.int .u32 (crcK 8 i : Int)) := (HTT.out i _ (by rw [HT.out]; exact tabL_at 256 i hi2)).1
          have hq := crcK_lt 8 i (by omega)
          have hnew : crcB z c = crcK 8 i ^^^ z / 256 := by rw [crcB_table z c hc2, hi]
          generalize crcK 8 i = q at htc hq hnew
          have Hnew := Lib.hid hnew; clear hnew hi
          have Hc := Lib.hid hc; clear hc
          go_wp2
          refine ⟨⟨j + 1, z / 256 ^^^ q, by omega, Nat.xor_lt_two_pow (n := 32) (by omega) (by omega), by go_num, ?_, trivial, ?_⟩, by simp [intOf]; omega⟩
          · rw [show ((z : Int) / 256) = ((z / 256 : Nat) : Int) by omega]; exact congrArg (Value.int .u32) (xor_u32 (z / 256) q (by omega) hq)
          · show _ = _
            rw [crcF_snoc _ j (by simpa using hjl), ← Hz.out]
            have := Hc.out
            rw [Nat.xor_comm, ← Hnew.out, this]; rfl
        · obtain rfl : j = s.size := by omega
          go_wp2
          refine ⟨⟨k + 1, z, by omega, hz, by go_num, rfl, trivial, ?_⟩, by simp [intOf]; omega⟩
          show z = _
          rw [Hsn.out, crcF_app, ← Hy.out, Hz.out, List.take_of_length_le (by simp)]
    · obtain rfl : k = m := by omega
      obtain ⟨d1, d2⟩ := HC2.out.at 0 (by simp)
      have hny := not_u32 y hy
      have hres : 4294967295 - y = crcA x (catL l) := by
        unfold crcA
        rw [Hy.out, HY0.out, Hm.out, List.take_length]
      have Hres := Lib.hid hres; clear hres
      go_wp2
      refine bodyPost_ret (v := .agg #[.int .u32 ((4294967295 - y : Nat) : Int)]) ?_ rfl ⟨by rw [Hres.out], HB2.out.setCell (by simp) _⟩
      simp [results, Try.results16, go_sem, d1]

theorem strs_one {w : World} {b : Nat} {s : ByteArray} (h : w.cell? ⟨b, 0, none⟩ = some (.string s)) : StrsAt w (some ⟨b, 0, none⟩) [s] := fun i hi => by
  obtain rfl : i = 0 := by simpa using hi
  exact ⟨b, 0, rfl, h⟩
theorem catL_one (s : ByteArray) : catL [s] = s.data.toList := by simp [catL]
set_option maxRecDepth 100000 in
set_option maxHeartbeats 1000000 in
theorem sum_any (x : Nat) (w : World) : Calls Try.prog 17 #[.agg #[.int .u32 x]] w fun e w' => e = .returned (.int .u32 x) ∧ Below w.heap.size w w' := by
  go_enter Try.func17, Try.ntmps17
  go_wp2
  go_ret
  exact ⟨rfl, (Below.refl _ _).alloc (Nat.le_refl _) _⟩
set_option maxRecDepth 100000 in
set_option maxHeartbeats 1000000 in
theorem of_any (cap : Nat) (a : Option Addr) (l : List ByteArray) (w : World) (hl : l.length ≤ 1000) (ha : StrsAt w a l) (hs : ∀ s ∈ l, s.size ≤ maxLen) :
    Calls Try.prog 10 #[.slice a l.length cap] w fun e w' => e = .returned (.int .u32 (crcSum (catL l) : Int)) ∧ Below w.heap.size w w' := by
  obtain ⟨m, hm⟩ : ∃ m, m = l.length := ⟨_, rfl⟩
  rw [← hm] at hl ⊢
  have Hm := Lib.hid hm; clear hm
  go_enter Try.func10, Try.ntmps10
  go_wp2_with fail
  rw [Hm.out]
  refine (addAll_any 0 cap a l _ (by omega) (by rw [← Hm.out]; exact hl) ha hs).mono ?_
  rintro e w1 ⟨rfl, hb⟩
  rw [crcA_zero]
  have hb2 := Lib.hid hb; clear hb
  go_wp2_with fail
  refine (sum_any _ _).mono ?_
  rintro e w2 ⟨rfl, hb3⟩
  go_wp2
  go_ret
  exact ⟨rfl, below_on hb2.out hb3⟩
theorem of1_any (cap b : Nat) (s : ByteArray) (w : World) (h : w.cell? ⟨b, 0, none⟩ = some (.string s)) (hs : s.size ≤ maxLen) :
    Calls Try.prog 10 #[.slice (some ⟨b, 0, none⟩) 1 cap] w fun e w' => e = .returned (.int .u32 (crcSum s.data.toList : Int)) ∧ Below w.heap.size w w' := by
  have := of_any cap (some ⟨b, 0, none⟩) [s] w (by simp) (strs_one h) (by simpa using hs)
  rw [catL_one] at this
  exact this
theorem of0_any (w : World) : Calls Try.prog 10 #[.slice none 0 0] w fun e w' => e = .returned (.int .u32 0) ∧ Below w.heap.size w w' :=
  of_any 0 none [] w (by simp) (fun i hi => by simp at hi) (fun s hs => by simp at hs)
theorem of3_any (cap b : Nat) (s t u : ByteArray) (w : World) (h : w.cell? ⟨b, 0, none⟩ = some (.string s)) (h1 : w.cell? ⟨b, 1, none⟩ = some (.string t)) (h2 : w.cell? ⟨b, 2, none⟩ = some (.string u)) (hs : s.size ≤ maxLen) (ht : t.size ≤ maxLen) (hu : u.size ≤ maxLen) :
    Calls Try.prog 10 #[.slice (some ⟨b, 0, none⟩) 3 cap] w fun e w' => e = .returned (.int .u32 (crcSum (s.data.toList ++ (t.data.toList ++ u.data.toList)) : Int)) ∧ Below w.heap.size w w' := by
  have := of_any cap (some ⟨b, 0, none⟩) [s, t, u] w (by simp) (fun i hi => by
    simp at hi
    match i, hi with
    | 0, _ => exact ⟨b, 0, rfl, h⟩
    | 1, _ => exact ⟨b, 0, rfl, h1⟩
    | 2, _ => exact ⟨b, 0, rfl, h2⟩) (by simpa using ⟨hs, ht, hu⟩)
  rw [show catL [s, t, u] = s.data.toList ++ (t.data.toList ++ u.data.toList) by simp [catL]] at this
  exact this
theorem awake_sum : crcSum [49, 50, 51, 52, 53, 54, 55, 56, 57] = 3421780262 := by decide +kernel
end Go.Proofs.Ytigjaopafhjhaaa
