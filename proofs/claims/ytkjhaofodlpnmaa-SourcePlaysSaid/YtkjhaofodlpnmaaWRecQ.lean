/-
  Lists of decisions: Some, Told, Are, in a seat without the decisions' own package (texts of WRecs2, WRecs3, WSome).
-/
import Derived.Test.YtkjhaofodlpnmaaWSrc1
import Derived.Test.YtkjhaofodlpnmaaSegP
import Derived.LoopTactic
import Derived.BigQuiet
import Derived.Deep.QuietTactic
import Derived.Deep.RegionHeld3
import Derived.Deep.AppendLies
import Derived.Laws.StructEq
open Go Go.RowKit
set_option linter.unusedVariables false
namespace Go.Proofs.Ytkjhaofodlpnmaa
theorem info_rrec : (Try.prog.info? 52).map (fun i => (i.zero, i.size, i.bytes)) = some (some (.agg #[.int .i64 0, .int .u64 0]), 2, 16) := by kernel_rfl
set_option maxRecDepth 100000 in
set_option maxHeartbeats 1000000 in
theorem told_any (a : Option Addr) (cap : Nat) (l : List Rec) (w : World) (hl : l.length ≤ 1000) (hat : RecsAt w a l) :
    Calls Try.prog 8 #[.slice a l.length cap] w fun e w' => ∃ a' cap', e = .returned (.slice a' l.length cap') ∧ RowG 2 w' a' cap' l.length (recCells l) ∧ (∀ x ∈ blk a', w.heap.size ≤ x) ∧ Below w.heap.size w w' := by
  obtain ⟨i0, hi, hz0, hz1, hz2⟩ := info_parts info_rrec
  have Hat := Lib.hid hat; clear hat
  obtain ⟨m, hm⟩ : ∃ m, m = l.length := ⟨_, rfl⟩
  rw [← hm] at hl ⊢
  have Hm := Lib.hid hm; clear hm
  have Hi := Lib.hid hi; clear hi
  have Hz0 := Lib.hid hz0; clear hz0
  have Hz1 := Lib.hid hz1; clear hz1
  have Hz2 := Lib.hid hz2; clear hz2
  go_enter Try.func8, Try.ntmps8
  go_wp2_with fail
  go_loopw [3, 9] (fun s c wr => ∃ k : Nat, k ≤ m ∧ c = .int .i64 k ∧ Hid (wr.ownsRow w.heap.size 52 2 s k (recCells (l.take k)) ∧ Below w.heap.size w wr)) (fun _ c _ => m - (intOf c).toNat)
  case atStart => exact ⟨0, by omega, rfl, World.ownsRow_made w #[] 0 (Nat.le_refl _) (by decide) rfl, (Below.refl _ _).alloc (Nat.le_refl _) _⟩
  case round =>
    obtain ⟨k, hk, rfl, hr⟩ := hrel
    by_cases hlt : k < m
    · obtain ⟨b, off, rfl, h0, h1⟩ := (Hat.out.below hr.out.2) k (by have := Hm.out; omega)
      have hsn := recCells_snoc l k (by have := Hm.out; omega)
      generalize l[k]'(by have := Hm.out; omega) = r at h0 h1 hsn
      obtain ⟨rk, rn⟩ := r
      simp only at h0 h1
      have Hsn := Lib.hid hsn; clear hsn
      go_wp2_with (at_builtin; refine wpList_append_own _ rfl _ _ 23 rfl w.heap.size 52 i0 (.agg #[.int .i64 0, .int .u64 0]) 2 16 Try.underlying23 Hi.out Hz0.out Hz1.out Hz2.out rfl (by decide) _ _ _ rfl ((hr.out.1.alloc _).alloc _) ⟨wr.heap.size + 1, 0, none⟩ 1 1 [.int .i64 rk, .int .u64 (rn : Int)] rfl rfl ?c1 ?c2 ?c3 ?c4 ?c5 ?_)
      case c2 => exact ⟨rfl, rfl⟩
      case c3 => unfold maxLen; omega
      case c4 => omega
      case c5 => have := hr.out.2.size; simp; omega
      intro v' w1 hown' hgrow _
      have hrel : w1.ownsRow w.heap.size 52 2 v' (k + 1) (recCells (l.take (k + 1))) ∧ Below w.heap.size w w1 := by
        rw [Hsn.out]
        refine ⟨hown', (((hr.out.2.alloc hr.out.2.size _).alloc (by have := hr.out.2.size; simp; omega) _).grown hgrow (by have := hr.out.2.size; simp; omega) (fun q hq => (hr.out.1.lt q hq).1))⟩
      have Hrel := Lib.hid hrel; clear hrel hown' hgrow
      go_wp2
      exact ⟨⟨k + 1, by omega, by go_num, Hrel⟩, by simp [intOf]; omega⟩
    · have hkm : k = m := by omega
      have hall : l.take k = l := by rw [hkm, Hm.out, List.take_length]
      rw [hall, hkm] at hr
      clear hall hkm
      obtain ⟨hown, hbel⟩ := hr.out
      obtain ⟨g, cp, rfl, hc1, hc2⟩ := RowG.of_own hown
      have Hend := Lib.hid (And.intro hc1 (And.intro hc2 hbel))
      clear hown hbel hc1 hc2 hr
      go_wp2
      go_ret
      exact ⟨g, cp, rfl, Hend.out⟩
theorem two_new (W : World) (u v : Value) (t : TypeId) {b : Nat} (hb : b = W.heap.size) : ∀ j x, [u, v][j]? = some x → (W.alloc (.cells #[u, v] t)).cell? ((⟨b, 0, none⟩ : Addr).add j) = some x := by
  subst hb
  exact cell_two_new W u v t
theorem info_rec : (Try.prog.info? 37).map (fun i => (i.zero, i.size, i.bytes)) = some (some (.agg #[.int .i64 0, .int .u64 0]), 2, 16) := by kernel_rfl

set_option maxRecDepth 100000 in
set_option maxHeartbeats 1000000 in
theorem are_eq (a b : Option Addr) (ca cb : Nat) (l : List Rec) (w : World) (hl : l.length ≤ 1000) (ha : RecsAt w a l) (hb : RecsAt w b l) :
    Calls Try.prog 14 #[.slice a l.length ca, .slice b l.length cb] w fun e w' => e = .returned (.int .i64 0) ∧ Below w.heap.size w w' := by
  have Ha := Lib.hid ha; clear ha
  have Hb := Lib.hid hb; clear hb
  obtain ⟨m, hm⟩ : ∃ m, m = l.length := ⟨_, rfl⟩
  rw [← hm] at hl ⊢
  have Hm := Lib.hid hm; clear hm
  go_enter Try.func14, Try.ntmps14
  go_wp2_with fail
  go_loopw [5, 13] (fun _ c wr => ∃ k : Nat, k ≤ m ∧ c = .int .i64 k ∧ Hid (Below w.heap.size w wr)) (fun _ c _ => m - (intOf c).toNat)
  case atStart => exact ⟨0, by omega, rfl, Below.refl _ _⟩
  case round =>
    obtain ⟨k, hk, rfl, hr⟩ := hrel
    by_cases hlt : k < m
    · obtain ⟨b1, o1, rfl, h0, h1⟩ := (Ha.out.below hr.out) k (by have := Hm.out; omega)
      obtain ⟨b2, o2, rfl, h2, h3⟩ := (Hb.out.below hr.out) k (by have := Hm.out; omega)
      generalize l[k]'(by have := Hm.out; omega) = r at h0 h1 h2 h3
      obtain ⟨rk, rn⟩ := r
      simp only at h0 h1 h2 h3
      go_wp2_with fail
      go_quiet (fail)
      go_wp2
      exact ⟨⟨k + 1, by omega, by go_num, Lib.hid (below_drewN hr.out _)⟩, by simp [intOf]; omega⟩
    · go_wp2
      go_ret
      exact ⟨rfl, hr.out⟩
/-- The decision that Some makes of raw numbers. -/
def someR (r : Rec) : Rec := (1 + r.1 % 256 % 4, r.2 % 4611686018427387904)
def someL (l : List Rec) : List Rec := (l.take 40).map someR
theorem someR_ok (r : Rec) : Rec.ok (someR r) := by unfold someR Rec.ok; simp only; omega
theorem someL_ok (l : List Rec) : ∀ r ∈ someL l, Rec.ok r := by
  intro r hr; unfold someL at hr; rw [List.mem_map] at hr; obtain ⟨x, _, rfl⟩ := hr; exact someR_ok x
theorem someL_len (l : List Rec) : (someL l).length ≤ 40 := by unfold someL; simp; omega
theorem and_255s (k : Int) : bits BinOp.and IntKind.i64 k 255 = k % 256 := by
  show IntKind.i64.wrap (((BitVec.ofInt 64 k) &&& (BitVec.ofInt 64 255)).toNat : Int) = k % 256
  have e : (BitVec.ofInt 64 255).toNat = 255 := by decide
  rw [BitVec.toNat_and, e, nat_mask8, IntKind.wrap_i64, BitVec.toNat_ofInt]; omega
theorem and_most (n : Nat) (h : n < 18446744073709551616) : bits BinOp.and IntKind.u64 (n : Int) 4611686018427387903 = ((n % 4611686018427387904 : Nat) : Int) := by
  have := u64_and_nat n 4611686018427387903 h (by omega)
  rw [show ((4611686018427387903 : Nat) : Int) = 4611686018427387903 from rfl] at this
  rw [this]; congr 1; exact Nat.and_two_pow_sub_one_eq_mod n 62
theorem some_snoc (l : List Rec) (k : Nat) (h : k < l.length) (hk : k < 40) : someL (l.take (k + 1)) = someL (l.take k) ++ [someR l[k]] := by
  unfold someL
  rw [List.take_take, List.take_take, show min 40 (k + 1) = k + 1 by omega, show min 40 k = k by omega, List.take_succ_eq_append_getElem h]; simp only [List.map_append, List.map_cons, List.map_nil]
set_option maxRecDepth 100000 in
set_option maxHeartbeats 1000000 in
theorem some_own (a : Option Addr) (cap : Nat) (l : List Rec) (w : World) (hl : l.length ≤ maxLen) (hat : RecsAt w a l) (hu : ∀ r ∈ l, r.2 < 18446744073709551616) :
    Calls Try.prog 5 #[.slice a l.length cap] w fun e w' => ∃ a' cap', e = .returned (.slice a' (someL l).length cap') ∧ w'.ownsRow w.heap.size 37 2 (.slice a' (someL l).length cap') (someL l).length (recCells (someL l)) ∧ Below w.heap.size w w' := by
  obtain ⟨i0, hi, hz0, hz1, hz2⟩ := info_parts info_rec
  have Hi := Lib.hid hi; clear hi
  have Hz0 := Lib.hid hz0; clear hz0
  have Hz1 := Lib.hid hz1; clear hz1
  have Hz2 := Lib.hid hz2; clear hz2
  have Hat := Lib.hid hat; clear hat
  have Hu := Lib.hid hu; clear hu
  obtain ⟨m, hm⟩ : ∃ m, m = l.length := ⟨_, rfl⟩
  rw [← hm] at hl ⊢
  have Hm := Lib.hid hm; clear hm
  unfold maxLen at hl
  go_enter Try.func5, Try.ntmps5
  go_wp2_with fail
  go_loopw [3, 4] (fun v c wr => ∃ k : Nat, k ≤ m ∧ k ≤ 40 ∧ c = .int .i64 k ∧ Hid (wr.ownsRow w.heap.size 37 2 v k (recCells (someL (l.take k))) ∧ Below w.heap.size w wr)) (fun _ c _ => 40 - (intOf c).toNat)
  case atStart => exact ⟨0, by omega, by omega, rfl, World.ownsRow_made w #[] 0 (Nat.le_refl _) (by decide) rfl, (Below.refl _ _).alloc (Nat.le_refl _) _⟩
  case round =>
    obtain ⟨k, hk, hk40, rfl, hr⟩ := hrel
    by_cases hlt : k < m ∧ k < 40
    · obtain ⟨hlt1, hlt2⟩ := hlt
      obtain ⟨b, off, rfl, h0', h1'⟩ := Hat.out k (by have := Hm.out; omega)
      have hbl : b < w.heap.size := World.block_lt_of_cell? w _ h0'
      have hsn := some_snoc l k (by have := Hm.out; omega) hlt2
      have hub := Hu.out _ (List.getElem_mem (by have := Hm.out; omega : k < l.length))
      generalize l[k]'(by have := Hm.out; omega) = r at h0' h1' hsn hub
      obtain ⟨rk, rn⟩ := r
      simp only at h0' h1' hub
      have hS : ∀ w', Below w.heap.size w w' → (w'.cell? ⟨b, off + k * 2, none⟩ = some (.int .i64 rk) ∧ w'.cell? ⟨b, off + k * 2 + 1, none⟩ = some (.int .u64 (rn : Int)) ∧ Below w.heap.size w w') := fun w' hb =>
        ⟨by rw [hb.cell (p := ⟨b, off + k * 2, none⟩) hbl]; exact h0', by rw [hb.cell (p := ⟨b, off + k * 2 + 1, none⟩) hbl]; exact h1', hb⟩
      have HS := Lib.hid hS; clear hS h0' h1'
      have Hsn := Lib.hid hsn; clear hsn
      have hX : 1 + (bits BinOp.and IntKind.i64 rk 255).tmod 4 = (someR (rk, rn)).1 := by rw [and_255s, Int.tmod_eq_emod_of_nonneg (by omega)]; rfl
      have hY : bits BinOp.and IntKind.u64 (rn : Int) 4611686018427387903 = ((someR (rk, rn)).2 : Int) := and_most rn hub
      have hW : IntKind.i64.wrap (someR (rk, rn)).1 = (someR (rk, rn)).1 := by have := someR_ok (rk, rn); obtain ⟨p1, p2, _⟩ := this; rw [IntKind.wrap_i64]; omega
      have hB := hr.out.2.size
      go_wp2_with fail
      go_region_held3 (fun w' => w'.cell? ⟨b, off + k * 2, none⟩ = some (.int .i64 rk) ∧ w'.cell? ⟨b, off + k * 2 + 1, none⟩ = some (.int .u64 (rn : Int)) ∧ Below w.heap.size w w')
        (first | exact HS.out _ hr.out.2 | exact HS.out _ hr.out.2.drew | exact HS.out _ ((hr.out.2.alloc hr.out.2.size _).drew) | exact HS.out _ (((hr.out.2.alloc hr.out.2.size _).drew).grown hgrow (by simp; omega) (fun q hq => (hr.out.1.lt q hq).1)))
        ((refine step_append_lies _ (by rfl) _ _ _ (by rfl) w.heap.size 37 i0 _ 2 16 Try.underlying26 Hi.out Hz0.out Hz1.out Hz2.out rfl (by omega) _ _ _ (by rfl) ((hr.out.1.alloc _).drew) ⟨wr.heap.size, 0, none⟩ 1 1 _ (by rfl) (by rfl) (World.news_of_block (cs := #[_, _]) (t := 37) (fr := (0, 0)) (heap_alloc_new wr _)) (by simp [Value.oneCell']) (by omega) (by unfold maxLen; omega) (by omega) (by simp; omega) (wr.heap.size + 1) (by simp) ?_; intro g cp w1 hown1 hgrow hg hgl))
      have hrel : w1.ownsRow w.heap.size 37 2 (.slice (some ⟨g, 0, none⟩) (k + 1) cp) (k + 1) (recCells (someL (l.take (k + 1)))) ∧ Below w.heap.size w w1 := by
        rw [Hsn.out, recCells_app]
        exact ⟨hown1, (by assumption : _ ∧ _ ∧ Below w.heap.size w w1).2.2⟩
      have Hrel := Lib.hid hrel
      clear hrel hown1 hgrow hg hX hY hW
      go_wp2
      exact ⟨⟨k + 1, by omega, by omega, by go_num, Hrel⟩, by simp [intOf]; omega⟩
    · have hlen : (someL (l.take k)) = someL l ∧ k = (someL l).length := by
        have := Hm.out
        unfold someL
        rw [List.take_take]
        by_cases h40 : k < 40
        · rw [show min 40 k = m by omega, this, List.take_length, List.take_of_length_le (by omega)]; simp; omega
        · rw [show min 40 k = 40 by omega]; simp; omega
      have hown := hr.out.1
      have hbel := hr.out.2
      have hdec : ¬ ((k : Int) < m ∧ (k : Int) < 40) := by omega
      rw [hlen.1] at hown
      have hk2 := hlen.2
      clear hlen
      rw [hk2] at hown
      obtain ⟨g, cp, rfl, hc1, hc2, hc3⟩ := RecsAt.of_own hown
      have Hend := Lib.hid (And.intro hown hbel)
      clear hown hbel hc1 hc2 hc3 hr hk2
      by_cases h1 : k < m
      · have h2 : ¬ k < 40 := by omega
        clear hdec hlt
        go_wp2
        go_ret
        exact ⟨g, cp, rfl, Hend.out⟩
      · clear hdec hlt
        go_wp2
        go_ret
        exact ⟨g, cp, rfl, Hend.out⟩
theorem some_any (a : Option Addr) (cap : Nat) (l : List Rec) (w : World) (hl : l.length ≤ maxLen) (hat : RecsAt w a l) (hu : ∀ r ∈ l, r.2 < 18446744073709551616) :
    Calls Try.prog 5 #[.slice a l.length cap] w (GotRecs w (someL l)) := by
  refine (some_own a cap l w hl hat hu).mono ?_
  rintro e w' ⟨a', cap', rfl, h1, h2⟩
  obtain ⟨a2, c2, he, h3, h4, h5⟩ := RecsAt.of_own h1
  simp only [Value.slice.injEq, true_and] at he
  obtain ⟨rfl, rfl⟩ := he
  exact ⟨a', cap', rfl, h3, h4, h5, h2⟩
end Go.Proofs.Ytkjhaofodlpnmaa
