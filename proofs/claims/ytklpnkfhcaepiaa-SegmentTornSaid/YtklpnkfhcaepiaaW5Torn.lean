/-
  The walk of the law SegmentTorn.
-/
import Derived.Test.YtklpnkfhcaepiaaWSeg3
import Derived.Test.YtklpnkfhcaepiaaSegRow
import Derived.Test.YtklpnkfhcaepiaaWCut
import Derived.Test.YtklpnkfhcaepiaaIntRow
import Derived.Test.YtklpnkfhcaepiaaInArgs
import Derived.Deep.RegionHeld3
import Derived.Deep.DrawnRows
import Derived.RegionTactic
import Derived.ChangeAlike
import Derived.WalkSmall
import Derived.OpenShut
import Derived.Deep.DeepCutAuto
import Derived.Deep.AppendLies
open Go Go.RowKit
set_option linter.unusedVariables false
namespace Go.Proofs.Ytklpnkfhcaepiaa.segmentTorn
attribute [local go_sem ↓] Go.wp_at_zero Go.wp_at_succ
set_option maxRecDepth 100000 in
set_option maxHeartbeats 1000000 in
theorem see_any (pf pn pb pe k m cap1 cape n2 bx ox be oe : Nat) (b x : ByteArray) (e : Nat) (W : World) (hk : k < m) (hke : k + 1 < n2) (hm : n2 ≤ 1000) (cf : W.cell? ⟨pf, 0, none⟩ = some (.bool true)) (ff : W.frozen? ⟨pf, 0, none⟩ = false)
    (cn : W.cell? ⟨pn, 0, none⟩ = some (.int .i64 (k : Int))) (fn : W.frozen? ⟨pn, 0, none⟩ = false) (cb : W.cell? ⟨pb, 0, none⟩ = some (.slice (some ⟨bx, ox, none⟩) m cap1)) (cx : W.cell? ⟨bx, ox + k, none⟩ = some (.string x))
    (ce : W.cell? ⟨pe, 0, none⟩ = some (.slice (some ⟨be, oe, none⟩) n2 cape)) (cE : W.cell? ⟨be, oe + (k + 1), none⟩ = some (.int .i64 (e : Int))) (hb : cutB x 60 = b) (xs : x.size ≤ maxLen) (h1 : ¬ pf = pn) (h2 : ¬ pn = pf) :
    Calls Try.prog 21 #[.string b, .int .i64 (e : Int), .pointer (some ⟨pf, 0, none⟩), .pointer (some ⟨pn, 0, none⟩), .pointer (some ⟨pb, 0, none⟩), .pointer (some ⟨pe, 0, none⟩)] W fun r W' =>
      r = .returned (.bool true) ∧ W' = (W.setCell ⟨pf, 0, none⟩ (.bool true)).setCell ⟨pn, 0, none⟩ (.int .i64 ((k : Int) + 1)) := by
  go_enter Try.func21, Try.ntmps21
  go_wp2_with fail
  refine (cut_any x 60 _ xs (by omega)).mono ?_
  rintro r w1 ⟨rfl, rfl⟩
  rw [hb]
  go_wp2
  go_ret
  exact ⟨rfl, rfl⟩
theorem enters (args : Array Value) (w : World) : (callFunc 21 args).run Try.prog w = .ok (.enter 21 args) w := by kernel_rfl
theorem and_65535 (k : Int) : bits BinOp.and IntKind.i64 k 65535 = k % 65536 := by
  show IntKind.i64.wrap (((BitVec.ofInt 64 k) &&& (BitVec.ofInt 64 65535)).toNat : Int) = k % 65536
  have e : (BitVec.ofInt 64 65535).toNat = 65535 := by decide
  rw [BitVec.toNat_and, e, show (65535 : Nat) = 2 ^ 16 - 1 from rfl, Nat.and_two_pow_sub_one_eq_mod, IntKind.wrap_i64, BitVec.toNat_ofInt]; omega
/-- The bodies; the places at which the segments end. -/
def cl (l : List ByteArray) : List ByteArray := (l.take 8).map fun b => cutB b 60
theorem cl_len (l : List ByteArray) : (cl l).length = min 8 l.length := by unfold cl; simp
theorem cl_at (l : List ByteArray) (k : Nat) (h : k < (cl l).length) (h2 : k < l.length) : (cl l)[k] = cutB l[k] 60 := by unfold cl; simp
theorem cl_small (l : List ByteArray) : ∀ b ∈ cl l, b.size ≤ 60 := fun b hb => by
  unfold cl at hb; rw [List.mem_map] at hb; obtain ⟨x, _, rfl⟩ := hb; exact cutB_size _ _
def endsL (l : List ByteArray) (k : Nat) : List Nat := (List.range (k + 1)).map fun j => (rowF 0 (l.take j)).length
theorem endsL_len (l : List ByteArray) (k : Nat) : (endsL l k).length = k + 1 := by unfold endsL; simp
theorem endsL_at (l : List ByteArray) (k j : Nat) (h : j < (endsL l k).length) : (endsL l k)[j] = (rowF 0 (l.take j)).length := by simp only [endsL, List.getElem_map, List.getElem_range]
theorem endsL_succ (l : List ByteArray) (k : Nat) : endsL l (k + 1) = endsL l k ++ [(rowF 0 (l.take (k + 1))).length] := by
  unfold endsL; rw [List.range_succ, List.map_append]; rfl
theorem info_int : (Try.prog.info? 3).map (fun i => (i.zero, i.size, i.bytes)) = some (some (.int .i64 0), 1, 8) := by kernel_rfl
set_option maxHeartbeats 1000000 in
theorem scan_torn (wr : World) (pb pe m cap0 k ce j : Nat) (a0 ae : Option Addr) (l0 : List ByteArray) (S : ByteArray) (hS : S.size ≤ 1000) (hscan : scanR S 0 = seen 0 0 ((cl l0).take j)) (hj : j ≤ k) (hk : k = (cl l0).length) (hm : m = l0.length)
    (hb : wr.cell? ⟨pb, 0, none⟩ = some (.slice a0 m cap0)) (he : wr.cell? ⟨pe, 0, none⟩ = some (.slice ae (k + 1) ce)) (hn : NatsAt wr ae (endsL (cl l0) k)) (ha : StrsAt wr a0 l0) (hss : ∀ s ∈ l0, s.size ≤ maxLen) :
    Calls Try.prog 19 #[.string S, .int .u64 0, .func (.func 21) #[] #[.pointer (some ⟨wr.heap.size + 1, 0, none⟩), .pointer (some ⟨wr.heap.size, 0, none⟩), .pointer (some ⟨pb, 0, none⟩), .pointer (some ⟨pe, 0, none⟩)]]
      ((wr.alloc (.cells #[.int .i64 0] 3)).alloc (.cells #[.bool true] 4)) fun e w' => e = .returned (.int .i64 ((rowF 0 ((cl l0).take j)).length : Int)) ∧
        Blk w' (wr.heap.size + 1) [.bool true] ∧ Blk w' wr.heap.size [.int .i64 (j : Int)] ∧ Chg [wr.heap.size + 1, wr.heap.size] ((wr.alloc (.cells #[.int .i64 0] 3)).alloc (.cells #[.bool true] 4)) w' := by
  obtain ⟨W5, hW5⟩ : ∃ W5, W5 = (wr.alloc (.cells #[.int .i64 0] 3)).alloc (.cells #[.bool true] 4) := ⟨_, rfl⟩
  have hb5 : Below wr.heap.size wr W5 := by rw [hW5]; exact (below_alloc1 _ _).alloc (by simp) _
  have hs5 : W5.heap.size = wr.heap.size + 2 := by rw [hW5]; simp
  have hpf : Blk W5 (wr.heap.size + 1) [.bool true] := by rw [hW5]; exact Blk.mk _ _ _ _ (by simp)
  have hpn : Blk W5 wr.heap.size [.int .i64 0] := by rw [hW5]; exact (Blk.mk _ _ _ _ rfl).alloc _
  rw [← hW5]
  have hlk : k ≤ 8 := by rw [hk, cl_len]; omega
  have hlm : k ≤ m := by rw [hk, hm, cl_len]; omega
  have hlt : ∀ {b o v}, wr.cell? ⟨b, o, none⟩ = some v → b < wr.heap.size := fun h => World.block_lt_of_cell? wr _ h
  refine (scan_any 21 _ S 0 W5 (by omega) (by omega) (fun pre W => Chg [wr.heap.size + 1, wr.heap.size] W5 W ∧ Blk W (wr.heap.size + 1) [.bool true] ∧ Blk W wr.heap.size [.int .i64 (pre.length : Int)]) (fun _ _ => False) enters ⟨Chg.refl _ _, hpf, hpn⟩ ?_ ?_).mono ?_
  · rintro pre W W' ⟨h1, h2, h3⟩ hw
    exact ⟨h1.trans (Chg.of_below (F := [wr.heap.size + 1, wr.heap.size]) hw) (fun x hx => .inl hx), h2.below hw, h3.below hw⟩
  · rintro pre b e post W hL ⟨h1, h2, h3⟩ hbs hes
    rw [hscan] at hL
    have hl := congrArg List.length hL
    rw [seen_len, List.length_take, List.length_append, List.length_cons] at hl
    have hp : pre.length < (seen 0 0 ((cl l0).take j)).length := by rw [seen_len, List.length_take]; omega
    have hx := seen_at ((cl l0).take j) 0 0 pre.length hp
    have hx2 : (seen 0 0 ((cl l0).take j))[pre.length] = (b, e) := by simp only [hL, List.getElem_append_right (Nat.le_refl _), Nat.sub_self, List.getElem_cons_zero]
    rw [hx2, List.getElem_take, List.take_take, Nat.zero_add, show min (pre.length + 1) j = pre.length + 1 by omega] at hx
    simp only [Prod.mk.injEq] at hx
    obtain ⟨hx1, hx3⟩ := hx
    have hpl : pre.length < l0.length := by omega
    rw [cl_at _ _ _ hpl] at hx1
    have out : ∀ {b o : Nat} {v : Value}, wr.cell? ⟨b, o, none⟩ = some v → W.cell? ⟨b, o, none⟩ = some v := fun {b o v} h => cell_chg (cell_below h hb5) h1 (by have := hlt h; simp; omega)
    obtain ⟨bx, ox, rfl, hcx⟩ := ha pre.length hpl
    obtain ⟨be, oe, rfl, hce⟩ := hn (pre.length + 1) (by rw [endsL_len]; omega)
    rw [endsL_at, ← hx3] at hce
    obtain ⟨f1, f2⟩ := h2.at 0 (by simp)
    obtain ⟨n1, n2⟩ := h3.at 0 (by simp)
    refine (see_any (wr.heap.size + 1) wr.heap.size pb pe pre.length m cap0 ce (k + 1) bx ox be oe b l0[pre.length] e W (by omega) (by omega) (by omega) f1 f2 n1 n2 (out hb) (out hcx) (out he) (out hce) hx1.symm (hss _ (List.getElem_mem hpl)) (by omega) (by omega)).mono ?_
    rintro r W' ⟨rfl, rfl⟩
    refine .inl ⟨rfl, (h1.setCell _ (.inl (by simp))).setCell _ (.inl (by simp)), (h2.set 0 (.bool true)).setFar (by omega), ?_⟩
    have := (h3.setFar (c := wr.heap.size + 1) (k := 0) (v := .bool true) (by omega)).set 0 (.int .i64 ((pre.length : Int) + 1))
    simpa using this
  · rintro e w' ⟨pre, post, h1, rfl, ⟨rfl, h2, h3, h4⟩ | ⟨_, h2⟩⟩
    · rw [List.append_nil, hscan] at h1
      rw [← h1, seen_end0]
      rw [← h1, seen_len, List.length_take, show min j (cl l0).length = j by omega] at h4
      exact ⟨rfl, h3, h4, h2⟩
    · exact absurd h2 id
set_option maxRecDepth 100000 in
set_option maxHeartbeats 2000000 in
theorem walk (a0 : Option Addr) (len0 cap0 : Nat) (l0 : List ByteArray) (a1 : Int) (w : World) (v0 : IsStrs w a0 len0 cap0 l0) (v1 : (Lit.int .i64 a1).wf = true) :
    Calls Try.prog 8 #[.slice a0 len0 cap0, .int .i64 a1] w fun e w' => e = .returned (.bool true) ∧ Below w.heap.size w w' := by
  obtain ⟨rfl, hlc, hcm, hat, hss⟩ := v0
  obtain ⟨l1, u1⟩ := bounds_i64 v1
  clear v1
  have hlm : l0.length ≤ maxLen := Nat.le_trans hlc hcm
  unfold maxLen at hlm
  obtain ⟨i0, hi, hz0, hz1, hz2⟩ := info_parts info_int
  have Hi := Lib.hid hi; clear hi
  have Hz0 := Lib.hid hz0; clear hz0
  have Hz1 := Lib.hid hz1; clear hz1
  have Hz2 := Lib.hid hz2; clear hz2
  have Hat := Lib.hid hat; clear hat hlc hcm
  have Hss := Lib.hid hss; clear hss
  obtain ⟨m, hm⟩ : ∃ m, m = l0.length := ⟨_, rfl⟩
  rw [← hm] at hlm ⊢
  obtain ⟨C, hC⟩ : ∃ C, C = cl l0 := ⟨_, rfl⟩
  have hCl : C.length = min 8 m := by rw [hC, cl_len, hm]
  have Hm := Lib.hid hm; clear hm
  have HC := Lib.hid hC; clear hC
  have HCl := Lib.hid hCl; clear hCl
  go_enter Try.func8, Try.ntmps8
  go_wp2_with fail
  refine (awake5_any _).mono ?_
  rintro e w1 ⟨rfl, hb1⟩
  obtain ⟨W0, hW0⟩ : ∃ W0, W0 = w.alloc (.cells #[.slice a0 m cap0] 38) := ⟨_, rfl⟩
  have hs0 : w.heap.size < W0.heap.size := by rw [hW0]; simp
  have hb0 : Below w.heap.size w W0 := by rw [hW0]; exact below_alloc1 _ _
  have hc0 : W0.cell? ⟨w.heap.size, 0, none⟩ = some (.slice a0 m cap0) := by rw [hW0, World.cell?_alloc_at _ _ _ _ rfl]; rfl
  rw [← hW0] at hb1
  have hsz1 := hb1.size
  have B0 := Lib.hid hb0; clear hb0
  have C0 := Lib.hid hc0; clear hc0 hW0
  have Hat0 := Lib.hid (Hat.out.below B0.out); clear Hat
  have B1 := Lib.hid hb1; clear hb1
  obtain ⟨pe, hpe⟩ : ∃ pe, pe = w1.heap.size + 1 := ⟨_, rfl⟩
  have hbx : BoxRow ((w1.alloc (.cells #[.int .i64 0] 3)).alloc (.cells #[.slice (some ⟨w1.heap.size, 0, none⟩) 1 1] 41)) W0.heap.size pe 3 1 1 (i64c (endsL C 0)) := by
    refine ⟨.slice (some ⟨w1.heap.size, 0, none⟩) 1 1, by simp [Value.ownBlock]; omega, Blk.mk _ _ _ _ (by simp [hpe]), ?_⟩
    refine World.ownsRow.alloc ⟨by simp [i64c_len, endsL_len], .inr ⟨w1.heap.size, 1, _, rfl, by omega, heap_alloc_new w1 _, by omega, by decide, rfl, ?_⟩⟩ _
    simp [endsL, i64c, rowF]
  have hbx2 : Below W0.heap.size W0 ((w1.alloc (.cells #[.int .i64 0] 3)).alloc (.cells #[.slice (some ⟨w1.heap.size, 0, none⟩) 1 1] 41)) := (B1.out.alloc B1.out.size _).alloc (by have := B1.out.size; simp; omega) _
  have hpe0 : W0.heap.size < pe := by omega
  have HX := Lib.hid (And.intro hbx hbx2); clear hbx hbx2 B1
  go_wp2_with fail
  rw [← hpe]
  clear hpe hsz1
  go_loopw [5, 7, 8, 9] (fun sv iv _ _ wr => ∃ k : Nat, ∃ U : ByteArray, k ≤ 8 ∧ k ≤ m ∧ U.size ≤ 100 * k ∧ iv = .int .i64 k ∧ sv = .string U ∧ Hid (U.data.toList = rowF 0 (C.take k) ∧ BoxRow wr W0.heap.size pe 3 1 (k + 1) (i64c (endsL C k)) ∧ Below W0.heap.size W0 wr)) (fun _ iv _ _ _ => 8 - (intOf iv).toNat)
  case atStart => exact ⟨0, ByteArray.mk #[], by omega, by omega, by decide, rfl, rfl, by simp [rowF], HX.out.1, HX.out.2⟩
  case round =>
    obtain ⟨k, U, hk8, hkm, hU, rfl, rfl, hr⟩ := hrel
    obtain ⟨r1, r2, r3⟩ := hr.out
    have r4 := cell_below C0.out r3
    have R1 := Lib.hid r1; clear r1 hr HX
    have R2 := Lib.hid r2; clear r2
    have R3 := Lib.hid r3; clear r3
    have hsw := R3.out.size
    by_cases hlt : k < m ∧ k < 8
    · obtain ⟨hl1, hl2⟩ := hlt
      obtain ⟨b, off, rfl, hcell⟩ := (Hat0.out.below R3.out) k (by have := Hm.out; omega)
      have hxs := Hss.out _ (List.getElem_mem (by have := Hm.out; omega : k < l0.length))
      have hkC : k < C.length := by rw [HCl.out]; omega
      have hCk : C[k] = cutB (l0[k]'(by have := Hm.out; omega)) 60 := by have h := HC.out; subst h; exact cl_at _ _ hkC _
      have hrow := rowF_take C 0 k hkC
      have hends := endsL_succ C k
      rw [hCk] at hrow
      generalize l0[k]'(by have := Hm.out; omega) = x at hcell hxs hCk hrow
      have hys := cutB_size x 60
      have Hrow := Lib.hid hrow; clear hrow
      have Hends := Lib.hid hends; clear hends hCk hkC
      have Hxs := Lib.hid hxs; clear hxs
      go_wp2_with fail
      refine (cut_any x 60 _ Hxs.out (by omega)).mono ?_
      rintro e w' ⟨rfl, rfl⟩
      generalize cutB x 60 = y at hys Hrow
      go_wp2_with fail
      refine (frame_any k y _ (by omega) (by omega)).mono ?_
      rintro e w2 ⟨rfl, hb2⟩
      have hfl : (frameL k y.data.toList).length ≤ 90 := by rw [frameL_len, ← size_list]; have := putL_len k; have := putL_len y.size; omega
      have B2 := Lib.hid (below_on R3.out hb2)
      have X2 := Lib.hid (R2.out.below hb2)
      have c2 := cell_below r4 hb2
      clear hb2 r4 hcell R2 R3
      obtain ⟨F, hF⟩ : ∃ F, F = ByteArray.mk (frameL k y.data.toList).toArray := ⟨_, rfl⟩
      rw [← hF]
      have hFs : F.size ≤ 90 := by rw [hF, size_list]; exact hfl
      have hFl : (U ++ F).data.toList = rowF 0 (C.take (k + 1)) := by rw [app_list, R1.out, Hrow.out, hF, Nat.zero_add]
      have hUF : (U ++ F).size = (rowF 0 (C.take (k + 1))).length := by rw [size_list, hFl]
      have hUs : (U ++ F).size ≤ 100 * (k + 1) := by rw [ByteArray.size_append]; omega
      have HFl := Lib.hid hFl; clear hFl hF hfl
      have HUF := Lib.hid hUF; clear hUF
      obtain ⟨v, hv, hblk, hown⟩ := X2.out
      obtain ⟨e1, e2⟩ := hblk.at 0 (by simp)
      simp only [List.getElem_cons_zero] at e1
      go_wp2_with (first
        | (at_builtin; go_loud (refine wpList_append_lies _ rfl _ _ 41 rfl W0.heap.size 3 i0 (.int .i64 0) 1 8 Try.underlying41 Hi.out Hz0.out Hz1.out Hz2.out rfl (by decide) _ _ _ rfl (hown.alloc _) ⟨w2.heap.size, 0, none⟩ 1 1 [.int .i64 ((U.size : Int) + (F.size : Int))] rfl rfl (one_new _ _ _ rfl) (one_one _ rfl) (by omega) (by unfold maxLen; omega) (by omega) (by have := B2.out.size; simp; omega) (w2.heap.size + 1) (by simp) ?_))
        | go_in)
      intro g cap w3 hown' hgrow hg' hlt'
      obtain ⟨⟨p1, p2⟩, p3, p4, p5⟩ := BoxRow.push (H := w2.heap.size + 1) B2.out (by omega) hv hblk hown (below_alloc1 _ _) hgrow hown' hg' (by simp)
      have hys2 : i64c (endsL C k) ++ [Value.int .i64 ((U.size : Int) + (F.size : Int))] = i64c (endsL C (k + 1)) := by
        rw [Hends.out, i64c_app, ← HUF.out, ByteArray.size_append]; simp [i64c]
      rw [hys2] at p3
      have P3 := Lib.hid p3; clear p3 hown' hgrow hown
      have P4 := Lib.hid p4; clear p4 p5
      clear hblk hg' hlt' hv e1 e2 hys2
      go_wp2
      exact ⟨⟨k + 1, U ++ F, by omega, by omega, hUs, by go_num, rfl, HFl.out, P3.out, P4.out⟩, by simp [intOf]; omega⟩
    · have hkC : k = C.length := by rw [HCl.out]; omega
      have hUr : U.data.toList = rowF 0 C := by rw [R1.out, hkC, List.take_length]
      have hUz : U.size = (rowF 0 C).length := by rw [size_list, hUr]
      obtain ⟨v, hv, hblk, hown⟩ := R2.out
      obtain ⟨ae, ce, rfl, hce1, hce2, hnat⟩ := NatsAt.of_own hown (by rw [endsL_len])
      rw [endsL_len] at hblk hce1 hown
      obtain ⟨e1, e2⟩ := hblk.at 0 (by simp)
      simp only [List.getElem_cons_zero] at e1
      obtain ⟨c, hc⟩ : ∃ c : Nat, (bits BinOp.and IntKind.i64 a1 65535).tmod ((U.size : Int) + 1) = (c : Int) := ⟨((a1 % 65536).tmod ((U.size : Int) + 1)).toNat, by rw [and_65535, Int.toNat_of_nonneg (Int.tmod_nonneg _ (by omega))]⟩
      have hc2 : c ≤ U.size := by
        have := Int.tmod_lt_of_pos (bits BinOp.and IntKind.i64 a1 65535) (show (0 : Int) < (U.size : Int) + 1 by omega)
        omega
      have HN := Lib.hid hnat; clear hnat
      have HO := Lib.hid (And.intro hown (And.intro hblk hv)); clear hown hblk hv R2
      have HU := Lib.hid (And.intro hUr hUz); clear hUr hUz
      have HK := Lib.hid hkC; clear hkC
      have hcase : ¬ k < m ∨ (k < m ∧ ¬ k < 8) := by omega
      clear hlt
      have hk9 : k ≤ 8 := hk8
      obtain ⟨K, hK⟩ : ∃ K, K = k := ⟨_, rfl⟩
      rcases hcase with h1 | ⟨h1, h2⟩
      all_goals
        go_wp2_with fail
        go_loopw [10] (fun nv wx => ∃ j : Nat, j ≤ k ∧ nv = .int .i64 j ∧ wx = wr ∧ Hid ((rowF 0 (C.take j)).length ≤ c)) (fun nv _ => k - (intOf nv).toNat)
        case atStart => exact ⟨0, by omega, rfl, rfl, Lib.hid (by simp [rowF])⟩
        case round =>
          obtain ⟨j, hj, rfl, rfl, hjc⟩ := hrel
          have hld : j < k → ∃ be oe, ae = some ⟨be, oe, none⟩ ∧ wr.cell? ⟨be, oe + (j + 1), none⟩ = some (.int .i64 ((rowF 0 (C.take (j + 1))).length : Int)) := fun hjk => by
            obtain ⟨be, oe, h1, h2⟩ := HN.out (j + 1) (by rw [endsL_len]; omega)
            rw [endsL_at] at h2
            exact ⟨be, oe, h1, h2⟩
          obtain ⟨r, hr⟩ : ∃ r, r = (rowF 0 (C.take (j + 1))).length := ⟨_, rfl⟩
          rw [← hr] at hld
          by_cases hgo : j < k ∧ r ≤ c
          · obtain ⟨hjk, hrc⟩ := hgo
            obtain ⟨be, oe, rfl, hne'⟩ := hld hjk
            have Hr := Lib.hid hr; clear hr hld
            go_wp2
            exact ⟨⟨j + 1, by omega, by go_num, trivial, by rw [← Hr.out]; exact Lib.hid hrc⟩, by simp [intOf]; omega⟩
          · have hend : j = C.length ∨ c < (rowF 0 (C.take (j + 1))).length := by rw [← hr]; have := HK.out; omega
            obtain ⟨S, hS⟩ : ∃ S, S = U.extract 0 c := ⟨_, rfl⟩
            have hSl : S.data.toList = (rowF 0 C).take c := by rw [hS, extract_list, HU.out.1]; simp
            have hSs : S.size ≤ 1000 := by rw [hS]; have := extract_size_le U 0 c; omega
            have hsl : ∀ w, (Instr.slice 9 (.string U) none (some (.int .i64 (c : Int))) none).run Try.prog w = .ok (.string S) w := fun w => by
              rw [run_slice_string_h w 9 U Try.underlying9 .i64 c (by omega) (by omega), hS]; rfl
            have hscan := scan_cut C S c j hSl (by have := HU.out.2; omega) (by rw [HCl.out]; omega) (fun b hb => by have h := HC.out; subst h; have := cl_small l0 b hb; omega) (by have := HK.out; omega) hjc.out hend
            have Hscan := Lib.hid hscan; clear hscan hend hS hSl
            have hmf : ∀ (fn : Fn) (first cap : Array Value) (w : World), (Instr.makeFunc fn first cap).run Try.prog w = .ok (.func fn first cap) w := fun _ _ _ _ => rfl
            rcases (by omega : (j < k ∧ ¬ r ≤ c) ∨ j = k) with ⟨hjk, hrc⟩ | hjk
            · obtain ⟨be, oe, hae, hne'⟩ := hld hjk
              subst hae
              have Hr := Lib.hid hr; clear hr hld
              go_wp2_with fail
              refine (scan_torn wr w.heap.size pe m cap0 k ce j a0 _ l0 S hSs (by rw [← HC.out]; exact Hscan.out) hj (by rw [← HC.out]; exact HK.out) Hm.out r4 e1 (by rw [← HC.out]; exact HN.out) (Hat0.out.below R3.out) Hss.out).mono ?_
              rintro e w5 ⟨rfl, q1, q2, q3⟩
              rw [← HC.out]
              obtain ⟨x, hx⟩ : ∃ x, x = (rowF 0 (C.take j)).length := ⟨_, rfl⟩
              obtain ⟨be2, oe2, hae2, hne2⟩ := HN.out j (by rw [endsL_len]; omega)
              rw [endsL_at, ← hx] at hne2
              simp only [Option.some.injEq, Addr.mk.injEq, and_true] at hae2
              have b5 : Below wr.heap.size wr ((wr.alloc (.cells #[.int .i64 0] 3)).alloc (.cells #[.bool true] 4)) := (below_alloc1 _ _).alloc (by simp) _
              have out : ∀ {b o : Nat} {v : Value}, wr.cell? ⟨b, o, none⟩ = some v → w5.cell? ⟨b, o, none⟩ = some v := fun {b o v} h => cell_chg (cell_below h b5) q3 (by have hl : b < wr.heap.size := World.block_lt_of_cell? wr _ h; simp; omega)
              have d1 := (q1.at 0 (by simp)).1
              have d2 := (q2.at 0 (by simp)).1
              simp only [List.getElem_cons_zero] at d1 d2
              have d3 := out e1
              have d4 := out hne2
              have b6 : Below wr.heap.size wr w5 := Chg.below b5 q3 (fun y hy => by simp at hy; omega)
              have BF := Lib.hid (below_on R3.out b6); clear b6
              rw [← hx]
              have HX' := Lib.hid hx; clear hx hne2 q1 q2 q3 b5 out
              obtain ⟨rfl, rfl⟩ := hae2
              go_wp2
              go_ret
              exact ⟨rfl, B0.out.trans (BF.out.mono (by omega))⟩
            · subst hjk
              clear hld hr
              go_wp2_with fail
              refine (scan_torn wr w.heap.size pe m cap0 j ce j a0 _ l0 S hSs (by rw [← HC.out]; exact Hscan.out) hj (by rw [← HC.out]; exact HK.out) Hm.out r4 e1 (by rw [← HC.out]; exact HN.out) (Hat0.out.below R3.out) Hss.out).mono ?_
              rintro e w5 ⟨rfl, q1, q2, q3⟩
              rw [← HC.out]
              obtain ⟨x, hx⟩ : ∃ x, x = (rowF 0 (C.take j)).length := ⟨_, rfl⟩
              obtain ⟨be2, oe2, hae2, hne2⟩ := HN.out j (by rw [endsL_len]; omega)
              rw [endsL_at, ← hx] at hne2
              have b5 : Below wr.heap.size wr ((wr.alloc (.cells #[.int .i64 0] 3)).alloc (.cells #[.bool true] 4)) := (below_alloc1 _ _).alloc (by simp) _
              have out : ∀ {b o : Nat} {v : Value}, wr.cell? ⟨b, o, none⟩ = some v → w5.cell? ⟨b, o, none⟩ = some v := fun {b o v} h => cell_chg (cell_below h b5) q3 (by have hl : b < wr.heap.size := World.block_lt_of_cell? wr _ h; simp; omega)
              have d1 := (q1.at 0 (by simp)).1
              have d2 := (q2.at 0 (by simp)).1
              simp only [List.getElem_cons_zero] at d1 d2
              have d3 := out e1
              have d4 := out hne2
              have b6 : Below wr.heap.size wr w5 := Chg.below b5 q3 (fun y hy => by simp at hy; omega)
              have BF := Lib.hid (below_on R3.out b6); clear b6
              rw [← hx]
              have HX' := Lib.hid hx; clear hx hne2 q1 q2 q3 b5 out
              subst hae2
              go_wp2
              go_ret
              exact ⟨rfl, B0.out.trans (BF.out.mono (by omega))⟩
end Go.Proofs.Ytklpnkfhcaepiaa.segmentTorn
