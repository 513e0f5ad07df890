/-
  Texts put together: W16Sleeps.
-/
import Derived.Test.YtjidcagklakjaaaGreatMp6
import Derived.OpenShut
/-
  The walk of the law WorldSleeps.
-/
open Go Go.RowKit
set_option linter.unusedVariables false
namespace Go.Proofs.YtjidcagklakjaaaGreat.worldSleeps
theorem quiet20 (kind n : Int) (w : World) : Calls Tryz.prog 20 (#[] ++ (#[.int .i64 kind, .int .i64 n] ++ #[])) w fun r w' => r = .returned (.int .i64 0) ∧ Below w.heap.size w w' := by
  show Calls Tryz.prog 20 #[.int .i64 kind, .int .i64 n] w _
  go_enter Tryz.func20, Tryz.ntmps20
  go_wp2
  go_ret
  exact ⟨rfl, Below.refl _ _⟩
/-- How long one sleeps. -/
def tk (z : Int) : Nat := ((bits BinOp.and IntKind.i64 z 255).tmod 30).toNat + 1
theorem tk_of (z : Int) : ∃ k : Nat, (bits BinOp.and IntKind.i64 z 255).tmod 30 = (k : Int) ∧ k < 30 ∧ tk z = k + 1 := by
  obtain ⟨k, h1, h2, -⟩ := small_of z 30 (by omega)
  have h1 : (bits BinOp.and IntKind.i64 z 255).tmod 30 = (k : Int) := h1
  exact ⟨k, h1, h2, by unfold tk; rw [h1]; rfl⟩
def tks (z : List Int) (n : Nat) : List Nat := (z.take n).map tk
theorem tks_bt (z : List Int) (n : Nat) (hn : n ≤ 20) : BT (tks z n) := by
  refine ⟨by unfold tks; rw [List.length_map, List.length_take]; omega, fun t ht => ?_⟩
  obtain ⟨x, -, rfl⟩ := List.mem_map.1 ht
  obtain ⟨k, -, h1, h2⟩ := tk_of x
  omega
theorem cells_of {w : World} {b : Nat} {cs : List Value} (h : Blk w b cs) : CellsAt w (some ⟨b, 0, none⟩) cs := fun j v hj => ⟨b, 0, rfl, by rw [Nat.zero_add]; exact (h j v hj).1⟩
theorem rows_prog {w : World} {a : Option Addr} {cap : Nat} {T : List Nat} {c1 cf : Nat} (h0 : CellsAt w a (i4s (slMain T))) (hn : a = none → cap = 0) (h1 : CellsAt w (some ⟨c1, 0, none⟩) (i4s slKid))
    (hf : CellsAt w (some ⟨cf, 0, none⟩) [.slice a (slMain T).length cap, .slice (some ⟨c1, 0, none⟩) 10 10]) (hT : T.length ≤ 20) :
    ProgIn w (some ⟨cf, 0, none⟩) [(a, cap), (some ⟨c1, 0, none⟩, 10)] (slFs T) none [] none 0 [] := by
  refine ⟨hf, rfl, fun i r l hr hl => ?_, CellsAt.nil _ _, CellsAt.nil _ _, fun _ => rfl, by decide, by show 2 ≤ 1000; omega, by decide⟩
  match i with
  | 0 => simp [slFs] at hr hl; subst hr hl; exact ⟨h0, hn, by rw [slMain_len]; omega⟩
  | 1 => simp [slFs] at hr hl; subst hr hl; exact ⟨h1, (fun h => by cases h), by decide⟩
  | i + 2 => simp at hr
set_option maxRecDepth 100000 in
set_option maxHeartbeats 8000000 in
theorem walk (a0 : Option Addr) (len0 cap0 : Nat) (z0 : List Int) (w : World) (w0 : IsRow .i64 w a0 len0 cap0 z0) :
    Calls Tryz.prog 5 #[.slice a0 len0 cap0] w fun e w' => e = .returned (.bool true) ∧ Below w.heap.size w w' := by
  obtain ⟨hlc, hcm, hzl, hcells⟩ := w0.cells
  clear w0
  obtain ⟨n, hn⟩ : ∃ n : Nat, n = min len0 20 := ⟨_, rfl⟩
  have hmin : (if 20 < (len0 : Int) then 20 else (len0 : Int)) = (n : Int) := by split <;> omega
  have hnl : n ≤ len0 := by omega
  have hn20 : n ≤ 20 := by omega
  obtain ⟨T, hT⟩ : ∃ T, T = tks (z0.take len0) n := ⟨_, rfl⟩
  have hTl : T.length = n := by rw [hT]; unfold tks; rw [List.length_map, List.length_take]; omega
  have hTb : BT T := by rw [hT]; exact tks_bt _ _ hn20
  have hcell : ∀ i, i < n → ∃ b off z, ∃ k : Nat, a0 = some ⟨b, off, none⟩ ∧ w.cell? ⟨b, off + i, none⟩ = some (.int .i64 z) ∧ (bits BinOp.and IntKind.i64 z 255).tmod 30 = (k : Int) ∧ k < 30 ∧ T.getD i 0 = k + 1 := fun i hi => by
    obtain ⟨b, off, h1, h2, -⟩ := hcells i (by omega)
    obtain ⟨k, h3, h4, h5⟩ := tk_of ((z0.take len0)[i]'(by omega))
    refine ⟨b, off, _, k, h1, h2, h3, h4, ?_⟩
    rw [hT, ← h5]
    unfold tks
    rw [List.getD_eq_getElem?_getD, List.getElem?_map, List.getElem?_take, if_pos hi, List.getElem?_eq_getElem (by omega)]
    rfl
  have HC := Lib.hid hcell
  have HTL := Lib.hid hTl
  have HTB := Lib.hid hTb
  clear hcells hcell hT hTl hTb hzl
  obtain ⟨i0, hi0, hz0, hz1, hz2⟩ := info_parts info_ins
  have Hi := Lib.hid hi0; clear hi0
  have Hz0 := Lib.hid hz0; clear hz0
  have Hz1 := Lib.hid hz1; clear hz1
  have Hz2 := Lib.hid hz2; clear hz2
  go_enter Tryz.func5, Tryz.ntmps5
  go_wp2_with fail
  refine (awake16_any _).mono ?_
  rintro e w1 ⟨rfl, hb⟩
  have HB := Lib.hid hb; clear hb
  go_upto_region 4 with fail
  have ho0 : Own w (w1.alloc (.cells #[] 73)) [RowGA 4 (some ⟨w1.heap.size, 0, none⟩) 0 0 []] := (Own.nil HB.out).add (below_alloc1 _ _) (A := RowGA 4 (some ⟨w1.heap.size, 0, none⟩) 0 0 []) (F := [w1.heap.size]) ⟨rfl, RowG.zero (by simp)⟩ (by intro x hx; simp at hx; have := HB.out.size; omega)
  have HO := Lib.hid ho0; clear ho0
  rw [← hn]
  clear hmin hn
  go_wp2_with fail
  go_loopw [4, 24] (fun s iv wr => ∃ i : Nat, ∃ a cap, i ≤ n ∧ iv = .int .i64 i ∧ s = .slice a (2 * i) cap ∧ Hid (Own w wr [RowGA 4 a cap (2 * i) (i4s (slPairs T i))])) (fun _ iv _ => n - (intOf iv).toNat)
  case atStart => exact ⟨0, some ⟨w1.heap.size, 0, none⟩, 0, by omega, rfl, rfl, HO⟩
  case round =>
    obtain ⟨i, a, cap, hi, rfl, rfl, hr⟩ := hrel
    by_cases hlt : i < n
    · have hlt2 : (i : Int) < (n : Int) := by omega
      obtain ⟨tb, tf, z, k, hta, htc, hk1, hk2, hk3⟩ := HC.out i hlt
      subst hta
      have htc2 := cell_below htc hr.out.bel
      have hi0 : (0 : Int) ≤ (i : Int) := by omega
      have hil : (i : Int) < (len0 : Int) := by omega
      have HK3 := Lib.hid hk3
      clear hk3
      go_upto_region 8 with fail
      have H1 := Lib.hid (hr.out.step (below_alloc1 wr (.cells #[.int .i64 1, .int .i64 1, .int .i64 (1 + (k : Int) + 1000 * (i : Int)), .int .i64 0, .int .i64 11, .int .i64 1, .int .i64 1, .int .i64 2] 73)))
      clear hr
      go_wp2_with (at_builtin; go_loud (refine wpList_append_rowG rfl _ _ 70 rfl 73 i0 _ Tryz.underlying70 Hi.out Hz0.out Hz1.out Hz2.out rfl (by decide) (by decide) (n := 2 * i) (m := 2) (cs := i4s (slPairs T i)) (ds := [.int .i64 1, .int .i64 1, .int .i64 (1 + (k : Int) + 1000 * (i : Int)), .int .i64 0, .int .i64 11, .int .i64 1, .int .i64 1, .int .i64 2]) (by rfl) (by rfl) (H1.out.rowG 0 rfl) (CellsAt.new _ [.int .i64 1, .int .i64 1, .int .i64 (1 + (k : Int) + 1000 * (i : Int)), .int .i64 0, .int .i64 11, .int .i64 1, .int .i64 1, .int .i64 2] _ rfl) rfl (by simp [Value.oneCell']) (by omega) ?_))
      intro a9 c9 w9 k9 ch9 f9
      have o2 := Own.rowTurn H1.out k9 ch9 (fun x hx => by simpa using f9 x hx)
      have H2 : Hid (Own w w9 [RowGA 4 a9 c9 (2 * (i + 1)) (i4s (slPairs T (i + 1)))]) := Lib.hid (by
        rw [show 2 * (i + 1) = 2 * i + 2 by omega, slPairs_succ, i4s_app]
        have e : i4s (slPair (T.getD i 0) i) = [.int .i64 1, .int .i64 1, .int .i64 (1 + (k : Int) + 1000 * (i : Int)), .int .i64 0, .int .i64 11, .int .i64 1, .int .i64 1, .int .i64 2] := by
          unfold slPair
          rw [HK3.out, show ((k + 1 : Nat) : Int) + 1000 * (i : Int) = 1 + (k : Int) + 1000 * (i : Int) by omega]; rfl
        rw [e]; exact o2)
      clear o2 k9 ch9 f9 H1
      go_wp2
      exact ⟨⟨i + 1, a9, c9, by omega, by go_num, by rw [show 2 * (i + 1) = 2 * i + 2 by omega], H2⟩, by simp [intOf]; omega⟩
    · obtain rfl : i = n := by omega
      go_upto_region 10 with fail
      clear hlt hi
      have o1 := hr.out.step (below_alloc1 wr (.cells #[.int .i64 12, .int .i64 0, .int .i64 0, .int .i64 0, .int .i64 7, .int .i64 (2 * (i : Int)), .int .i64 0, .int .i64 0] 73))
      have H1 := Lib.hid o1
      clear o1 hr
      go_wp2_with (at_builtin; go_loud (refine wpList_append_rowG rfl _ _ 70 rfl 73 i0 _ Tryz.underlying70 Hi.out Hz0.out Hz1.out Hz2.out rfl (by decide) (by decide) (n := 2 * i) (m := 2) (ds := [.int .i64 12, .int .i64 0, .int .i64 0, .int .i64 0, .int .i64 7, .int .i64 (2 * (i : Int)), .int .i64 0, .int .i64 0]) (by rfl) (by rfl) (H1.out.rowG 0 rfl) (CellsAt.new _ [.int .i64 12, .int .i64 0, .int .i64 0, .int .i64 0, .int .i64 7, .int .i64 (2 * (i : Int)), .int .i64 0, .int .i64 0] _ rfl) rfl (by simp [Value.oneCell']) (by omega) ?_))
      intro a9 c9 w9 k9 ch9 f9
      have o2 := Own.rowTurn H1.out k9 ch9 (fun x hx => by simpa using f9 x hx)
      have H2 : Hid (Own w w9 [RowGA 4 a9 c9 (2 * i + 2) (i4s (slMain T))]) := Lib.hid (by
        unfold slMain
        rw [i4s_app, HTL.out]; exact o2)
      clear o2 k9 ch9 f9 H1
      go_upto_region 12 with fail
      have o3 : Own w ((w9.alloc (.cells #[.int .i64 1, .int .i64 1, .int .i64 1000, .int .i64 0, .int .i64 6, .int .i64 2, .int .i64 0, .int .i64 1, .int .i64 8, .int .i64 2, .int .i64 7, .int .i64 0, .int .i64 4, .int .i64 0, .int .i64 0, .int .i64 1, .int .i64 1, .int .i64 4, .int .i64 1, .int .i64 0, .int .i64 3, .int .i64 3, .int .i64 3, .int .i64 4, .int .i64 7, .int .i64 1, .int .i64 0, .int .i64 0, .int .i64 17, .int .i64 0, .int .i64 0, .int .i64 0, .int .i64 20, .int .i64 3, .int .i64 0, .int .i64 0, .int .i64 10, .int .i64 0, .int .i64 0, .int .i64 0] 73)).alloc (.cells #[.slice a9 (2 * i + 2) c9, .slice (some ⟨w9.heap.size, 0, none⟩) 10 10] 70)) [CelA (w9.heap.size + 1) [.slice a9 (2 * i + 2) c9, .slice (some ⟨w9.heap.size, 0, none⟩) 10 10], CelA w9.heap.size [.int .i64 1, .int .i64 1, .int .i64 1000, .int .i64 0, .int .i64 6, .int .i64 2, .int .i64 0, .int .i64 1, .int .i64 8, .int .i64 2, .int .i64 7, .int .i64 0, .int .i64 4, .int .i64 0, .int .i64 0, .int .i64 1, .int .i64 1, .int .i64 4, .int .i64 1, .int .i64 0, .int .i64 3, .int .i64 3, .int .i64 3, .int .i64 4, .int .i64 7, .int .i64 1, .int .i64 0, .int .i64 0, .int .i64 17, .int .i64 0, .int .i64 0, .int .i64 0, .int .i64 20, .int .i64 3, .int .i64 0, .int .i64 0, .int .i64 10, .int .i64 0, .int .i64 0, .int .i64 0], RowGA 4 a9 c9 (2 * i + 2) (i4s (slMain T))] :=
        (H2.out.alloc _ 73 rfl).alloc _ 70 (by simp)
      have hP := rows_prog (o3.rowG 2 rfl).cells (o3.rowG 2 rfl).none0 (cells_of (o3.cel 1 rfl)) (by rw [slMain_len, HTL.out]; exact cells_of (o3.cel 0 rfl)) HTB.out.1
      have HP := Lib.hid hP; clear hP
      have HB3 := Lib.hid o3.bel
      clear o3 H2 HO
      go_wp2_with fail
      generalize ((w9.alloc (.cells #[.int .i64 1, .int .i64 1, .int .i64 1000, .int .i64 0, .int .i64 6, .int .i64 2, .int .i64 0, .int .i64 1, .int .i64 8, .int .i64 2, .int .i64 7, .int .i64 0, .int .i64 4, .int .i64 0, .int .i64 0, .int .i64 1, .int .i64 1, .int .i64 4, .int .i64 1, .int .i64 0, .int .i64 3, .int .i64 3, .int .i64 3, .int .i64 4, .int .i64 7, .int .i64 1, .int .i64 0, .int .i64 0, .int .i64 17, .int .i64 0, .int .i64 0, .int .i64 0, .int .i64 20, .int .i64 3, .int .i64 0, .int .i64 0, .int .i64 10, .int .i64 0, .int .i64 0, .int .i64 0] 73)).alloc (.cells #[.slice a9 (2 * i + 2) c9, .slice (some ⟨w9.heap.size, 0, none⟩) 10 10] 70)) = w13 at *
      generalize w9.heap.size + 1 = cf at *
      generalize w9.heap.size = c1 at *
      refine (new_w w13 (some ⟨cf, 0, none⟩) 2 _ (slFs T) none 0 [] 0 none 0 [] HP.out (by decide)).mono ?_
      rintro r w14 ⟨b, rfl, ho⟩
      have HW : Hid (Own w13 w14 [WldA b (runK (slW T) 0 0) []]) := Lib.hid ho
      clear ho HP
      have en : ∀ (args : Array Value) (w : World), (callFunc 20 args).run Tryz.prog w = .ok (.enter 20 args) w := fun _ _ => by kernel_rfl
      have EN := Lib.hid en; clear en
      go_wp2_with fail
      go_loopw [68] (fun kv wr => ∃ k : Nat, k ≤ 2 * i ∧ kv = .int .i64 k ∧ Hid (Own w13 wr [WldA b (runK (slW T) 0 k) []])) (fun kv _ => 2 * i - (intOf kv).toNat)
      case atStart => exact ⟨0, by omega, rfl, HW⟩
      case round =>
        obtain ⟨k, hk, rfl, hr⟩ := hrel
        by_cases hlt : k < 2 * i
        · have hlt2 : (k : Int) < 2 * (i : Int) := by omega
          have HX := Lib.hid (exec_q hr.out (sl1_wf T HTB.out.1 k (by omega)).1 (by omega) 0 EN.out 0 quiet20)
          clear hr
          go_wp2_with fail
          refine HX.out.mono ?_
          rintro r w2 ⟨ra, rc, rfl, ho⟩
          have HF : Hid (Own w13 w2 [WldA b (runK (slW T) 0 (k + 1)) []]) := Lib.hid ho.drop
          clear ho HX
          go_wp2
          exact ⟨⟨k + 1, by omega, by go_num, HF⟩, by simp [intOf]; omega⟩
        · obtain rfl : k = 2 * i := by omega
          have HR : Hid (Own w13 wr [WldA b (slS T 0) []]) := Lib.hid (by
            have h := hr.out
            rw [← HTL.out, slA_run T HTB.out.1 T.length (Nat.le_refl _), ← slS_0] at h
            exact h)
          clear hr HW hlt hk
          rw [show ((2 * i : Nat) : Int) = 2 * (i : Int) by omega]
          go_wp2_with fail
          go_loopw [9] (fun gv wr => ∃ g : Nat, g ≤ i ∧ gv = .int .i64 ((g : Int) + 1) ∧ Hid (Own w13 wr [WldA b (slS T g) []])) (fun gv _ => i + 1 - (intOf gv).toNat)
          case atStart => exact ⟨0, by omega, rfl, HR⟩
          case round =>
            obtain ⟨g, hg, rfl, hr⟩ := hrel
            by_cases hlt : g < i
            · have hlt2 : (g : Int) + 1 ≤ (i : Int) := by omega
              go_wp2_with fail
              have HG : Hid (Own w13 wr [WldA b (runK (slS T g) ((g : Int) + 1) 0) []]) := hr
              clear hr
              go_loopw [79] (fun kv wq => ∃ k : Nat, k ≤ 300 ∧ kv = .int .i64 k ∧ Hid (Own w13 wq [WldA b (runK (slS T g) ((g : Int) + 1) k) []])) (fun kv _ => 300 - (intOf kv).toNat)
              case atStart => exact ⟨0, by omega, rfl, HG⟩
              case round =>
                obtain ⟨k, hk, rfl, hr⟩ := hrel
                by_cases hlt3 : k < 300
                · have hlt4 : (k : Int) < 300 := by omega
                  have HX := Lib.hid (exec_q hr.out (sl2_wf HTB.out g k (by rw [HTL.out]; omega) (fun _ => by omega) (fun h => by rw [HTL.out] at h; omega)).1 (by omega) ((g : Int) + 1) EN.out 0 quiet20)
                  clear hr
                  go_wp2_with fail
                  refine HX.out.mono ?_
                  rintro r w3 ⟨ra, rc, rfl, ho⟩
                  have HF : Hid (Own w13 w3 [WldA b (runK (slS T g) ((g : Int) + 1) (k + 1)) []]) := Lib.hid ho.drop
                  clear ho HX
                  go_wp2
                  exact ⟨⟨k + 1, by omega, by go_num, HF⟩, by simp [intOf]; omega⟩
                · obtain rfl : k = 300 := by omega
                  have HF : Hid (Own w13 wr [WldA b (slS T (g + 1)) []]) := Lib.hid (by
                    have h := hr.out
                    rw [sl_step T HTB.out.1 HTB.out.2 g (by rw [HTL.out]; exact hlt)] at h
                    exact h)
                  clear hr
                  go_wp2
                  exact ⟨⟨g + 1, by omega, by go_num, HF⟩, by simp [intOf]; omega⟩
            · obtain rfl : g = i := by omega
              have HR2 : Hid (Own w13 wr [WldA b (slC T 0) []]) := Lib.hid (by
                have h := hr.out
                rw [← HTL.out] at h
                exact h)
              clear hr HR hlt hg
              go_wp2_with fail
              go_loopw [86] (fun mv wr => ∃ m : Nat, m ≤ 31 ∧ mv = .int .i64 m ∧ Hid (Own w13 wr [WldA b (slC T m) []])) (fun mv _ => 31 - (intOf mv).toNat)
              case atStart => exact ⟨0, by omega, rfl, HR2⟩
              case round =>
                obtain ⟨m, hm, rfl, hr⟩ := hrel
                by_cases hlt5 : m < 31
                · have hlt6 : (m : Int) < 31 := by omega
                  have HX := Lib.hid (tick_w hr.out (slC_wf HTB.out m (by omega)).1 (by omega))
                  have hid := slC_ids HTB.out m
                  obtain ⟨ids, hids⟩ : ∃ ids, ids = (tickM (slC T m)).2 := ⟨_, rfl⟩
                  rw [← hids] at HX hid
                  obtain ⟨N, hN⟩ : ∃ N, N = ids.length := ⟨_, rfl⟩
                  rw [← hN] at HX hid
                  have HID := Lib.hid hids; clear hids
                  have HN := Lib.hid hN; clear hN
                  clear hr
                  go_wp2_with fail
                  refine HX.out.mono ?_
                  rintro r w3 ⟨ra, rc, rfl, ho⟩
                  have HF : Hid (Own w13 w3 [RowGA 1 ra rc N (intc ids), WldA b (tellA (tickM (slC T m)).1 (ids.take 0)) []]) := Lib.hid ho
                  clear ho HX
                  go_wp2_with fail
                  go_loopw [91] (fun jv wq => ∃ j : Nat, j ≤ N ∧ jv = .int .i64 j ∧ Hid (Own w13 wq [RowGA 1 ra rc N (intc ids), WldA b (tellA (tickM (slC T m)).1 (ids.take j)) []])) (fun jv _ => N - (intOf jv).toNat)
                  case atStart => exact ⟨0, by omega, rfl, HF⟩
                  case round =>
                    obtain ⟨j, hj, rfl, hr⟩ := hrel
                    by_cases hlt7 : j < N
                    · have hlt8 : (j : Int) < (N : Int) := by omega
                      have hj0 : (0 : Int) ≤ (j : Int) := by omega
                      have hjl : j < ids.length := by rw [← HN.out]; exact hlt7
                      obtain ⟨x, hx⟩ : ∃ x, x = ids[j] := ⟨_, rfl⟩
                      obtain ⟨rb, ro, hra, hcel⟩ := (hr.out.rowG 0 rfl).cells j (.int .i64 x) (by rw [intc_get, List.getElem?_eq_getElem hjl, hx]; rfl)
                      subst hra
                      have hsn : ids.take (j + 1) = ids.take j ++ [x] := by rw [List.take_succ_eq_append_getElem hjl, hx]
                      have HSN := Lib.hid hsn
                      have HWF := Lib.hid (fun (k : Nat) (hk : k ≤ 2) => slD_wf HTB.out m j k (by omega) (by rw [← HID.out, ← HN.out]; omega) hk x)
                      rw [← HID.out] at HWF
                      have HX := Lib.hid (exec_q (hr.out.pick 1 rfl) (HWF.out 0 (by omega)) (by omega) x EN.out 0 quiet20)
                      clear hx hsn hjl hr
                      go_wp2_with fail
                      refine HX.out.mono ?_
                      rintro r w4 ⟨r1, c1, rfl, ho⟩
                      have hb4 := hcel
                      have HX2 := Lib.hid (exec_q (W := runK (tellA (tickM (slC T m)).1 (ids.take j)) x 1) ho.drop (HWF.out 1 (by omega)) (by omega) x EN.out 0 quiet20)
                      clear ho HX
                      go_wp2_with fail
                      refine HX2.out.mono ?_
                      rintro r w5 ⟨r2, c2, rfl, ho⟩
                      have HF2 : Hid (Own w13 w5 [RowGA 1 (some ⟨rb, ro, none⟩) rc N (intc ids), WldA b (tellA (tickM (slC T m)).1 (ids.take (j + 1))) []]) := Lib.hid (by
                        rw [HSN.out, tellA_snoc]
                        exact ho.drop.pick 1 rfl)
                      clear ho HX2
                      go_wp2
                      exact ⟨⟨j + 1, by omega, by go_num, HF2⟩, by simp [intOf]; omega⟩
                    · obtain rfl : j = N := by omega
                      have HF3 : Hid (Own w13 wr [WldA b (slC T (m + 1)) []]) := Lib.hid (by
                        have h := hr.out.drop
                        rw [HN.out, List.take_length, HID.out] at h
                        exact h)
                      clear hr
                      go_wp2
                      exact ⟨⟨m + 1, by omega, by go_num, HF3⟩, by simp [intOf]; omega⟩
                · obtain rfl : m = 31 := by omega
                  obtain ⟨K, hK⟩ := slF_of HTB.out
                  have HK := Lib.hid hK
                  have HOUT := Lib.hid (out_w hr.out (slC_wf HTB.out 31 (by omega)).1)
                  have hol : (slC T 31).out.length = g := by rw [HK.out.out, List.length_map, HK.out.len, HTL.out]
                  rw [hol] at HOUT
                  clear hol hK hlt5 hm HR2
                  go_wp2_with fail
                  refine HOUT.out.mono ?_
                  rintro r w3 ⟨oa, oc, rfl, hrow, -, hb⟩
                  have HR3 := Lib.hid (hr.out.step hb)
                  have HROW := Lib.hid (hrow.cells)
                  clear hr hrow hb HOUT
                  go_upto_region 36 with fail
                  have hKl : K.length = g := by rw [HK.out.len, HTL.out]
                  have HKL := Lib.hid hKl; clear hKl
                  have HIT := Lib.hid (fun (k : Nat) (hk : k < g) => (by
                    have hk2 : k < K.length := by rw [HKL.out]; exact hk
                    obtain ⟨j, hj, e⟩ := HK.out.it K[k] (List.getElem_mem hk2)
                    rw [HTL.out] at hj
                    obtain ⟨tb, tf, z, q, h1, h2, h3, h4, h5⟩ := HC.out j hj
                    have h2' := cell_below h2 (below_on HB3.out HR3.out.bel)
                    obtain ⟨ob, of, h6, h7⟩ := HROW.out k (.int .i64 (j : Int)) (by rw [HK.out.out, intc_get, List.getElem?_map, List.getElem?_eq_getElem hk2, e]; rfl)
                    exact ⟨j, tb, tf, z, q, ob, of, by rw [gI_of hk2, e], hj, h1, h2', h3, h4, h5, h6, h7⟩ : ∃ (j tb tf : Nat) (z : Int) (q ob of : Nat), gI K k = slIt T j ∧ j < g ∧ a0 = some ⟨tb, tf, none⟩ ∧ w3.cell? ⟨tb, tf + j, none⟩ = some (.int .i64 z) ∧ (bits BinOp.and IntKind.i64 z 255).tmod 30 = (q : Int) ∧ q < 30 ∧ T.getD j 0 = q + 1 ∧ oa = some ⟨ob, of, none⟩ ∧ w3.cell? ⟨ob, of + k, none⟩ = some (.int .i64 (j : Int))))
                  have HSL := Lib.hid (sleepers_0 HR3.out HK.out.hp)
                  have HB4 := Lib.hid (below_on HB3.out HR3.out.bel)
                  clear HR3 HROW
                  go_wp2_with fail
                  go_loopw [13, 109] (fun lv iv wr => ∃ k : Nat, k ≤ g ∧ iv = .int .i64 k ∧ lv = .int .i64 (if k = 0 then -1 else (gI K (k - 1)).at_) ∧ wr = w3) (fun _ iv _ => g - (intOf iv).toNat)
                  case atStart => exact ⟨0, by omega, rfl, rfl, rfl⟩
                  case round =>
                    obtain ⟨k, hk, rfl, rfl, rfl⟩ := hrel
                    by_cases hlt9 : k < g
                    · have hlt10 : (k : Int) < (g : Int) := by omega
                      have hk0 : (0 : Int) ≤ (k : Int) := by omega
                      obtain ⟨j, tb, tf, z, q, ob, of, e1, hj, e2, e3, e4, e5, e6, e7, e8⟩ := HIT.out k hlt9
                      subst e2 e7
                      have hj0 : (0 : Int) ≤ (j : Int) := by omega
                      have hjl : (j : Int) < (len0 : Int) := by omega
                      have hat : (gI K k).at_ = 1 + (q : Int) := by rw [e1]; unfold slIt; rw [e6]; simp only; omega
                      have HAT := Lib.hid hat
                      rcases Nat.eq_zero_or_pos k with hz | hz
                      · subst hz
                        rw [if_pos rfl]
                        have hc1 : ¬ (1 + (q : Int) < -1) := by omega
                        rw [Nat.add_zero] at e8
                        clear e1 e6 hat
                        go_wp2
                        exact ⟨⟨1, by omega, rfl, by rw [if_neg (by omega), Nat.sub_self, HAT.out], trivial⟩, by simp [intOf]; omega⟩
                      · obtain ⟨k', rfl⟩ : ∃ k', k = k' + 1 := ⟨k - 1, by omega⟩
                        rw [if_neg (by omega), Nat.add_sub_cancel]
                        have hkl : k' + 1 < K.length := by rw [HKL.out]; exact hlt9
                        have hord := List.pairwise_iff_getElem.1 HK.out.ord k' (k' + 1) (by omega) hkl (by omega)
                        rw [← gI_of (by omega), ← gI_of hkl, ltI_iff] at hord
                        obtain ⟨j', tb', tf', z', q', ob', of', x1, xj, x2, x3, x4, x5, x6, x7, x8⟩ := HIT.out k' (by omega)
                        simp only [Option.some.injEq, Addr.mk.injEq, and_true] at x7
                        obtain ⟨rfl, rfl⟩ := x7
                        have hsq : (gI K (k' + 1)).seq = (j : Int) := by rw [e1]; rfl
                        have hsq' : (gI K k').seq = (j' : Int) := by rw [x1]; rfl
                        rw [hat, hsq, hsq'] at hord
                        generalize (gI K k').at_ = pt at *
                        have hk1 : (0 : Int) < (k' : Int) + 1 := by omega
                        have hk0' : (0 : Int) ≤ (k' : Int) := by omega
                        have hkg : (k' : Int) < (g : Int) := by omega
                        clear e1 e6 hat hkl x1 x2 x3 x4 x5 x6 hsq hsq' hk0 xj
                        rcases hord with h1 | ⟨h1, h2⟩
                        · have hc1 : ¬ (1 + (q : Int) < pt) := by omega
                          have hc2 : (1 + (q : Int) == pt) = false := by rw [beq_eq_false_iff_ne]; omega
                          clear h1
                          go_wp2
                          exact ⟨⟨k' + 2, by omega, by go_num, by rw [if_neg (by omega), show k' + 2 - 1 = k' + 1 by omega, HAT.out], trivial⟩, by simp [intOf]; omega⟩
                        · subst h1
                          have hc1 : ¬ ((j : Int) ≤ (j' : Int)) := by omega
                          clear h2
                          go_wp2
                          exact ⟨⟨k' + 2, by omega, by go_num, by rw [if_neg (by omega), show k' + 2 - 1 = k' + 1 by omega, HAT.out], trivial⟩, by simp [intOf]; omega⟩
                    · obtain rfl : k = g := by omega
                      clear HIT
                      generalize (if k = 0 then (-1 : Int) else (gI K (k - 1)).at_) = lv at *
                      go_wp2_with (go_at_call 22; refine HSL.out.mono ?_; rintro r w4 ⟨sa, sc, rfl, hb⟩)
                      have HB5 := Lib.hid (below_on HB4.out hb)
                      clear hb HSL
                      go_wp2
                      go_ret
                      exact ⟨rfl, HB5.out⟩
end Go.Proofs.YtjidcagklakjaaaGreat.worldSleeps
