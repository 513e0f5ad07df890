/-
  A program's text, written.
-/
import Derived.Test.YtdeilfnfpgjnnaaDoorAsT1
import Derived.Test.YtdeilfnfpgjnnaaDoorAsW10
import Derived.Deep.CutBlock
open Go Go.RowKit
set_option linter.unusedVariables false
set_option linter.unusedSimpArgs false
namespace Go.Proofs.YtdeilfnfpgjnnaaDoor
def tx (ls : List By) : By := ls.flatMap (· ++ [10])
theorem tx_cons (l : By) (ls : List By) : tx (l :: ls) = (l ++ [10]) ++ tx ls := by unfold tx; rw [List.flatMap_cons]
theorem tx_app (a b : List By) : tx (a ++ b) = tx a ++ tx b := by unfold tx; rw [List.flatMap_append]
/-- What is written, and what is still to be. -/
def St (B : Nat) (W0 : World) (T : By) (wr : World) (v : Value) (rest : By) : Prop := ∃ t, Byt B wr v t ∧ t ++ rest = T ∧ Below B W0 wr ∧ Kept W0 wr
theorem NoB.new {w : World} {cs : Array Value} {t : TypeId} (ht : t ≠ 5) {b : Nat} (hb : b = w.heap.size) : NoB (w.alloc (.cells cs t)) (some ⟨b, 0, none⟩) := fun x hx => by
  simp [blk] at hx
  subst hx hb
  exact ⟨.cells cs t, Array.getElem?_push_size, fun c fz e => ht (by cases e; rfl)⟩
theorem kept_alloc (w : World) (o : Obj) : Kept w (w.alloc o) := (Lib.OthersKept.refl _ _ w).alloc o
theorem own_below {w w' : World} {B e size n : Nat} {v : Value} {xs : List Value} (h : w.ownsRow B e size v n xs) (hb : Below w.heap.size w w') : w'.ownsRow B e size v n xs := by
  refine ⟨h.1, ?_⟩
  rcases h.2 with h0 | ⟨g, cap, cur, hv, hbg, hg, hr⟩
  · exact .inl h0
  · exact .inr ⟨g, cap, cur, hv, hbg, by rw [hb.block g (Array.getElem?_eq_some_iff.1 hg).1]; exact hg, hr⟩
theorem St.step {B : Nat} {W0 wr w' : World} {T : By} {v : Value} {rest : By} (h : St B W0 T wr v rest) (hB : B ≤ W0.heap.size) (hb : Below wr.heap.size wr w') : St B W0 T w' v rest := by
  obtain ⟨t, h1, h2, h3, h4⟩ := h
  refine ⟨t, ?_, h2, h3.trans (hb.mono (by have := h3.size; omega)), h4.trans (fun k o hk _ _ => ?_)⟩
  · exact own_below h1 hb
  · rw [hb.block k (Array.getElem?_eq_some_iff.1 hk).1]; exact hk
theorem al_st (B : Nat) (W0 : World) (T : By) (v : Value) (rest wd : By) (ns : List Int) (a : Option Addr) (cap : Nat) (w : World) (hB : B ≤ W0.heap.size) (htab : Lib.TabBelow Tryd.prog B W0 "internal/strconv.uint64pow10" .u64 Lib.pow10Tab)
    (hT : T.length ≤ 1000000) (hw : wd.length ≤ 1000) (hn : ns.length ≤ 1000) (hf : ∀ v ∈ ns, i64b v) (hs : St B W0 T w v ((lineT wd ns ++ [10]) ++ rest)) (hat : CellsAt w a (intc ns)) (hk : NoB w a) :
    Calls Tryd.prog 17 #[v, .string (bs wd), .slice a ns.length cap] w fun e w' => ∃ v', e = .returned v' ∧ St B W0 T w' v' rest ∧ Kept w w' := by
  obtain ⟨t, h1, h2, h3, h4⟩ := hs
  have hl : t.length ≤ T.length := by rw [← h2, List.length_append]; omega
  refine (al_any B v t wd ns a cap w h1 (by have := h3.size; omega) (by omega) hn hf hat hk (htab.on h3)).mono ?_
  rintro e w' ⟨v', rfl, h5, h6, h7⟩
  exact ⟨v', rfl, ⟨_, h5, by rw [← h2]; simp, h3.trans h6, h4.trans h7⟩, h7⟩
theorem CellsAt.takeInt {w : World} {a : Option Addr} {l : List Int} (h : CellsAt w a (intc l)) (n : Nat) : CellsAt w a (intc (l.take n)) := fun j v hj => h j v (by
  have e : intc (l.take n) = (intc l).take n := by unfold intc; rw [List.map_take]
  rw [e] at hj
  by_cases hjn : j < n
  · rwa [List.getElem?_take_of_lt hjn] at hj
  · rw [List.getElem?_take_eq_none (by omega)] at hj; simp at hj)
theorem tabc_at (L : List (By × Nat)) (k : Nat) (h : k < L.length) : (tabc L)[k * 2]? = some (str (L.getD k ([], 0)).1) ∧ (tabc L)[k * 2 + 1]? = some (.int .i64 ((L.getD k ([], 0)).2 : Int)) := by
  have e : L.getD k ([], 0) = L[k] := by rw [List.getD_eq_getElem?_getD, List.getElem?_eq_getElem h]; rfl
  rw [e]
  have h0 := flat_at (fun x : By × Nat => [str x.1, .int .i64 (x.2 : Int)]) 2 (fun _ => rfl) L k 0 h (by omega)
  have h1 := flat_at (fun x : By × Nat => [str x.1, .int .i64 (x.2 : Int)]) 2 (fun _ => rfl) L k 1 h (by omega)
  exact ⟨h0, h1⟩
theorem byt_conv {B : Nat} {w : World} {v : Value} {l : By} (h : Byt B w v l) : (convert 53 9 v).run Tryd.prog w = .ok (.string (bs l)) w := by
  rcases h.2 with ⟨rfl, hn⟩ | ⟨g, cap, cur, rfl, hb, hg, _⟩
  · obtain rfl : l = [] := List.eq_nil_of_length_eq_zero hn
    rw [run_convert_bytes_string w 53 9 5 none 0 0 Tryd.underlying53 Tryd.underlying5 Tryd.underlying9]
    rfl
  · exact run_convert_bytes_back (P := Tryd.prog) w 53 9 5 ⟨g, 0, none⟩ cap l Tryd.underlying53 Tryd.underlying5 Tryd.underlying9 (fun j hj => World.ownsRow.cells h (g := g) rfl j _ (u8c_at l j hj))
set_option maxRecDepth 100000 in
set_option maxHeartbeats 8000000 in
theorem text_any (d : PD) (fa : Option Addr) (fc : Nat) (ca : Option Addr) (cc : Nat) (ka : Option Addr) (kc : Nat) (w : World) (hg : GlA w) (hd : PTidy d) (hp : PAt w fa ca ka d) (hT : (textM d).length ≤ 1000000) (hln : d.cs.length ≤ 1000000 ∧ d.ks.length ≤ 1000000 ∧ d.fs.length ≤ 1000000 ∧ ∀ f ∈ d.fs, f.length ≤ 1000000) :
    Calls Tryd.prog 9 #[pv fa d.fs.length fc ca d.cs.length cc d.lk ka d.ks.length kc] w fun e w' => e = .returned (.string (bs (textM d))) ∧ Below w.heap.size w w' := by
  obtain ⟨fs, cs, lk, ks⟩ := d
  obtain ⟨B, hB⟩ : ∃ B, B = w.heap.size := ⟨_, rfl⟩
  obtain ⟨W0, hW0⟩ : ∃ W0, W0 = w.alloc (.cells #[.slice fa fs.length fc, .slice ca cs.length cc, .int .i64 lk, .slice ka ks.length kc] 33) := ⟨_, rfl⟩
  have hb0 : Below w.heap.size w W0 := by rw [hW0]; exact below_alloc1 _ _
  have hg0 := hg.below hb0
  have hbx : CellsAt W0 (some ⟨B, 0, none⟩) [.slice fa fs.length fc, .slice ca cs.length cc, .int .i64 lk, .slice ka ks.length kc] := by rw [hW0]; exact CellsAt.new _ _ _ hB
  have hnx : NoB W0 (some ⟨B, 0, none⟩) := by rw [hW0]; exact NoB.new (by decide) hB
  have htab : Lib.TabBelow Tryd.prog B W0 "internal/strconv.uint64pow10" .u64 Lib.pow10Tab := fun w' hb => Lib.tabBelow_of_tabIs hg.pw w' (hb0.trans (hB ▸ hb))
  have hT2 : textM ⟨fs, cs, lk, ks⟩ = tx (cs.map (fun c => lineT wChan [c])) ++ (tx (if 0 < lk then [lineT wLocks [lk]] else []) ++ (tx (ks.map casT) ++ tx (fs.flatMap funT))) := by
    show tx (progT _) = _
    unfold progT
    rw [tx_app, tx_app, tx_app]
  obtain ⟨T, hTT⟩ : ∃ T, textM ⟨fs, cs, lk, ks⟩ = T := ⟨_, rfl⟩
  rw [hTT] at hT hT2 ⊢
  have hst : St B W0 T W0 (.slice none 0 0) (tx ((cs.drop 0).map (fun c => lineT wChan [c])) ++ (tx (if 0 < lk then [lineT wLocks [lk]] else []) ++ (tx (ks.map casT) ++ tx (fs.flatMap funT)))) :=
    ⟨[], World.ownsRow_nil _ _ _ _, hT2.symm, Below.refl _ _, Lib.OthersKept.refl _ _ _⟩
  obtain ⟨hd1, hd2, hd3, hd4, hd5⟩ := hd
  simp only at hd1 hd2 hd3 hd4 hd5
  unfold pv
  simp only
  have HB0 : Hid (B ≤ W0.heap.size) := Lib.hid (by have := hb0.size; omega)
  have HAL : Hid (∀ (v : Value) (rest wd : By) (ns : List Int) (a : Option Addr) (n cap : Nat) (wr : World), n = ns.length → wd.length ≤ 1000 → ns.length ≤ 1000 → (∀ v ∈ ns, i64b v) → St B W0 T wr v ((lineT wd ns ++ [10]) ++ rest) → CellsAt wr a (intc ns) → NoB wr a →
      Calls Tryd.prog 17 #[v, .string (bs wd), .slice a n cap] wr fun e w' => ∃ v', e = .returned v' ∧ St B W0 T w' v' rest ∧ Kept wr w') :=
    Lib.hid fun v rest wd ns a n cap wr hn hw h1 h2 h3 h4 h5 => by subst hn; exact al_st B W0 T v rest wd ns a cap wr HB0.out htab hT hw h1 h2 h3 h4 h5
  have HX : Hid (∀ wr, Kept W0 wr → wr.cell? ⟨B, 0, none⟩ = some (.slice fa fs.length fc) ∧ wr.cell? ⟨B, 1, none⟩ = some (.slice ca cs.length cc) ∧ wr.cell? ⟨B, 2, none⟩ = some (.int .i64 lk) ∧ wr.cell? ⟨B, 3, none⟩ = some (.slice ka ks.length kc)) := Lib.hid fun wr k => by
    have h := hbx.kept hnx k
    obtain ⟨_, _, e0, h0⟩ := h 0 _ rfl
    obtain ⟨_, _, e1, h1⟩ := h 1 _ rfl
    obtain ⟨_, _, e2, h2⟩ := h 2 _ rfl
    obtain ⟨_, _, e3, h3⟩ := h 3 _ rfl
    cases e0; cases e1; cases e2; cases e3
    simpa using And.intro h0 (And.intro h1 (And.intro h2 h3))
  have HPA : Hid (∀ wr, Below B W0 wr → PAt wr fa ca ka ⟨fs, cs, lk, ks⟩ ∧ GlA wr) := Lib.hid fun wr b => ⟨hp.below (hb0.trans (hB ▸ b)), hg.below (hb0.trans (hB ▸ b))⟩
  have HFU : Hid (∀ i (h : i < fs.length), ∃ b off a' c', fa = some ⟨b, off, none⟩ ∧ ∀ wx, Below B W0 wx → wx.cell? ⟨b, off + i, none⟩ = some (.slice a' fs[i].length c') ∧ InsAt wx a' fs[i]) := Lib.hid fun i h => by
    obtain ⟨b, off, a', c', e1, h0, h1⟩ := hp.1 i h
    exact ⟨b, off, a', c', e1, fun wx hx => ⟨cell_below h0 (hb0.trans (hB ▸ hx)), h1.below (hb0.trans (hB ▸ hx))⟩⟩
  have HST := Lib.hid hst
  have HD := Lib.hid (And.intro hd1 (And.intro hd2 (And.intro hd3 (And.intro hd4 hd5))))
  have HBB := Lib.hid (And.intro hB hb0)
  have HW0 := Lib.hid hW0
  obtain ⟨nc, hnc⟩ : ∃ n, cs.length = n := ⟨_, rfl⟩
  obtain ⟨nk, hnk⟩ : ∃ n, ks.length = n := ⟨_, rfl⟩
  obtain ⟨nf, hnf⟩ : ∃ n, fs.length = n := ⟨_, rfl⟩
  simp only at hln
  rw [hnc, hnk, hnf] at hln HX HW0 ⊢
  obtain ⟨hlc, hlk, hlf, hli⟩ := hln
  have HLI := Lib.hid hli
  have HN := Lib.hid (And.intro hnc (And.intro hnk hnf))
  have hx1 := (HX.out W0 (Lib.OthersKept.refl _ _ _)).2.1
  clear hg hd1 hd2 hd3 hd4 hd5 hp hT hB hW0 hb0 hg0 hbx hnx htab hT2 hTT hst hnc hnk hnf hli
  go_enter Tryd.func9, Tryd.ntmps9
  go_upto_region 2 with fail
  rw [← HW0.out, ← HBB.out.1]
  go_wp2_with fail
  clear hx1
  go_loopw [3, 19] (fun v c wr => ∃ i : Nat, i ≤ nc ∧ c = .int .i64 (i : Int) ∧ Hid (St B W0 T wr v (tx ((cs.drop i).map (fun c => lineT wChan [c])) ++ (tx (if 0 < lk then [lineT wLocks [lk]] else []) ++ (tx (ks.map casT) ++ tx (fs.flatMap funT)))))) (fun _ c _ => nc - (intOf c).toNat)
  case atStart => exact ⟨0, by omega, rfl, HST⟩
  case round =>
    obtain ⟨i, hi, rfl, HR⟩ := hrel
    clear HST
    by_cases hlt : i < nc
    · have hic : i < cs.length := by rw [HN.out.1]; exact hlt
      obtain ⟨_, _, _, hbe, hke⟩ := HR.out
      obtain ⟨b, off, e1, h1⟩ := (HPA.out wr hbe).1.2.1 i hic
      subst e1
      have hst2 := HR.out
      rw [List.drop_eq_getElem_cons hic, List.map_cons, tx_cons, List.append_assoc] at hst2
      have hci := HD.out.1 _ (List.getElem_mem hic)
      generalize cs[i] = c at *
      have hal := HAL.out u3 _ wChan [c] (some ⟨wr.heap.size, 0, none⟩) 1 1 (wr.alloc (.cells #[.int .i64 c] 3)) rfl (by decide) (by simp) (fun v hv => by simp at hv; subst hv; exact hci) (hst2.step HB0.out (below_alloc1 _ _)) (CellsAt.new _ (intc [c]) _ rfl) (NoB.new (by decide) rfl)
      have HA := Lib.hid hal
      clear hst2 hal hci hbe hke hic
      go_wp2_with fail
      refine HA.out.mono ?_
      rintro e w2 ⟨v2, rfl, h2, _⟩
      have H2 := Lib.hid h2
      clear h2 HA
      go_wp2_with fail
      exact ⟨⟨i + 1, by omega, by go_num, H2⟩, by simp [intOf]; omega⟩
    · obtain rfl : i = nc := by omega
      have HR1 : Hid (St B W0 T wr u3 (tx (if 0 < lk then [lineT wLocks [lk]] else []) ++ (tx (ks.map casT) ++ tx (fs.flatMap funT)))) := Lib.hid (by
        have h := HR.out
        rw [← HN.out.1, List.drop_length] at h
        exact h)
      clear HR
      obtain ⟨hx2, hx3⟩ : wr.cell? ⟨B, 2, none⟩ = some (.int .i64 lk) ∧ wr.cell? ⟨B, 3, none⟩ = some (.slice ka nk kc) := by
        obtain ⟨_, _, _, _, hke⟩ := HR1.out
        exact (HX.out wr hke).2.2
      by_cases hlk0 : 0 < lk
      case' pos =>
        have hst2 := HR1.out
        have e0 : tx (if 0 < lk then [lineT wLocks [lk]] else []) = lineT wLocks [lk] ++ [10] := by rw [if_pos hlk0, tx_cons]; unfold tx; simp
        rw [e0] at hst2
        have hal := HAL.out u3 _ wLocks [lk] (some ⟨wr.heap.size, 0, none⟩) 1 1 (wr.alloc (.cells #[.int .i64 lk] 3)) rfl (by decide) (by simp) (fun v hv => by simp at hv; subst hv; exact HD.out.2.1) (hst2.step HB0.out (below_alloc1 _ _)) (CellsAt.new _ (intc [lk]) _ rfl) (NoB.new (by decide) rfl)
        have HA := Lib.hid hal
        clear hst2 hal e0
        go_upto_region 8 with fail
        go_wp2_with fail
        refine HA.out.mono ?_
        rintro e w2 ⟨v2, rfl, h2, _⟩
        have H2 := Lib.hid h2
        clear h2 HA hx2 hx3 HR1
        have hx3 : w2.cell? ⟨B, 3, none⟩ = some (.slice ka nk kc) := by
          obtain ⟨_, _, _, _, hke⟩ := H2.out
          exact (HX.out w2 hke).2.2.2
        go_upto_region 9 with fail
        clear hlk0
      case' neg =>
        have e0 : tx (if 0 < lk then [lineT wLocks [lk]] else []) = [] := by rw [if_neg hlk0]; rfl
        rw [e0, List.nil_append] at HR1
        have H2 := HR1
        clear HR1
        go_upto_region 9 with fail
        generalize u3 = v2 at *
        generalize wr = w2 at *
        clear hlk0 e0 hx2
      all_goals
        have HST3 : Hid (St B W0 T w2 v2 (tx ((ks.drop 0).map casT) ++ tx (fs.flatMap funT))) := H2
        clear H2
        go_wp2_with fail
        clear hx3
        go_loopw [3, 39] (fun v c wr => ∃ i : Nat, i ≤ nk ∧ c = .int .i64 (i : Int) ∧ Hid (St B W0 T wr v (tx ((ks.drop i).map casT) ++ tx (fs.flatMap funT)))) (fun _ c _ => nk - (intOf c).toNat)
        case atStart => exact ⟨0, by omega, rfl, HST3⟩
        case round =>
          clear HST3
          obtain ⟨i, hi, rfl, HR⟩ := hrel
          by_cases hlt : i < nk
          · have hik : i < ks.length := by rw [HN.out.2.1]; exact hlt
            obtain ⟨_, _, _, hbe, hke⟩ := HR.out
            obtain ⟨⟨hpf, hpc, hpk⟩, hgl⟩ := HPA.out wr hbe
            obtain ⟨b, off, e1, h0, h1, h2⟩ := hpk i hik
            subst e1
            have hst2 := HR.out
            rw [List.drop_eq_getElem_cons hik, List.map_cons, tx_cons, List.append_assoc] at hst2
            have hti := HD.out.2.2.2.1 _ (List.getElem_mem hik)
            simp only at h0 h1 h2
            generalize ks[i] = x at *
            obtain ⟨o, xa, xb⟩ := x
            obtain ⟨t1, t2, t3, t4, t5⟩ := hti
            simp only at h0 h1 h2 t1 t2 t3
            obtain ⟨k, hk⟩ : ∃ k : Nat, o = (k : Int) := ⟨o.toNat, by omega⟩
            subst hk
            have hk3 : k < 3 := by omega
            have hk3' : (k : Int) < 3 := by omega
            have hok := caW_ok (k : Int) t1
            have htb := tabc_at casesL k (by simpa [casesL] using hk3)
            have q0 := hgl.ca _ _ htb.1
            have q1 := hgl.ca _ _ htb.2
            have ecw : casesL.getD k ([], 0) = caW (k : Int) := rfl
            rw [ecw] at q0 q1
            unfold casT at hst2
            simp only at hst2
            have hnl : (caW (k : Int)).1.length ≤ 1000 := by
              have : ∀ k : Nat, k < 3 → (caW (k : Int)).1.length ≤ 1000 := by decide
              exact this k hk3
            generalize caW (k : Int) = nw at *
            obtain ⟨nm, nn⟩ := nw
            simp only at hok q0 q1 hst2
            obtain ⟨o1, o2, o3, o4, o5, o6, o7, o8⟩ := hok
            have hnn : (nn : Int) ≤ 2 := by omega
            have HS2 := Lib.hid hst2
            have HT := Lib.hid (And.intro t2 t3)
            have HNM := Lib.hid (And.intro hnl o7)
            unfold str at q0
            clear hnl hst2 t1 t2 t3 t4 t5 o1 o2 o3 o4 o5 o6 o7 o8 htb hpf hpc hpk hgl hbe hke ecw hik
            obtain ⟨g7, hg7⟩ : ∃ g, g = wr.heap.size := ⟨_, rfl⟩
            obtain ⟨w7, hw7⟩ : ∃ w7, w7 = wr.alloc (.cells #[.int .i64 (k : Int), .int .i64 xa, .int .i64 xb] 55) := ⟨_, rfl⟩
            have b7 : Below wr.heap.size wr w7 := by rw [hw7]; exact below_alloc1 _ _
            have s7 : Blk w7 g7 [.int .i64 (k : Int), .int .i64 xa, .int .i64 xb] := by rw [hw7]; exact Blk.mk _ _ _ _ hg7
            have q0 := cell_below q0 b7
            have q1 := cell_below q1 b7
            obtain ⟨g8, hg8⟩ : ∃ g, g = w7.heap.size := ⟨_, rfl⟩
            obtain ⟨w8, hw8⟩ : ∃ w8, w8 = w7.alloc (.cells #[.string (bs nm), .int .i64 (nn : Int)] 57) := ⟨_, rfl⟩
            have b8 : Below w7.heap.size w7 w8 := by rw [hw8]; exact below_alloc1 _ _
            have s8 : Blk w8 g8 [.string (bs nm), .int .i64 (nn : Int)] := by rw [hw8]; exact Blk.mk _ _ _ _ hg8
            have s78 := s7.below b8
            obtain ⟨g9, hg9⟩ : ∃ g, g = w8.heap.size := ⟨_, rfl⟩
            obtain ⟨w9, hw9⟩ : ∃ w9, w9 = w8.alloc (.cells #[.int .i64 xa, .int .i64 xb] 59) := ⟨_, rfl⟩
            have b9 : Below w8.heap.size w8 w9 := by rw [hw9]; exact below_alloc1 _ _
            have hcl : CellsAt w9 (some ⟨g9, 0, none⟩) (intc [xa, xb]) := by rw [hw9]; exact CellsAt.new _ (intc [xa, xb]) _ hg9
            have hnb : NoB w9 (some ⟨g9, 0, none⟩) := by rw [hw9]; exact NoB.new (by decide) hg9
            have s89 := s8.below b9
            have hb9 : Below wr.heap.size wr w9 := (b7.trans (b8.mono b7.size)).trans (b9.mono (Nat.le_trans b7.size b8.size))
            have e70 := (s7 0 _ rfl).1
            have e781 := (s78 1 _ rfl).1
            have e782 := (s78 2 _ rfl).1
            have e80 := (s89 0 _ rfl).1
            have e81 := (s89 1 _ rfl).1
            have H9 := Lib.hid (And.intro hb9 (And.intro hcl hnb))
            have HE := Lib.hid (And.intro e781 (And.intro e782 (And.intro e80 e81)))
            have HW7 := Lib.hid (And.intro hg7 hw7)
            have HW8 := Lib.hid (And.intro hg8 hw8)
            have HW9 := Lib.hid (And.intro hg9 hw9)
            clear b7 s7 b8 s8 s78 b9 hcl hnb s89 hb9 e781 e782 e80 e81 hg7 hw7 hg8 hw8 hg9 hw9
            go_upto_region 12 with fail
            rw [← HW7.out.2, ← HW7.out.1]
            go_upto_region 13 with fail
            rw [← HW8.out.2, ← HW8.out.1]
            obtain ⟨e781, e782, e80, e81⟩ := HE.out
            go_upto_region 14 with fail
            rw [← HW9.out.2, ← HW9.out.1]
            have s89 : CellsAt w9 (some ⟨g8, 0, none⟩) [.string (bs nm), .int .i64 (nn : Int)] := by
              rw [HW9.out.2, HW8.out.2]
              exact (CellsAt.new _ _ _ HW8.out.1).below (below_alloc1 _ _)
            have n89 : NoB w9 (some ⟨g8, 0, none⟩) := by
              rw [HW9.out.2, HW8.out.2]
              exact (NoB.new (by decide) HW8.out.1).on (kept_alloc _ _)
            have kd : Kept w9 w9.drew := (Lib.OthersKept.refl _ _ w9).drew
            have hal := HAL.out u3 _ nm ([xa, xb].take nn) (some ⟨g9, 0, none⟩) nn 2 w9.drew (by have := HNM.out.2; simp; omega) HNM.out.1 (by simp; omega) (fun v hv => by
              have := List.mem_of_mem_take hv
              simp at this
              rcases this with rfl | rfl
              · exact HT.out.1
              · exact HT.out.2) (HS2.out.step HB0.out H9.out.1.drew) ((H9.out.2.1.takeInt nn).below (below_drew1 w9)) (H9.out.2.2.on kd)
            have HA := Lib.hid hal
            have SCK : ∀ wx, Kept w9.drew wx → wx.cell? ⟨g8, 0, none⟩ = some (.string (bs nm)) ∧ wx.cell? ⟨g8, 1, none⟩ = some (.int .i64 (nn : Int)) := fun wx kx => by
              have h := (s89.kept n89 kd).kept (n89.on kd) kx
              obtain ⟨_, _, e0, h0⟩ := h 0 _ rfl
              obtain ⟨_, _, e1, h1⟩ := h 1 _ rfl
              cases e0; cases e1
              simpa using And.intro h0 h1
            clear hal s89 n89 kd e781 e782 e80 e81 e70 q0 q1 h0 h1 h2
            refine wp_region_lexH (fun wx => wx.cell? ⟨g8, 0, none⟩ = some (.string (bs nm)) ∧ wx.cell? ⟨g8, 1, none⟩ = some (.int .i64 (nn : Int))) 8 (Array.replicate 8 false) (by kernel_rfl) (by kernel_rfl) ?_
            refine wpAnyH_seg 0 6 _ #[true, true, true, true, true, true, false, false] 2 (by kernel_rfl) noPanic_put (SCK _ (Lib.OthersKept.refl _ _ _)) (by kernel_rfl) ?_
            simp only [List.take_succ_cons, List.take_zero, List.drop_zero]
            repeat (first
              | (refine wpSegH_no (by rfl) ?_; simp only [Act.put, List.setIfInBounds_toArray, List.set_cons_zero, List.set_cons_succ])
              | (refine wpSegH_yes (by rfl) ?_; apply Exists.intro; apply And.intro; (· (intro wx hS; (try dsimp only at hS); go_simp; first | done | with_reducible rfl)); simp only [Act.put, List.setIfInBounds_toArray, List.set_cons_zero, List.set_cons_succ]))
            refine wpSegH_nil ?_
            refine wpAnyH_one 6 _ #[true, true, true, true, true, true, true, false] 1 (by kernel_rfl) (fun K hK => ?_)
            have HKK := Lib.hid hK
            clear hK
            simp only [List.drop_succ_cons, List.drop_zero]
            refine headH_mk (by rfl) ?_
            go_simp
            refine HA.out.mono ?_
            rintro e w3 ⟨v3, rfl, h3, k3⟩
            have HX3 := Lib.hid h3
            refine HKK.out _ _ (SCK _ k3) ?_
            clear HKK K
            refine wpAnyH_seg 7 1 _ #[true, true, true, true, true, true, true, true] 0 (by kernel_rfl) noPanic_put (SCK _ k3) (by kernel_rfl) ?_
            simp only [List.take_succ_cons, List.take_zero, List.drop_succ_cons, List.drop_zero]
            repeat (first
              | (refine wpSegH_no (by rfl) ?_; simp only [Act.put, List.setIfInBounds_toArray, List.set_cons_zero, List.set_cons_succ])
              | (refine wpSegH_yes (by rfl) ?_; apply Exists.intro; apply And.intro; (· (intro wx hS; (try dsimp only at hS); go_simp; first | done | with_reducible rfl)); simp only [Act.put, List.setIfInBounds_toArray, List.set_cons_zero, List.set_cons_succ]))
            refine wpSegH_nil ?_
            refine wpAnyH_done (by kernel_rfl) (NoPanic.normal ?_) _
            clear h3 k3 HA
            go_wp2_with fail
            exact ⟨⟨i + 1, by omega, by go_num, HX3⟩, by simp [intOf]; omega⟩
          · obtain rfl : i = nk := by omega
            have HR4 : Hid (St B W0 T wr u3 (tx ((fs.drop 0).flatMap funT))) := Lib.hid (by
              have h := HR.out
              rw [← HN.out.2.1, List.drop_length] at h
              exact h)
            clear HR
            have hx0 : wr.cell? ⟨B, 0, none⟩ = some (.slice fa nf fc) := by
              obtain ⟨_, _, _, _, hke⟩ := HR4.out
              exact (HX.out wr hke).1
            go_wp2_with fail
            clear hx0
            go_loopw [3, 63] (fun v c wr => ∃ i : Nat, i ≤ nf ∧ c = .int .i64 (i : Int) ∧ Hid (St B W0 T wr v (tx ((fs.drop i).flatMap funT)))) (fun _ c _ => nf - (intOf c).toNat)
            case atStart => exact ⟨0, by omega, rfl, HR4⟩
            case round =>
              clear HR4
              obtain ⟨i, hi, rfl, HR⟩ := hrel
              by_cases hlt : i < nf
              · have hif : i < fs.length := by rw [HN.out.2.2]; exact hlt
                obtain ⟨_, _, _, hbe, hke⟩ := HR.out
                obtain ⟨b, off, a', c', e1, hfu⟩ := HFU.out i hif
                subst e1
                have h0 := (hfu wr hbe).1
                have hst2 := HR.out
                rw [List.drop_eq_getElem_cons hif, List.flatMap_cons, tx_app] at hst2
                have hfi := HD.out.2.2.2.2 _ (List.getElem_mem hif)
                have hfl := HLI.out _ (List.getElem_mem hif)
                have HIA : Hid (∀ wx, Below B W0 wx → InsAt wx a' fs[i]) := Lib.hid fun wx hx => (hfu wx hx).2
                clear hfu
                generalize fs[i] = f at *
                obtain ⟨n, hn⟩ : ∃ n, f.length = n := ⟨_, rfl⟩
                rw [hn] at h0 hfl
                have HNF := Lib.hid hn
                have HFI := Lib.hid hfi
                have hst3 : St B W0 T wr u3 ((lineT wFunc [] ++ [10]) ++ (tx ((f.drop 0).map insT) ++ tx ((fs.drop (i + 1)).flatMap funT))) := by
                  unfold funT at hst2
                  rw [tx_cons, List.append_assoc] at hst2
                  have e : lineT wFunc [] = wFunc := by unfold lineT; simp
                  rw [e]
                  exact hst2
                have HA := Lib.hid (HAL.out u3 _ wFunc [] none 0 0 wr rfl (by decide) (by simp) (fun v hv => by simp at hv) hst3 (CellsAt.nil _ _) (fun x hx => by simp [blk] at hx))
                clear hst2 hst3 hfi hbe hke hif hn
                go_wp2_with fail
                refine HA.out.mono ?_
                rintro e w2 ⟨v2, rfl, h2, _⟩
                have HR5 := Lib.hid h2
                clear h2 HA HR
                go_wp2_with fail
                go_loopw [3, 71] (fun v c wr => ∃ j : Nat, j ≤ n ∧ c = .int .i64 (j : Int) ∧ Hid (St B W0 T wr v (tx ((f.drop j).map insT) ++ tx ((fs.drop (i + 1)).flatMap funT)))) (fun _ c _ => n - (intOf c).toNat)
                case atStart => exact ⟨0, by omega, rfl, HR5⟩
                case round =>
                  clear HR5
                  obtain ⟨j, hj, rfl, HR⟩ := hrel
                  by_cases hjn : j < n
                  · have hjf : j < f.length := by rw [HNF.out]; exact hjn
                    obtain ⟨_, _, _, hbe, hke⟩ := HR.out
                    have hgl := (HPA.out wr hbe).2
                    obtain ⟨b, off, e1, h0, h1, h2, h3⟩ := HIA.out wr hbe j hjf
                    subst e1
                    have hst2 := HR.out
                    rw [List.drop_eq_getElem_cons hjf, List.map_cons, tx_cons, List.append_assoc] at hst2
                    have hti := HFI.out _ (List.getElem_mem hjf)
                    try simp only at h0 h1 h2 h3
                    generalize f[j] = x at *
                    obtain ⟨o, xa, xb, xc⟩ := x
                    obtain ⟨t1, t2, t3, t4, t5, t6, t7⟩ := hti
                    simp only at t1 t2 t3 t4
                    try simp only at h0 h1 h2 h3
                    obtain ⟨k, hk⟩ : ∃ k : Nat, o = (k : Int) := ⟨o.toNat, by omega⟩
                    subst hk
                    have hk3 : k < 23 := by omega
                    have hk3' : (k : Int) < 23 := by omega
                    have hok := opW_ok (k : Int) t1
                    have htb := tabc_at opsL k (by simpa [opsL] using hk3)
                    have q0 := hgl.op _ _ htb.1
                    have q1 := hgl.op _ _ htb.2
                    have ecw : opsL.getD k ([], 0) = opW (k : Int) := rfl
                    rw [ecw] at q0 q1
                    unfold insT at hst2
                    simp only at hst2
                    have hnl : (opW (k : Int)).1.length ≤ 1000 := by
                      have : ∀ k : Nat, k < 23 → (opW (k : Int)).1.length ≤ 1000 := by decide
                      exact this k hk3
                    generalize opW (k : Int) = nw at *
                    obtain ⟨nm, nn⟩ := nw
                    simp only at hok q0 q1 hst2 hnl
                    obtain ⟨o1, o2, o3, o4, o5, o6⟩ := hok
                    have hnn : (nn : Int) ≤ 3 := by omega
                    have HS2 := Lib.hid hst2
                    have HT := Lib.hid (And.intro t2 (And.intro t3 t4))
                    have HNM := Lib.hid (And.intro hnl o5)
                    unfold str at q0
                    clear hnl hst2 t1 t2 t3 t4 t5 t6 t7 o1 o2 o3 o4 o5 o6 htb hgl hbe hke ecw hjf
                    obtain ⟨g7, hg7⟩ : ∃ g, g = wr.heap.size := ⟨_, rfl⟩
                    obtain ⟨w7, hw7⟩ : ∃ w7, w7 = wr.alloc (.cells #[.int .i64 (k : Int), .int .i64 xa, .int .i64 xb, .int .i64 xc] 62) := ⟨_, rfl⟩
                    have b7 : Below wr.heap.size wr w7 := by rw [hw7]; exact below_alloc1 _ _
                    have s7 : Blk w7 g7 [.int .i64 (k : Int), .int .i64 xa, .int .i64 xb, .int .i64 xc] := by rw [hw7]; exact Blk.mk _ _ _ _ hg7
                    have q0 := cell_below q0 b7
                    have q1 := cell_below q1 b7
                    obtain ⟨g8, hg8⟩ : ∃ g, g = w7.heap.size := ⟨_, rfl⟩
                    obtain ⟨w8, hw8⟩ : ∃ w8, w8 = w7.alloc (.cells #[.string (bs nm), .int .i64 (nn : Int)] 57) := ⟨_, rfl⟩
                    have b8 : Below w7.heap.size w7 w8 := by rw [hw8]; exact below_alloc1 _ _
                    have s8 : Blk w8 g8 [.string (bs nm), .int .i64 (nn : Int)] := by rw [hw8]; exact Blk.mk _ _ _ _ hg8
                    have s78 := s7.below b8
                    obtain ⟨g9, hg9⟩ : ∃ g, g = w8.heap.size := ⟨_, rfl⟩
                    obtain ⟨w9, hw9⟩ : ∃ w9, w9 = w8.alloc (.cells #[.int .i64 xa, .int .i64 xb, .int .i64 xc] 64) := ⟨_, rfl⟩
                    have b9 : Below w8.heap.size w8 w9 := by rw [hw9]; exact below_alloc1 _ _
                    have hcl : CellsAt w9 (some ⟨g9, 0, none⟩) (intc [xa, xb, xc]) := by rw [hw9]; exact CellsAt.new _ (intc [xa, xb, xc]) _ hg9
                    have hnb : NoB w9 (some ⟨g9, 0, none⟩) := by rw [hw9]; exact NoB.new (by decide) hg9
                    have s89 := s8.below b9
                    have hb9 : Below wr.heap.size wr w9 := (b7.trans (b8.mono b7.size)).trans (b9.mono (Nat.le_trans b7.size b8.size))
                    have e70 := (s7 0 _ rfl).1
                    have e781 := (s78 1 _ rfl).1
                    have e782 := (s78 2 _ rfl).1
                    have e783 := (s78 3 _ rfl).1
                    have e80 := (s89 0 _ rfl).1
                    have e81 := (s89 1 _ rfl).1
                    have H9 := Lib.hid (And.intro hb9 (And.intro hcl hnb))
                    have HE := Lib.hid (And.intro e781 (And.intro e782 (And.intro e783 (And.intro e80 e81))))
                    have HW7 := Lib.hid (And.intro hg7 hw7)
                    have HW8 := Lib.hid (And.intro hg8 hw8)
                    have HW9 := Lib.hid (And.intro hg9 hw9)
                    clear b7 s7 b8 s8 s78 b9 hcl hnb s89 hb9 e781 e782 e783 e80 e81 hg7 hw7 hg8 hw8 hg9 hw9
                    go_upto_region 23 with fail
                    rw [← HW7.out.2, ← HW7.out.1]
                    go_upto_region 24 with fail
                    rw [← HW8.out.2, ← HW8.out.1]
                    obtain ⟨e781, e782, e783, e80, e81⟩ := HE.out
                    go_upto_region 25 with fail
                    rw [← HW9.out.2, ← HW9.out.1]
                    have s89 : CellsAt w9 (some ⟨g8, 0, none⟩) [.string (bs nm), .int .i64 (nn : Int)] := by
                      rw [HW9.out.2, HW8.out.2]
                      exact (CellsAt.new _ _ _ HW8.out.1).below (below_alloc1 _ _)
                    have n89 : NoB w9 (some ⟨g8, 0, none⟩) := by
                      rw [HW9.out.2, HW8.out.2]
                      exact (NoB.new (by decide) HW8.out.1).on (kept_alloc _ _)
                    have kd : Kept w9 w9.drew := (Lib.OthersKept.refl _ _ w9).drew
                    have hal := HAL.out u3 _ nm ([xa, xb, xc].take nn) (some ⟨g9, 0, none⟩) nn 3 w9.drew (by have := HNM.out.2; simp; omega) HNM.out.1 (by simp; omega) (fun v hv => by
                      have := List.mem_of_mem_take hv
                      simp at this
                      rcases this with rfl | rfl | rfl
                      · exact HT.out.1
                      · exact HT.out.2.1
                      · exact HT.out.2.2) (HS2.out.step HB0.out H9.out.1.drew) ((H9.out.2.1.takeInt nn).below (below_drew1 w9)) (H9.out.2.2.on kd)
                    have HA := Lib.hid hal
                    have SCK : ∀ wx, Kept w9.drew wx → wx.cell? ⟨g8, 0, none⟩ = some (.string (bs nm)) ∧ wx.cell? ⟨g8, 1, none⟩ = some (.int .i64 (nn : Int)) := fun wx kx => by
                      have h := (s89.kept n89 kd).kept (n89.on kd) kx
                      obtain ⟨_, _, e0, h0⟩ := h 0 _ rfl
                      obtain ⟨_, _, e1, h1⟩ := h 1 _ rfl
                      cases e0; cases e1
                      simpa using And.intro h0 h1
                    clear hal s89 n89 kd e781 e782 e783 e80 e81 e70 q0 q1 h0 h1 h2 h3
                    refine wp_region_lexH (fun wx => wx.cell? ⟨g8, 0, none⟩ = some (.string (bs nm)) ∧ wx.cell? ⟨g8, 1, none⟩ = some (.int .i64 (nn : Int))) 8 (Array.replicate 8 false) (by kernel_rfl) (by kernel_rfl) ?_
                    refine wpAnyH_seg 0 6 _ #[true, true, true, true, true, true, false, false] 2 (by kernel_rfl) noPanic_put (SCK _ (Lib.OthersKept.refl _ _ _)) (by kernel_rfl) ?_
                    simp only [List.take_succ_cons, List.take_zero, List.drop_zero]
                    repeat (first
                      | (refine wpSegH_no (by rfl) ?_; simp only [Act.put, List.setIfInBounds_toArray, List.set_cons_zero, List.set_cons_succ])
                      | (refine wpSegH_yes (by rfl) ?_; apply Exists.intro; apply And.intro; (· (intro wx hS; (try dsimp only at hS); go_simp; first | done | with_reducible rfl)); simp only [Act.put, List.setIfInBounds_toArray, List.set_cons_zero, List.set_cons_succ]))
                    refine wpSegH_nil ?_
                    refine wpAnyH_one 6 _ #[true, true, true, true, true, true, true, false] 1 (by kernel_rfl) (fun K hK => ?_)
                    have HKK := Lib.hid hK
                    clear hK
                    simp only [List.drop_succ_cons, List.drop_zero]
                    refine headH_mk (by rfl) ?_
                    go_simp
                    refine HA.out.mono ?_
                    rintro e w3 ⟨v3, rfl, h3', k3⟩
                    have HX3 := Lib.hid h3'
                    refine HKK.out _ _ (SCK _ k3) ?_
                    clear HKK K
                    refine wpAnyH_seg 7 1 _ #[true, true, true, true, true, true, true, true] 0 (by kernel_rfl) noPanic_put (SCK _ k3) (by kernel_rfl) ?_
                    simp only [List.take_succ_cons, List.take_zero, List.drop_succ_cons, List.drop_zero]
                    repeat (first
                      | (refine wpSegH_no (by rfl) ?_; simp only [Act.put, List.setIfInBounds_toArray, List.set_cons_zero, List.set_cons_succ])
                      | (refine wpSegH_yes (by rfl) ?_; apply Exists.intro; apply And.intro; (· (intro wx hS; (try dsimp only at hS); go_simp; first | done | with_reducible rfl)); simp only [Act.put, List.setIfInBounds_toArray, List.set_cons_zero, List.set_cons_succ]))
                    refine wpSegH_nil ?_
                    refine wpAnyH_done (by kernel_rfl) (NoPanic.normal ?_) _
                    clear h3' k3 HA
                    go_wp2_with fail
                    exact ⟨⟨j + 1, by omega, by go_num, HX3⟩, by simp [intOf]; omega⟩
                  · obtain rfl : j = n := by omega
                    have HZ : Hid (St B W0 T wr u3 (tx ((fs.drop (i + 1)).flatMap funT))) := Lib.hid (by
                      have h := HR.out
                      rw [← HNF.out, List.drop_length] at h
                      exact h)
                    clear HR
                    go_wp2_with fail
                    exact ⟨⟨i + 1, by omega, by go_num, HZ⟩, by simp [intOf]; omega⟩
              · obtain rfl : i = nf := by omega
                have HZ : Hid (St B W0 T wr u3 []) := Lib.hid (by
                  have h := HR.out
                  rw [← HN.out.2.2, List.drop_length] at h
                  exact h)
                clear HR
                obtain ⟨tt, hby, htt, hbe, hke⟩ := HZ.out
                rw [List.append_nil] at htt
                subst htt
                have HE := Lib.hid (And.intro hby hbe)
                clear hby hbe hke HZ
                go_upto_region 28 with fail
                have hcv := byt_conv HE.out.1
                go_wp2_with fail
                go_ret
                exact ⟨rfl, (HBB.out.2).trans (HBB.out.1 ▸ HE.out.2)⟩
end Go.Proofs.YtdeilfnfpgjnnaaDoor
