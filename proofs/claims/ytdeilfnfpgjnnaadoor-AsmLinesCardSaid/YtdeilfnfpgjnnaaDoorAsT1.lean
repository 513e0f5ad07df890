/-
  A line, written.
-/
import Derived.Test.YtdeilfnfpgjnnaaDoorAsW3
import Derived.Test.YtdeilfnfpgjnnaaDoorRowG2
import Derived.Lib.OthersKept
import Derived.Lib.BufferKept
import Derived.Lib.AppendStr
import Derived.Lib.ItoaLen
import Derived.OwnWalk
open Go Go.RowKit
set_option linter.unusedVariables false
set_option linter.unusedSimpArgs false
namespace Go.Proofs.YtdeilfnfpgjnnaaDoor
/-- Bytes of one's own, from block B on. -/
def Byt (B : Nat) (w : World) (v : Value) (l : By) : Prop := w.ownsRow B 5 1 v l.length (u8c l)
abbrev Kept (w w' : World) : Prop := Lib.OthersKept 5 none w w'
/-- What isn't bytes. -/
def NoB (w : World) (a : Option Addr) : Prop := ∀ x ∈ blk a, ∃ o, w.heap[x]? = some o ∧ ∀ c fz, o ≠ .cells c 5 fz
theorem NoB.on {w w' : World} {a : Option Addr} (h : NoB w a) (k : Kept w w') : NoB w' a := fun x hx => by
  obtain ⟨o, h1, h2⟩ := h x hx
  exact ⟨o, k x o h1 (by simp) h2, h2⟩
theorem CellsAt.kept {w w' : World} {a : Option Addr} {cs : List Value} (h : CellsAt w a cs) (n : NoB w a) (k : Kept w w') : CellsAt w' a cs := fun j v hj => by
  obtain ⟨b, off, rfl, h2⟩ := h j v hj
  obtain ⟨o, h3, h4⟩ := n b (by simp [blk])
  have h5 := k b o h3 (by simp) h4
  exact ⟨b, off, rfl, by rw [cell_of_heap (w := w) (by rw [h3, h5])]; exact h2⟩
theorem kept_grown {w w' : World} {B n : Nat} {v : Value} {xs : List Value} (h : w.ownsRow B 5 1 v n xs) (hg : w.grownBy w' v.ownBlock) : Kept w w' :=
  (Lib.OthersKept.refl _ _ w).grown hg (fun g hv => by
    rcases h.2 with ⟨rfl, _⟩ | ⟨g', cap, cur, rfl, hb, hgg, _⟩
    · simp [Value.ownBlock] at hv
    · simp [Value.ownBlock] at hv
      subst hv
      exact ⟨_, _, hgg⟩)
theorem below_grown2 {w w' : World} {B n : Nat} {v : Value} {xs : List Value} (hB : B ≤ w.heap.size) (h : w.ownsRow B 5 1 v n xs) (hg : w.grownBy w' v.ownBlock) : Below B w w' :=
  (Below.refl B w).grown hg hB (fun k hk => by
    rcases h.2 with ⟨rfl, _⟩ | ⟨g', cap, cur, rfl, hb, hgg, _⟩
    · simp [Value.ownBlock] at hk
    · simp [Value.ownBlock] at hk
      subst hk
      exact hb)
theorem wpList_append_byt {P : Program} {w : World} {ops : Array Oper} {rest : List Oper} {o : Oper} {a : Act} {Q : Exit → Act → World → Prop} (hgd : o.guard = none) (sl x : Operand) (t u : TypeId)
    (ho : o.op = .call { callee := .builtin .append, args := #[sl, x], argTypes := #[t, u] }) (i : TypeInfo) (ht : P.underlying t = some (.slice 5)) (hu : P.underlying u = some .string) (hi : P.info? 5 = some i) (hz : i.zero = some (.int .u8 0))
    (hsize : i.size = 1) (hby : i.bytes = 1) (B : Nat) (v : Value) (l m : By) (hB : B ≤ w.heap.size) (hs : a.eval sl = v) (hown : Byt B w v l) (hx : a.eval x = .string (bs m)) (h47 : l.length + m.length ≤ 1000000000)
    (h : ∀ v' w', Byt B w' v' (l ++ m) → Below B w w' → Kept w w' → wpList P ops Q rest (a.put o.dst v') w') : wpList P ops Q (o :: rest) a w := by
  refine wpList_plain hgd fun K hK => ?_
  obtain ⟨v', w', hr, h2, h3, h4⟩ := Go.Lib.run_append_own_string (P := P) (w := w) B t u o.type 5 i ht hu hi hz hsize hby v l.length (u8c l) hown (bs m) (by rw [bs_size]; unfold maxLen; omega) (by rw [bs_size]; omega) hB
  unfold Oper.wp execOp
  simp only [ho, resolve, invoke, builtin, Sem.run_bind, Sem.run_pure, Result.andThen_ok, List.map_toArray, List.map_cons, List.map_nil, hs, hx, hr]
  refine hK _ _ (h v' w' ?_ (below_grown2 hB hown h3) (kept_grown hown h3))
  unfold Byt
  rw [List.length_append, u8c_app]
  rw [bs_size] at h2
  rw [strCells_eq, bs_list] at h2
  exact h2
theorem info_by : (Tryd.prog.info? 5).map (fun i => (i.zero, i.size, i.bytes)) = some (some (.int .u8 0), 1, 1) := by kernel_rfl
theorem itoa_len (v : Int) (h : i64b v) : (Lib.itoa v).length ≤ 21 := Lib.itoa_length_le v h.1 h.2
def numT (ns : List Int) : By := (ns.map Lib.itoa).flatMap (32 :: ·)
theorem numT_take (ns : List Int) (i : Nat) (h : i < ns.length) : numT (ns.take (i + 1)) = numT (ns.take i) ++ ([32] ++ Lib.itoa ns[i]) := by
  unfold numT
  rw [List.take_succ_eq_append_getElem h, List.map_append, List.flatMap_append]
  simp
theorem numT_len : ∀ ns : List Int, (∀ v ∈ ns, i64b v) → (numT ns).length ≤ 22 * ns.length
  | [], _ => by simp [numT]
  | v :: ns, h => by
    have := numT_len ns (fun x hx => h x (by simp [hx]))
    have h1 := itoa_len v (h v (by simp))
    unfold numT at this ⊢
    simp only [List.map_cons, List.flatMap_cons, List.length_append, List.length_cons] at this ⊢
    omega
set_option maxRecDepth 100000 in
set_option maxHeartbeats 2000000 in
theorem al_any (B : Nat) (v : Value) (l wd : By) (ns : List Int) (a : Option Addr) (cap : Nat) (w : World) (hown : Byt B w v l) (hB : B ≤ w.heap.size) (hl : l.length + wd.length ≤ 100000000) (hn : ns.length ≤ 1000) (hf : ∀ v ∈ ns, i64b v)
    (hat : CellsAt w a (intc ns)) (hk : NoB w a) (htab : Lib.TabBelow Tryd.prog B w "internal/strconv.uint64pow10" .u64 Lib.pow10Tab) :
    Calls Tryd.prog 17 #[v, .string (bs wd), .slice a ns.length cap] w fun e w' => ∃ v', e = .returned v' ∧ Byt B w' v' (l ++ (lineT wd ns ++ [10])) ∧ Below B w w' ∧ Kept w w' := by
  obtain ⟨i0, hi, hz0, hz1, hz2⟩ := info_parts info_by
  have Hi := Lib.hid hi
  have Hz0 := Lib.hid hz0
  have Hz1 := Lib.hid hz1
  have Hz2 := Lib.hid hz2
  have HO := Lib.hid hown
  have HB := Lib.hid hB
  have HF := Lib.hid hf
  have HA := Lib.hid (And.intro hat (And.intro hk htab))
  obtain ⟨m, hm⟩ : ∃ m, ns.length = m := ⟨_, rfl⟩
  have HM := Lib.hid hm
  rw [hm] at hn ⊢
  have HL := Lib.hid hl
  clear hi hz0 hz1 hz2 hown hB hf hat hk htab hm hl
  go_enter Tryd.func17, Tryd.ntmps17
  go_wp2_with (at_builtin; go_loud (refine wpList_append_byt rfl _ _ 53 9 rfl i0 Tryd.underlying53 Tryd.underlying9 Hi.out Hz0.out Hz1.out Hz2.out B v l wd HB.out rfl HO.out rfl (by have := HL.out; omega) ?_))
  intro v1 w1 h1 b1 k1
  have HR0 : Hid (Byt B w1 v1 (l ++ (wd ++ numT (ns.take 0))) ∧ Below B w w1 ∧ Kept w w1) := Lib.hid ⟨by simpa [numT] using h1, b1, k1⟩
  clear h1 b1 k1
  go_wp2_with fail
  go_loopw [0, 14] (fun s c wr => ∃ i : Nat, i ≤ m ∧ c = .int .i64 (i : Int) ∧ Hid (Byt B wr s (l ++ (wd ++ numT (ns.take i))) ∧ Below B w wr ∧ Kept w wr)) (fun _ c _ => m - (intOf c).toNat)
  case atStart => exact ⟨0, by omega, rfl, HR0⟩
  case round =>
    obtain ⟨i, hi, rfl, HR⟩ := hrel
    clear HR0
    obtain ⟨hby, hbe, hke⟩ := HR.out
    have hnl := numT_len (ns.take i) (fun v hv => HF.out v (List.mem_of_mem_take hv))
    have htl : (ns.take i).length ≤ m := by rw [List.length_take]; have := HM.out; omega
    by_cases hlt : i < m
    · have hin : i < ns.length := by rw [HM.out]; exact hlt
      obtain ⟨b, off, hab, hc⟩ := (HA.out.1.kept HA.out.2.1 hke).int i hin
      subst hab
      have hx := HF.out _ (List.getElem_mem hin)
      have hnt := numT_take ns i hin
      generalize ns[i] = x at *
      have HNT := Lib.hid hnt
      have hB2 : B ≤ wr.heap.size := by have := hbe.size; have := HB.out; omega
      have HB2 := Lib.hid hB2
      have HX := Lib.hid hx
      have HY := Lib.hid (show (l ++ (wd ++ numT (ns.take i))).length ≤ 100000000 + 22 * 1000 by simp only [List.length_append]; have := HL.out; omega)
      obtain ⟨L, hL⟩ : ∃ L, l ++ (wd ++ numT (ns.take i)) = L := ⟨_, rfl⟩
      rw [hL] at HR HY
      have HLQ := Lib.hid hL
      clear hL hby
      clear hnt hin hnl htl hbe hke hB2 hx
      go_wp2_with (at_builtin; go_loud (refine wpList_append_byt rfl _ _ 53 9 rfl i0 Tryd.underlying53 Tryd.underlying9 Hi.out Hz0.out Hz1.out Hz2.out B _ L [32] HB2.out rfl HR.out.1 rfl (by have := HY.out; simp; omega) ?_))
      intro v2 w2 h2 b2 k2
      have HC := Lib.hid (Tryd.strconv_AppendInt_10 B _ x HX.out.1 HX.out.2 v2 _ w2 h2 (by have := b2.size; have := HB2.out; omega) (by have := HY.out; simp; omega) ((HA.out.2.2.on HR.out.2.1).on b2))
      have H2 := Lib.hid (And.intro b2 k2)
      clear h2 b2 k2
      go_wp2_with fail
      refine HC.out.mono ?_
      rintro e w3 ⟨v3, rfl, h3, b3, k3⟩
      have HX3 : Hid (Byt B w3 v3 (l ++ (wd ++ numT (ns.take (i + 1)))) ∧ Below B w w3 ∧ Kept w w3) := Lib.hid ⟨by
        have e : l ++ (wd ++ numT (ns.take (i + 1))) = L ++ [32] ++ Lib.itoa x := by rw [HNT.out, ← HLQ.out]; simp
        rw [e]
        unfold Byt
        rw [List.length_append, u8c_app]
        exact h3, (HR.out.2.1.trans H2.out.1).trans b3, (HR.out.2.2.trans H2.out.2).trans k3⟩
      clear h3 b3 k3 HC
      go_wp2_with fail
      exact ⟨⟨i + 1, by omega, by go_num, HX3⟩, by simp [intOf]; omega⟩
    · obtain rfl : i = m := by omega
      have hall : ns.take i = ns := by rw [← HM.out, List.take_length]
      rw [hall] at hby hnl
      have HBY := Lib.hid hby
      have HB2 := Lib.hid (show B ≤ wr.heap.size by have := hbe.size; have := HB.out; omega)
      have HE := Lib.hid (And.intro hbe hke)
      have HY := Lib.hid (show (l ++ (wd ++ numT ns)).length ≤ 100000000 + 22 * 1000 by simp only [List.length_append]; have := HL.out; have := HM.out; omega)
      clear hby hnl htl hbe hke hall HR
      go_wp2_with (at_builtin; go_loud (refine wpList_append_byt rfl _ _ 53 9 rfl i0 Tryd.underlying53 Tryd.underlying9 Hi.out Hz0.out Hz1.out Hz2.out B _ (l ++ (wd ++ numT ns)) [10] HB2.out rfl HBY.out rfl (by have := HY.out; simp only [List.length_singleton]; omega) ?_))
      intro v2 w2 h2 b2 k2
      have HF2 : Hid (Byt B w2 v2 (l ++ (lineT wd ns ++ [10])) ∧ Below B w w2 ∧ Kept w w2) := Lib.hid ⟨by
        have e : l ++ (lineT wd ns ++ [10]) = l ++ (wd ++ numT ns) ++ [10] := by unfold lineT numT; simp
        rw [e]; simpa only [List.append_assoc] using h2, HE.out.1.trans b2, HE.out.2.trans k2⟩
      clear h2 b2 k2
      go_wp2_with fail
      go_ret
      exact ⟨_, rfl, HF2.out⟩
end Go.Proofs.YtdeilfnfpgjnnaaDoor
