/-
  The heap's List: all in order.
-/
import Derived.Test.YtljdckipnbdknaaHSort
import Derived.Test.YtljdckipnbdknaaHeapP
import Derived.Shelf.SlSortCmp.NoneTotal
open Go Go.RowKit Go.Sort
set_option linter.unusedVariables false
namespace Go.Proofs.Ytljdckipnbdknaa
theorem flat_items (l : List It) : flatK itc 3 l.toArray = (icells l).toArray := by
  apply Array.ext_getElem?
  intro t
  by_cases ht : t < l.length * 3
  · obtain ⟨i, r, hr, rfl⟩ : ∃ i r, r < 3 ∧ t = i * 3 + r := ⟨t / 3, t % 3, Nat.mod_lt _ (by decide), by omega⟩
    have hi : i < l.length := by omega
    obtain ⟨h1, h2, h3⟩ := icells_at l i hi
    have e : l.toArray[i]! = gI l i := by rw [getElem!_pos _ i (by simpa using hi), gI_of hi]; rfl
    have h := get_flatK itc 3 l.toArray (i * 3 + r) (by simpa using ht)
    have d1 : (i * 3 + r) / 3 = i := by omega
    have d2 : (i * 3 + r) % 3 = r := by omega
    rw [d1, d2, e] at h
    have hs : i * 3 + r < (flatK itc 3 l.toArray).size := by simpa using ht
    have hg : (flatK itc 3 l.toArray)[i * 3 + r]? = some ((itc (gI l i))[r]!) := by rw [Array.getElem?_eq_getElem hs, ← h, getElem!_pos (flatK itc 3 l.toArray) (i * 3 + r) hs]
    rw [hg, List.getElem?_toArray]
    match r, hr with
    | 0, _ => rw [Nat.add_zero, h1]; rfl
    | 1, _ => rw [h2]; rfl
    | 2, _ => rw [h3]; rfl
  · rw [Array.getElem?_eq_none (by simp; omega), Array.getElem?_eq_none (by simp [icells_len]; omega)]
theorem holds_items {t : TypeId} {w : World} {g n cap : Nat} {l : List It} (h : ItemsT t w (.slice (some ⟨g, 0, none⟩) n cap) l) : HoldsK itc 3 w g 0 l.toArray ∧ g < w.heap.size := by
  unfold HoldsK
  rw [flat_items]
  have hc := World.ownsRow.cells h (g := g) rfl
  rcases h.2 with ⟨hv, _⟩ | ⟨g', cap', cur, hv, hb, hg, _⟩
  · simp at hv
  · simp only [Value.slice.injEq, Option.some.injEq, Addr.mk.injEq, and_true] at hv
    obtain ⟨rfl, _, rfl⟩ := hv
    refine ⟨fun j hj => ⟨?_, by simp [World.frozen?, hg]⟩, (Array.getElem?_eq_some_iff.1 hg).1⟩
    have := hc j ((icells l).toArray[j]!) (by rw [getElem!_pos _ j hj, ← List.getElem?_toArray, Array.getElem?_eq_getElem hj])
    rw [Addr.add_lit, Nat.zero_add] at this
    rw [Nat.zero_add]; exact this
theorem take_putCells (cur : Array Value) (ts : List Value) (h : ts.length ≤ cur.size) : (putCells id 0 ts.toArray cur).toList.take ts.length = ts := by
  apply List.ext_getElem?
  intro j
  by_cases hj : j < ts.length
  · rw [List.getElem?_take_of_lt hj, Array.getElem?_toList]
    simp [putCells, hj, show j < cur.size by omega]
  · rw [List.getElem?_take_eq_none (by omega), List.getElem?_eq_none (by omega)]
/-- Behind the sort. -/
theorem sorted_items {t : TypeId} {w : World} {g n cap m : Nat} {os : Array Obj} {l l' : List It} (h : ItemsT t w (.slice (some ⟨g, 0, none⟩) n cap) l) (hl : l'.length = l.length) :
    ItemsT t (sortWorldK itc 3 w g 0 m l'.toArray os) (.slice (some ⟨g, 0, none⟩) n cap) l' ∧ Chg [g] w (sortWorldK itc 3 w g 0 m l'.toArray os) := by
  unfold sortWorldK putRowK
  rw [flat_items]
  rcases h.2 with ⟨hv, _⟩ | ⟨g', cap', cur, hv, hb, hg, h1, h2, h3, h4⟩
  · simp at hv
  · simp only [Value.slice.injEq, Option.some.injEq, Addr.mk.injEq, and_true] at hv
    obtain ⟨rfl, hn, rfl⟩ := hv
    have hlt := (Array.getElem?_eq_some_iff.1 hg).1
    constructor
    · unfold ItemsT
      refine ⟨by rw [icells_len], .inr ⟨g, cap, putCells id 0 (icells l').toArray cur, by rw [hn, hl], hb, ?_, by omega, h2, by simp [putCells, h3], ?_⟩⟩
      · rw [heap_grow_old _ _ (by simpa [putRow, mapBlock, Sort.ahead] using hlt)]
        simp [putRow, mapBlock, Sort.ahead, Array.getElem?_modify, hg, onCells]
      · have := take_putCells cur (icells l') (by rw [icells_len, h3]; omega)
        rw [icells_len] at this; exact this
    · refine ⟨rfl, rfl, rfl, by simp [grow, putRow, mapBlock, Sort.ahead], fun k hk hn => ?_⟩
      rw [heap_grow_old _ _ (by simpa [putRow, mapBlock, Sort.ahead] using hk)]
      have : g ≠ k := fun e => hn (by simp [e])
      simp [putRow, mapBlock, Sort.ahead, Array.getElem?_modify, this]
theorem ltOf_cmpI (x y : It) : ltOf cmpI x y = ltI x y := by
  unfold ltOf
  have := cmpI_lt x y
  by_cases h : ltI x y = true
  · rw [h]; simp; rw [this]; exact h
  · rw [Bool.not_eq_true] at h
    rw [h]; simp
    have h' : ¬ (cmpI x y < 0) := by rw [this, h]; simp
    omega
theorem swo_cmpI : SWO (ltOf cmpI) where
  irrefl x := by rw [ltOf_cmpI]; unfold ltI; simp
  trans x y z h1 h2 := by rw [ltOf_cmpI, ltI_iff] at *; omega
  ntrans x y z h1 h2 := by
    rw [ltOf_cmpI] at *
    unfold ltI at *
    simp only [decide_eq_false_iff_not] at *
    omega
theorem grow3 (w : World) (a b c : Obj) : (((w.alloc a).alloc b).alloc c).drew = grow (w.drewN 1) #[a, b, c] := by
  rw [alloc_eq_grow, alloc_eq_grow, alloc_eq_grow, grow_grow, grow_grow]; rfl
set_option maxRecDepth 100000 in
set_option maxHeartbeats 1000000 in
theorem compare_grow (x y : It) (w : World) : Calls Try.prog 22 #[itv x, itv y] w fun r w' => r = .returned (.int .i64 (cmpI x y)) ∧ ∃ q os', w' = grow (w.drewN q) os' := by
  have hI : cmpI x y = if cmpU x.at_ y.at_ = 0 then cmpU x.seq y.seq else cmpU x.at_ y.at_ := rfl
  generalize cmpI x y = c at hI ⊢
  obtain ⟨xa, xs, xi⟩ := x
  obtain ⟨ya, ys, yi⟩ := y
  simp only at hI
  unfold itv
  obtain ⟨s0, hs0⟩ : ∃ s0, s0 = w.heap.size := ⟨_, rfl⟩
  have hO : Own w ((w.alloc (.cells #[.int .u64 xa, .int .u64 xs, .int .i64 xi] 43)).alloc (.cells #[.int .u64 ya, .int .u64 ys, .int .i64 yi] 43)) [CelA (s0 + 1) [.int .u64 ya, .int .u64 ys, .int .i64 yi], CelA s0 [.int .u64 xa, .int .u64 xs, .int .i64 xi]] :=
    ((Own.nil (Below.refl _ _)).alloc _ _ hs0).alloc _ _ (by simp [hs0])
  have HO := Lib.hid hO
  have HI := Lib.hid hI
  clear hO hI
  go_enter Try.func22, Try.ntmps22
  go_upto_region 1 with fail
  rw [← hs0]
  clear hs0
  obtain ⟨W, hW⟩ : ∃ W, (w.alloc (.cells #[.int .u64 xa, .int .u64 xs, .int .i64 xi] 43)).alloc (.cells #[.int .u64 ya, .int .u64 ys, .int .i64 yi] 43) = W := ⟨_, rfl⟩
  rw [hW] at HO ⊢
  have HW := Lib.hid hW
  clear hW
  obtain ⟨g0, -⟩ := HO.out.cel 1 rfl 0 _ rfl
  obtain ⟨g1, -⟩ := HO.out.cel 1 rfl 1 _ rfl
  obtain ⟨g2, -⟩ := HO.out.cel 0 rfl 0 _ rfl
  obtain ⟨g3, -⟩ := HO.out.cel 0 rfl 1 _ rfl
  have hk : ∀ w', Below W.heap.size W w' → w'.cell? ⟨s0, 0, none⟩ = some (.int .u64 xa) ∧ w'.cell? ⟨s0, 1, none⟩ = some (.int .u64 xs) ∧ w'.cell? ⟨s0 + 1, 0, none⟩ = some (.int .u64 ya) ∧ w'.cell? ⟨s0 + 1, 1, none⟩ = some (.int .u64 ys) ∧ Below W.heap.size W w' :=
    fun w' hb => ⟨cell_below g0 hb, cell_below g1 hb, cell_below g2 hb, cell_below g3 hb, hb⟩
  have HK := Lib.hid hk
  clear hk g0 g1 g2 g3 HO
  go_region_held3 (fun w' => w'.cell? ⟨s0, 0, none⟩ = some (.int .u64 xa) ∧ w'.cell? ⟨s0, 1, none⟩ = some (.int .u64 xs) ∧ w'.cell? ⟨s0 + 1, 0, none⟩ = some (.int .u64 ya) ∧ w'.cell? ⟨s0 + 1, 1, none⟩ = some (.int .u64 ys) ∧ Below W.heap.size W w')
    ((refine HK.out _ ?_; repeat (first | exact Below.refl _ _ | exact lim4 (by assumption) | refine Below.drew ?_ | refine below_drewN ?_ _ | refine Below.alloc ?_ (by first | exact (lim4 (by assumption) : Below W.heap.size W _).size | simp) _)))
    (first
      | (go_at_call 29; refine (cmpU_any _ _ _).mono ?_; rintro r w5 ⟨rfl, rfl⟩)
      | (go_at_call 28; refine (or_any (cmpU xa ya) (cmpU xs ys) _ _ (by simp) (by simp)).mono ?_; rintro r w6 ⟨rfl, rfl⟩; rw [← HI.out]))
  rename_i hHeld
  clear hHeld
  go_wp2
  go_ret
  have e := grow3 w (.cells #[.int .u64 xa, .int .u64 xs, .int .i64 xi] 43) (.cells #[.int .u64 ya, .int .u64 ys, .int .i64 yi] 43) (.cells #[.int .i64 (cmpU xa ya), .int .i64 (cmpU xs ys)] 3)
  rw [HW.out] at e
  exact ⟨rfl, 1, _, e⟩
theorem one_itc (x : It) : ∀ v ∈ itc x, v.oneCell' = true := fun v hv => by
  simp [itc] at hv; rcases hv with rfl | rfl | rfl <;> rfl
theorem cmpLays_any (blk size : Nat) (w : World) : CmpLays Try.prog 22 #[] itc 3 cmpI blk 0 size w := fun _ _ _ _ x y => compare_grow x y _
theorem hsort_any (w : World) (g n cap : Nat) (l L : List It) (h : ItemsT 43 w (.slice (some ⟨g, 0, none⟩) n cap) l) (hn : n = l.length) (hl : l.length ≤ 100000) (hL : L.Pairwise fun x y => ltI x y = true) (hp : L.Perm l) :
    Calls Try.prog 21 #[.slice (some ⟨g, 0, none⟩) n cap, .func (.func 22) #[] #[]] w fun r w' => r = .returned (.tuple #[]) ∧ ItemsT 43 w' (.slice (some ⟨g, 0, none⟩) n cap) L ∧ Chg [g] w w' := by
  obtain ⟨hH, hg⟩ := holds_items h
  have eg : ∀ args w, (callFunc 22 args).run Try.prog w = .ok (.enter 22 args) w := fun args w => by kernel_rfl
  have hcon := AnyQ.slices_SortFunc Try.sort_lays 3 Try.isAgg43 Try.sizeOf43 itc (fun _ => rfl) one_itc cmpI swo_cmpI 22 #[] g 0 cap l.toArray w eg (cmpLays_any g _ w) hH hg (by simp; omega)
  change Calls Try.prog 21 _ _ _ at hcon
  rw [List.size_toArray, ← hn] at hcon
  refine hcon.mono ?_
  rintro r w' ⟨rfl, d', m, os, ⟨hs, -, hperm⟩, hsort, rfl⟩
  have hs' : d'.size = l.length := by simpa using hs
  have e1 : d'.extract 0 n = d' := by rw [hn, ← hs']; exact Array.extract_size
  have e2 : l.toArray.extract 0 n = l.toArray := by
    have := Array.extract_size (xs := l.toArray)
    rw [List.size_toArray] at this
    rw [hn]; exact this
  rw [e1, e2] at hperm
  have hK : d'.toList = L := sorted_is hL (hperm.trans (by simpa using hp.symm)) (by
    rw [List.pairwise_iff_getElem]
    intro i j hi hj hij
    have hi' : i < d'.size := by simpa using hi
    have hj' : j < d'.size := by simpa using hj
    have := hsort i j (Nat.zero_le _) hij (by omega)
    rw [ltOf_cmpI, getElem!_pos d' i hi', getElem!_pos d' j hj'] at this
    unfold leI
    simpa using this)
  obtain ⟨r1, r2⟩ := sorted_items (m := m) (os := os) h (l' := L) (by rw [← hK, Array.length_toList, hs'])
  rw [← hK, Array.toArray_toList] at r1 r2
  rw [hK] at r1
  exact ⟨rfl, r1, r2⟩
theorem wpList_append_items {P : Program} {w : World} {ops : Array Oper} {rest : List Oper} {o : Oper} {ac : Act} {Q : Exit → Act → World → Prop} (hgd : o.guard = none) (sl x : Operand) (t : TypeId)
    (ho : o.op = .call { callee := .builtin .append, args := #[sl, x], argTypes := #[t, t] }) (e : TypeId) (i : TypeInfo) (z : Value) (ht : P.underlying t = some (.slice e)) (hi : P.info? e = some i) (hz : i.zero = some z) (hsize : i.size = 3) (hby : i.bytes = 24) (hzs : z.cells.size = 3)
    {a b : Option Addr} {n cap m c : Nat} {l l2 : List It} (hs : ac.eval sl = .slice a n cap) (hx : ac.eval x = .slice b m c) (ha : ItemsT e w (.slice a n cap) l) (hn : n = l.length) (hm : m = l2.length) (hb : 0 < m → ∃ ad, b = some ad ∧ ∀ j u, (icells l2)[j]? = some u → w.cell? (ad.add j) = some u) (hl : n + m ≤ 1000000)
    (h : ∀ a' cap' w', ItemsT e w' (.slice a' (n + m) cap') (l ++ l2) → Chg ((Value.slice a n cap).ownBlock.toList) w w' → (∀ x ∈ (Value.slice a' (n + m) cap').ownBlock.toList, x ∈ (Value.slice a n cap).ownBlock.toList ∨ w.heap.size ≤ x) → wpList P ops Q rest (ac.put o.dst (.slice a' (n + m) cap')) w') : wpList P ops Q (o :: rest) ac w := by
  refine wpList_plain hgd fun K hK => ?_
  obtain ⟨a', cap', w', hr, h2, h3, h4⟩ := append_items (P := P) (w := w) t o.type e i z ht hi hz hsize hby hzs ha hn hm (c := c) hb hl
  unfold Oper.wp execOp
  simp only [ho, resolve, invoke, builtin, Sem.run_bind, Sem.run_pure, Result.andThen_ok, List.map_toArray, List.map_cons, List.map_nil, hs, hx, hr]
  exact hK _ _ (h a' cap' w' h2 h3 h4)
/-- What Clone answers. -/
def Cloned (w : World) (l : List It) (r : Ending) (w' : World) : Prop :=
  ∃ v', r = .returned v' ∧ (v' = .slice none 0 0 ∧ l = [] ∨ ∃ g cap, v' = .slice (some ⟨g, 0, none⟩) l.length cap) ∧ ItemsT 43 w' v' l ∧ (∀ y ∈ v'.ownBlock.toList, w.heap.size ≤ y) ∧ Below w.heap.size w w'
set_option maxRecDepth 100000 in
set_option maxHeartbeats 1000000 in
theorem hclone_any (w : World) (v : Value) (l : List It) (h : ItemsT 43 w v l) (hl : l.length ≤ 100000) :
    Calls Try.prog 20 #[v] w (Cloned w l) := by
  have h' := h
  rcases h'.2 with ⟨rfl, h0⟩ | ⟨g, cap, cur, rfl, -, -, hcap, -⟩
  · have hl0 : l = [] := List.length_eq_zero_iff.1 h0
    subst hl0
    have he : ∀ w : World, (binOp .eql 24 (.slice none 0 0) (.slice none 0 0)).run Try.prog w = .ok (.bool true) w := fun _ => rfl
    clear h h'
    go_enter Try.func20, Try.ntmps20
    go_wp2
    go_ret
    exact ⟨_, rfl, .inl ⟨rfl, rfl⟩, ItemsT.nil _ _, fun y hy => by simp [Value.ownBlock] at hy, Below.refl _ _⟩
  · obtain ⟨i0, hi0, hz0, hz1, hz2⟩ := info_parts info_item
    have Hi := Lib.hid hi0; clear hi0
    have Hz0 := Lib.hid hz0; clear hz0
    have Hz1 := Lib.hid hz1; clear hz1
    have Hz2 := Lib.hid hz2; clear hz2
    have hn0 : ItemsT 43 (w.alloc (.cells #[] 43)) (.slice (some ⟨w.heap.size, 0, none⟩) 0 0) [] := World.ownsRow_made w #[] 0 (Nat.zero_le _) (by simp) (by simp)
    have hc : ∀ j u, (icells l)[j]? = some u → (w.alloc (.cells #[] 43)).cell? ((⟨g, 0, none⟩ : Addr).add j) = some u := fun j u hj => by
      have h1 := World.ownsRow.cells h (g := g) rfl j u hj
      rw [Addr.add_lit] at h1 ⊢
      exact cell_below h1 (below_alloc1 _ _)
    obtain ⟨n, hn⟩ : ∃ n, n = l.length := ⟨_, rfl⟩
    rw [← hn] at hcap hl ⊢
    have HN := Lib.hid hn
    have HN0 := Lib.hid hn0
    have HC := Lib.hid hc
    clear h h' hn hn0 hc
    have he : ∀ w : World, (binOp .eql 24 (.slice (some ⟨g, 0, none⟩) n cap) (.slice none 0 0)).run Try.prog w = .ok (.bool false) w := fun _ => rfl
    go_enter Try.func20, Try.ntmps20
    go_wp2_with (at_builtin; go_loud (refine wpList_append_items (l := []) (l2 := l) rfl _ _ 24 rfl 43 i0 _ Try.underlying24 Hi.out Hz0.out Hz1.out Hz2.out rfl rfl rfl HN0.out rfl HN.out (fun _ => ⟨_, rfl, HC.out⟩) (by omega) ?_); intro a1 c1 w1 k1 ch1 f1)
    have hb1 : Below w.heap.size w w1 := Chg.below (below_alloc1 _ _) ch1 (fun x hx => by simp [Value.ownBlock] at hx; omega)
    have hf : ∀ y ∈ (Value.slice a1 (0 + n) c1).ownBlock.toList, w.heap.size ≤ y := fun x hx => by
      rcases f1 x hx with h | h
      · simp [Value.ownBlock] at h; omega
      · simp at h; omega
    have hk : ItemsT 43 w1 (.slice a1 (0 + n) c1) l := by simpa using k1
    rw [Nat.zero_add] at hk hf
    have HF : Hid ((Value.slice a1 n c1 = .slice none 0 0 ∧ l = [] ∨ ∃ g cap, Value.slice a1 n c1 = .slice (some ⟨g, 0, none⟩) l.length cap) ∧ ItemsT 43 w1 (.slice a1 n c1) l ∧ (∀ y ∈ (Value.slice a1 n c1).ownBlock.toList, w.heap.size ≤ y) ∧ Below w.heap.size w w1) := Lib.hid ⟨by
      rcases hk.2 with ⟨e1, e2⟩ | ⟨g, cap, cur, e1, _⟩
      · exact .inl ⟨e1, List.length_eq_zero_iff.1 e2⟩
      · exact .inr ⟨g, cap, by rw [e1]⟩, hk, hf, hb1⟩
    clear hk hf hb1 k1 ch1 f1
    go_wp2
    go_ret
    exact ⟨_, rfl, HF.out⟩
set_option maxRecDepth 100000 in
set_option maxHeartbeats 1000000 in
theorem hlist_any (w : World) (p : Nat) (v : Value) (l L : List It) (nx : Nat) (h : HeapAt w p v l nx) (hl : l.length ≤ 100000) (hL : L.Pairwise fun x y => ltI x y = true) (hp : L.Perm l) :
    Calls Try.prog 14 #[.pointer (some ⟨p, 0, none⟩)] w fun r w' => ∃ v', r = .returned v' ∧ ItemsT 43 w' v' L ∧ (∀ y ∈ v'.ownBlock.toList, w.heap.size ≤ y) ∧ Below w.heap.size w w' := by
  obtain ⟨h1, h2, h3⟩ := h
  obtain ⟨c0, -⟩ := h1 0 _ rfl
  have hcl := hclone_any w v l h2 hl
  have HCL := Lib.hid hcl
  have HL := Lib.hid hL
  have HP := Lib.hid hp
  clear h1 h2 h3 hcl hL hp
  go_enter Try.func14, Try.ntmps14
  go_wp2_with (go_at_call 20; refine HCL.out.mono ?_; rintro r w1 ⟨v1, rfl, k1, k2, k3, k4⟩)
  have K2 := Lib.hid k2
  have K3 := Lib.hid k3
  have K4 := Lib.hid k4
  clear k2 k3 k4
  rcases k1 with ⟨rfl, rfl⟩ | ⟨g, cap, rfl⟩
  · have hL0 : L = [] := List.Perm.eq_nil HP.out
    refine (AnyF.slices_SortFunc_none Try.sort_lays none 0 (.func (.func 22) #[] #[]) _).mono ?_
    rintro r w2 ⟨rfl, rfl⟩
    go_wp2_with fail
    go_ret
    exact ⟨_, rfl, by rw [hL0]; exact ItemsT.nil _ _, fun y hy => by simp [Value.ownBlock] at hy, K4.out⟩
  · have hgw : w.heap.size ≤ g := K3.out g (by simp [Value.ownBlock])
    refine (hsort_any w1 g l.length cap l L K2.out rfl hl HL.out HP.out).mono ?_
    rintro r w2 ⟨rfl, k5, k6⟩
    have hb2 : Below w.heap.size w w2 := Chg.below K4.out k6 (fun x hx => by simp at hx; subst hx; exact hgw)
    have K5 := Lib.hid k5
    have HB2 := Lib.hid hb2
    clear k5 k6 hb2
    go_wp2_with fail
    go_ret
    exact ⟨_, rfl, K5.out, K3.out, HB2.out⟩
end Go.Proofs.Ytljdckipnbdknaa
