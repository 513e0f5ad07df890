/-
  Slices of items of whatever type of that form, as pieces of memory.
-/
import Derived.Test.YtljdckipnbdknaaWHeap7
open Go Go.RowKit
set_option linter.unusedVariables false
namespace Go.Proofs.Ytljdckipnbdknaa
def ItemsT (t : TypeId) (w : World) (v : Value) (l : List It) : Prop := w.ownsRow 0 t 3 v l.length (icells l)
theorem ItemsT.chg {t : TypeId} {F : List Nat} {w w' : World} {v : Value} {l : List It} (h : ItemsT t w v l) (c : Chg F w w') (hd : ∀ x ∈ v.ownBlock.toList, x ∉ F) : ItemsT t w' v l := owns_chg h c (fun g hg => hd g (by rw [hg]; simp))
theorem ItemsT.below {t : TypeId} {w w' : World} {v : Value} {l : List It} (h : ItemsT t w v l) (hb : Below w.heap.size w w') : ItemsT t w' v l := h.chg (Chg.of_below (F := []) hb) (fun _ _ => by simp)
theorem ItemsT.lt {t : TypeId} {w : World} {v : Value} {l : List It} (h : ItemsT t w v l) : ∀ x ∈ v.ownBlock.toList, x < w.heap.size := fun x hx => owns_lt h x (by simpa using hx)
theorem ItemsT.slice {t : TypeId} {w : World} {v : Value} {l : List It} (h : ItemsT t w v l) : ∃ a cap, v = .slice a l.length cap ∧ l.length ≤ cap := by
  rcases h.2 with ⟨rfl, h0⟩ | ⟨g, cap, cur, rfl, _, _, h1, _⟩
  · exact ⟨none, 0, by rw [h0], by omega⟩
  · exact ⟨_, cap, rfl, h1⟩
theorem ItemsT.cells {t : TypeId} {w : World} {a : Option Addr} {n cap : Nat} {l : List It} (h : ItemsT t w (.slice a n cap) l) (i : Nat) (hi : i < l.length) :
    ∃ g, a = some ⟨g, 0, none⟩ ∧ w.cell? ⟨g, i * 3, none⟩ = some (.int .u64 (gI l i).at_) ∧ w.cell? ⟨g, i * 3 + 1, none⟩ = some (.int .u64 (gI l i).seq) ∧ w.cell? ⟨g, i * 3 + 2, none⟩ = some (.int .i64 (gI l i).id) := by
  rcases h.2 with ⟨_, h0⟩ | ⟨g, cap', cur, hv, _⟩
  · omega
  · simp only [Value.slice.injEq] at hv
    obtain ⟨rfl, _, _⟩ := hv
    obtain ⟨h1, h2, h3⟩ := icells_at l i hi
    have hc : ∀ j u, (icells l)[j]? = some u → w.cell? ⟨g, j, none⟩ = some u := fun j u hj => by
      have := World.ownsRow.cells h (g := g) rfl j u hj
      rwa [Addr.add_lit, Nat.zero_add] at this
    exact ⟨g, rfl, hc _ _ h1, hc _ _ h2, hc _ _ h3⟩
theorem ItemsT.nil (t : TypeId) (w : World) : ItemsT t w (.slice none 0 0) [] := World.ownsRow_nil _ _ _ _
def ItA (t : TypeId) (v : Value) (l : List It) : Asr where
  at_ w F := F = v.ownBlock.toList ∧ ItemsT t w v l
  lt := by rintro w F ⟨rfl, h⟩; exact h.lt
  chg := by rintro w w' F G ⟨rfl, h⟩ c hd; exact ⟨rfl, h.chg c hd⟩
/-- A slice without anything, in a block of its own. -/
theorem Own.noItems {w0 w : World} {As : List Asr} (h : Own w0 w As) (t : TypeId) {b : Nat} (hb : b = w.heap.size) : Own w0 (w.alloc (.cells #[] t)) (ItA t (.slice (some ⟨b, 0, none⟩) 0 0) [] :: As) := by
  subst hb
  exact h.add (below_alloc1 _ _) (F := [w.heap.size]) ⟨rfl, World.ownsRow_made w #[] 0 (Nat.zero_le _) (by simp) (by simp)⟩ (fun x hx => by simp at hx; omega)
theorem Own.items {w0 w : World} {As : List Asr} (h : Own w0 w As) (i : Nat) {t : TypeId} {v : Value} {l : List It} (hi : As[i]? = some (ItA t v l)) : ItemsT t w v l := by
  obtain ⟨F, ⟨_, h1⟩, _⟩ := h.fact i hi; exact h1
/-- One more, by append: what is appended was laid in a block ahead. -/
theorem Own.appItem {w0 w w2 : World} {R : List Asr} {t : TypeId} {a : Option Addr} {n c g cap : Nat} {l : List It} {o : Obj} (h : Own w0 w (ItA t (.slice a n c) l :: R)) (hn : n = l.length) {x : It}
    (hown : w2.ownsRow 0 t 3 (.slice (some ⟨g, 0, none⟩) (n + 1) cap) (n + 1) (icells l ++ [.int .u64 x.at_, .int .u64 x.seq, .int .i64 x.id])) (hgr : (w.alloc o).grownBy w2 (Value.slice a n c).ownBlock)
    (hlies : (Value.slice a n c).ownBlock = some g ∨ g = w.heap.size + 1) : Own w0 w2 (ItA t (.slice (some ⟨g, 0, none⟩) (n + 1) cap) (l ++ [x]) :: R) := by
  refine Own.turn (As := [ItA t (.slice a n c) l]) (As' := [ItA t (.slice (some ⟨g, 0, none⟩) (n + 1) cap) (l ++ [x])]) (R := R) h (fun F hF => ?_)
  obtain ⟨rfl, h1⟩ := sep_one.1 hF
  refine ⟨[g], sep_one.2 ⟨rfl, ?_⟩, (Chg.of_below (below_alloc1 _ _)).trans (grownBy_chg hgr) (fun x hx => .inl hx), fun y hy => ?_⟩
  · unfold ItemsT
    rw [List.length_append, ← hn, icells_app]; exact hown
  · simp at hy
    subst hy
    rcases hlies with h | h
    · left; rw [h]; simp
    · right; omega
theorem info_xitem : (Try.prog.info? 48).map (fun i => (i.zero, i.size, i.bytes)) = some (some (.agg #[.int .u64 0, .int .u64 0, .int .i64 0]), 3, 24) := by kernel_rfl
/-- The document's heap as a value. -/
def xhv (v : Value) (q : Nat) : Value := .agg #[v, .int .u64 (q : Int)]
/-- Cancel: all but those of a number. -/
def xCancel (l : List It) (s : Int) : List It := l.filter fun y => y.seq != s
theorem take_filter_succ (l : List It) (i : Nat) (h : i < l.length) (s : Int) : xCancel (l.take (i + 1)) s = if (gI l i).seq != s then xCancel (l.take i) s ++ [gI l i] else xCancel (l.take i) s := by
  unfold xCancel
  rw [List.take_succ_eq_append_getElem h, List.filter_append, gI_of h]
  split
  · rename_i hh; simp [hh]
  · rename_i hh; simp [hh]
theorem xCancel_len (l : List It) (s : Int) : (xCancel l s).length ≤ l.length := List.length_filter_le _ _
set_option maxRecDepth 100000 in
set_option maxHeartbeats 2000000 in
theorem xcancel_any (w : World) (v : Value) (l : List It) (q : Nat) (s : Int) (h : ItemsT 48 w v l) (hl : l.length ≤ 100000) :
    Calls Try.prog 8 #[xhv v q, .int .u64 s] w fun r w' => ∃ v', r = .returned (.tuple #[xhv v' q, .bool (decide ((xCancel l s).length < l.length))]) ∧ ItemsT 48 w' v' (xCancel l s) ∧ (∀ y ∈ v'.ownBlock.toList, w.heap.size ≤ y) ∧ Below w.heap.size w w' := by
  obtain ⟨a0, c0, rfl, hc0⟩ := h.slice
  obtain ⟨n, hn⟩ : ∃ n, n = l.length := ⟨_, rfl⟩
  rw [← hn] at h hl hc0 ⊢
  have H := Lib.hid h
  have HN := Lib.hid hn
  clear h hn
  unfold xhv
  obtain ⟨i0, hi0, hz0, hz1, hz2⟩ := info_parts info_xitem
  have Hi := Lib.hid hi0; clear hi0
  have Hz0 := Lib.hid hz0; clear hz0
  have Hz1 := Lib.hid hz1; clear hz1
  have Hz2 := Lib.hid hz2; clear hz2
  obtain ⟨s0, hs0⟩ : ∃ s0, s0 = w.heap.size := ⟨_, rfl⟩
  have hO : Own w (((w.alloc (.cells #[.slice a0 n c0, .int .u64 (q : Int)] 30)).alloc (.cells #[.slice none 0 0, .int .u64 0] 30)).alloc (.cells #[] 48)) [ItA 48 (.slice (some ⟨s0 + 1 + 1, 0, none⟩) 0 0) [], CelA (s0 + 1) [.slice none 0 0, .int .u64 0], CelA s0 [.slice a0 n c0, .int .u64 (q : Int)]] :=
    (((Own.nil (Below.refl _ _)).alloc [.slice a0 n c0, .int .u64 (q : Int)] _ hs0).alloc [.slice none 0 0, .int .u64 0] _ (by simp [hs0])).noItems _ (by simp [hs0])
  have HO := Lib.hid hO
  have HS := Lib.hid hs0
  clear hO
  go_enter Try.func8, Try.ntmps8
  go_upto_region 2 with fail
  rw [← hs0]
  clear hs0
  generalize ((w.alloc (.cells #[.slice a0 n c0, .int .u64 (q : Int)] 30)).alloc (.cells #[.slice none 0 0, .int .u64 0] 30)).alloc (.cells #[] 48) = W at *
  obtain ⟨g0, -⟩ := HO.out.cel 2 rfl 0 _ rfl
  go_wp2_with fail
  go_loopw [6, 13] (fun t6 c wr => ∃ i : Nat, ∃ a6 n6 c6, i ≤ n ∧ n6 ≤ 100000 ∧ c = .int .i64 i ∧ t6 = .slice a6 n6 c6 ∧ Hid (n6 = (xCancel (l.take i) s).length ∧ Own w wr [ItA 48 (.slice a6 n6 c6) (xCancel (l.take i) s), CelA (s0 + 1) [.slice none 0 0, .int .u64 0], CelA s0 [.slice a0 n c0, .int .u64 (q : Int)]])) (fun _ c _ => n - (intOf c).toNat)
  case atStart => exact ⟨0, _, _, _, by omega, by omega, rfl, rfl, rfl, HO.out⟩
  case round =>
    obtain ⟨i, a6, n6, c6, hi, hn6, rfl, rfl, hr⟩ := hrel
    by_cases hlt : i < n
    · obtain ⟨g, rfl, d1, d2, d3⟩ := (H.out.below hr.out.2.bel).cells i (by have := HN.out; omega)
      have hts := take_filter_succ l i (by have := HN.out; omega) s
      have hli : (i : Int) < (n : Int) := by omega
      obtain ⟨x, hx⟩ : ∃ x, x = gI l i := ⟨_, rfl⟩
      rw [← hx] at d1 d2 d3 hts
      obtain ⟨xa, xs, xi⟩ := x
      simp only at d1 d2 d3 hts
      have hlen1 : (xCancel (l.take (i + 1)) s).length ≤ 100000 := by have h1 := xCancel_len (l.take (i + 1)) s; rw [List.length_take] at h1; omega
      clear hx g0
      cases hne : (xs != s) with
      | true =>
        rw [hne, if_pos rfl] at hts
        have HTS := Lib.hid hts
        have hO2 := hr.out.2.step (below_alloc1 wr (.cells #[.int .u64 xa, .int .u64 xs, .int .i64 xi] 48))
        have hown0 : ∀ o, ((wr.alloc (.cells #[.int .u64 xa, .int .u64 xs, .int .i64 xi] 48)).alloc o).ownsRow 0 48 3 (.slice a6 n6 c6) n6 (icells (xCancel (l.take i) s)) := fun o => by
          have h := (hO2.step (below_alloc1 _ o)).items 0 rfl
          unfold ItemsT at h
          rw [← hr.out.1] at h; exact h
        have HOWN := Lib.hid hown0
        have HO2 := Lib.hid hO2
        have hn6b : n6 + 1 ≤ 100000 := by rw [hts, List.length_append, ← hr.out.1] at hlen1; simpa using hlen1
        clear hts hO2 hown0 hlen1
        go_wp2_with (at_builtin; go_loud (refine wpList_append_lies _ rfl _ _ 28 rfl 0 48 i0 _ 3 24 Try.underlying28 Hi.out Hz0.out Hz1.out Hz2.out rfl (by decide) _ n6 (icells (xCancel (l.take i) s)) rfl (HOWN.out _) ⟨wr.heap.size + 1, 0, none⟩ 1 1 [.int .u64 xa, .int .u64 xs, .int .i64 xi] rfl rfl (three_new _ _ _ _ _ (by simp)) (by simp [Value.oneCell']) (by omega) (by unfold maxLen; omega) (by omega) (Nat.zero_le _) (wr.heap.size + 1 + 1) (by simp) ?_))
        intro g9 c9 w2 hown hgr hlies hglt
        have hA := HO2.out.appItem hr.out.1 (x := ⟨xa, xs, xi⟩) hown hgr (by simpa using hlies)
        rw [← HTS.out] at hA
        have HF : Hid (n6 + 1 = (xCancel (l.take (i + 1)) s).length ∧ Own w w2 [ItA 48 (.slice (some ⟨g9, 0, none⟩) (n6 + 1) c9) (xCancel (l.take (i + 1)) s), CelA (s0 + 1) [.slice none 0 0, .int .u64 0], CelA s0 [.slice (some ⟨g, 0, none⟩) n c0, .int .u64 (q : Int)]]) := ⟨by rw [HTS.out, List.length_append, ← hr.out.1]; rfl, hA⟩
        clear hA hown hgr hlies hglt hne
        go_wp2
        exact ⟨⟨i + 1, _, _, _, by omega, hn6b, by go_num, rfl, HF⟩, by simp [intOf]; omega⟩
      | false =>
        rw [hne, if_neg (by simp)] at hts
        have HF : ∀ o, Hid (n6 = (xCancel (l.take (i + 1)) s).length ∧ Own w (wr.alloc o) [ItA 48 (.slice a6 n6 c6) (xCancel (l.take (i + 1)) s), CelA (s0 + 1) [.slice none 0 0, .int .u64 0], CelA s0 [.slice (some ⟨g, 0, none⟩) n c0, .int .u64 (q : Int)]]) := fun o => ⟨by rw [hts]; exact hr.out.1, by rw [hts]; exact hr.out.2.step (below_alloc1 _ _)⟩
        clear hts hlen1
        go_wp2
        exact ⟨⟨i + 1, _, _, _, by omega, hn6, by go_num, rfl, HF _⟩, by simp [intOf]; omega⟩
    · obtain rfl : n = i := by omega
      have hr' := hr.out
      rw [List.take_of_length_le (by have := HN.out; omega)] at hr'
      have HR := Lib.hid hr'.2
      have hln := hr'.1
      obtain ⟨g1, -⟩ := hr'.2.cel 2 rfl 1 _ rfl
      obtain ⟨g2, -⟩ := hr'.2.cel 2 rfl 0 _ rfl
      obtain ⟨r0, t0⟩ := hr'.2.cel 1 rfl 0 _ rfl
      obtain ⟨r1, t1⟩ := hr'.2.cel 1 rfl 1 _ rfl
      have HLN := Lib.hid hln
      have hend : ∀ v0 v1, (fun W => ItemsT 48 W (.slice a6 n6 c6) (xCancel l s) ∧ (∀ y ∈ (Value.slice a6 n6 c6).ownBlock.toList, w.heap.size ≤ y) ∧ Below w.heap.size w W) ((wr.setCell ⟨s0 + 1, 0, none⟩ v0).setCell ⟨s0 + 1, 1, none⟩ v1).drew := fun v0 v1 => by
        have hO3 := ((HR.out.setAt 1 rfl 0 v0).setAt 1 rfl 1 v1).step (below_drew1 _)
        obtain ⟨F, ⟨hF, h1⟩, h2⟩ := hO3.fact 0 rfl
        subst hF
        exact ⟨h1, h2, hO3.bel⟩
      have HE := Lib.hid hend
      clear hr hr' hln g0 hend
      go_wp2_with fail
      go_region
      go_wp2
      exact bodyPost_ret (v := .tuple #[.agg #[.slice a6 n6 c6, .int .u64 (q : Int)], .bool (decide (n6 < n))]) (by simp [results, Try.results8, go_sem, r0, r1]) rfl ⟨.slice a6 n6 c6, by rw [HLN.out], HE.out _ _⟩
/-- Wake: those that wake, the others. -/
def xWakes (l : List It) (now : Int) : Nat := (l.takeWhile fun y => decide (y.at_ ≤ now)).length
theorem xWakes_le (l : List It) (now : Int) : xWakes l now ≤ l.length := by
  unfold xWakes
  induction l with
  | nil => simp
  | cons x l ih => rw [List.takeWhile_cons]; split <;> simp <;> omega
theorem xWakes_in (l : List It) (now : Int) : ∀ i, i < xWakes l now → (gI l i).at_ ≤ now := by
  induction l with
  | nil => intro i h; simp [xWakes] at h
  | cons x l ih =>
    intro i h
    unfold xWakes at h
    rw [List.takeWhile_cons] at h
    split at h
    · rename_i hx
      cases i with
      | zero => simpa [gI] using hx
      | succ i => exact ih i (by simpa [xWakes] using h)
    · simp at h
theorem xWakes_at (l : List It) (now : Int) (h : xWakes l now < l.length) : now < (gI l (xWakes l now)).at_ := by
  induction l with
  | nil => simp at h
  | cons x l ih =>
    unfold xWakes at h ⊢
    rw [List.takeWhile_cons] at h ⊢
    by_cases hx : decide (x.at_ ≤ now) = true
    · rw [if_pos hx] at h ⊢
      simp only [List.length_cons] at h ⊢
      exact ih (by unfold xWakes; omega)
    · rw [if_neg hx]
      simp at hx
      exact hx
end Go.Proofs.Ytljdckipnbdknaa
