/-
  Open of a log that has bytes behind it; slices of slices of decisions that came in.
-/
import Derived.Test.YtnpmapmdeldnmaaWLog5
import Derived.Test.YtnpmapmdeldnmaaRecsIn
import Derived.Test.YtnpmapmdeldnmaaWSome
import Derived.Test.YtnpmapmdeldnmaaWCut
open Go Go.RowKit Go.Deep
set_option linter.unusedVariables false
namespace Go.Proofs.Ytnpmapmdeldnmaa
theorem LogK.fresh {w0 w : World} {p : Nat} {s : SSt} {F : List Nat} (h1 : StoreAt w p s F) (h2 : ∀ x ∈ F, w0.heap.size ≤ x) (h3 : Below w0.heap.size w0 w) (z : Int) (n m : Nat) (hn : n ≤ 1099511627776) (hm : m ≤ 1099511627776) (t : TypeId) :
    LogK w0 (w.alloc (.cells #[.pointer (some ⟨p, 0, none⟩), .int .i64 (min (max z 1) 400), .int .u64 (n : Int), .int .i64 (m : Int), .slice none 0 0] t)) p w.heap.size s ⟨sizeOf_ z, n, m, []⟩ (F ++ [w.heap.size]) := by
  refine ⟨F, [w.heap.size], h1.chg (Chg.of_below (F := []) (below_alloc1 _ _)) (fun _ _ => by simp), ⟨⟨by simp only; unfold sizeOf_; omega, by simp only; unfold sizeOf_; omega, hn, hm, by simp, fun r hr => by simp at hr⟩, .slice none 0 0, by simp [Value.ownBlock], by simp [Value.ownBlock], ?_, World.ownsRow_nil _ _ _ _⟩, fun x hx => ?_, h2, fun x hx => ?_, below_on h3 (below_alloc1 _ _), rfl⟩
  · have e : BSt.cells ⟨sizeOf_ z, n, m, []⟩ p (.slice none 0 0) = [.pointer (some ⟨p, 0, none⟩), .int .i64 (min (max z 1) 400), .int .u64 (n : Int), .int .i64 (m : Int), .slice none 0 0] := by
      simp [BSt.cells, sizeOf_eq]
    rw [e]
    exact Blk.mk _ _ _ _ rfl
  · simp at hx; subst hx; intro hF; have := h1.lt _ hF; omega
  · simp at hx; subst hx; exact h3.size
set_option maxRecDepth 100000 in
set_option maxHeartbeats 2000000 in
theorem lopen_anyF {w0 w : World} {p : Nat} {s : SSt} {F : List Nat} (h : StoreAt w p s F) (hF : ∀ x ∈ F, w0.heap.size ≤ x) (hB : Below w0.heap.size w0 w) (z : Int) (hz1 : -9223372036854775808 ≤ z) (hz2 : z ≤ 9223372036854775807) (ha : s.armed = false) (hl : s.bs.length ≤ 1048576) :
    Calls Try.prog 6 #[.pointer (some ⟨p, 0, none⟩), .int .i64 z] w fun e w' => ∃ pb a cap K, e = .returned (.tuple #[.pointer (some ⟨pb, 0, none⟩), .slice a (recsOf (readR ⟨s.bs.toArray⟩)).length cap, .int .i64 0]) ∧
      (recsOf (readR ⟨s.bs.toArray⟩)).length ≤ cap ∧ cap ≤ maxLen ∧ RecsAt w' a (recsOf (readR ⟨s.bs.toArray⟩)) ∧ LogK w0 w' p pb s.opened (openedB s.bs z) K ∧ Chg F w w' ∧ ∀ x ∈ K, x ∈ F ∨ w.heap.size ≤ x := by
  have hinv : Inv w0 w p s := ⟨F, h, hF, hB⟩
  obtain ⟨T, hT⟩ : ∃ T, T = ByteArray.mk s.bs.toArray := ⟨_, rfl⟩
  have hTs : T.size = s.bs.length := by rw [hT, size_list]
  have hop : s.opened = if lastEnd (readR T) < s.bs.length then s.cut (lastEnd (readR T)) else s := by rw [hT]; rfl
  have hob : openedB s.bs z = ⟨sizeOf_ z, (readR T).length, (recsOf (readR T)).length, []⟩ := by rw [hT]; rfl
  rw [← hT]
  have hrl := readR_len T
  have hrs := readR_small T
  have hrc := recsOf_len (readR T) (fun x hx => (hrs x hx).1)
  have hle := lastEnd_le (readR T) s.bs.length (fun x hx => by rw [← hTs]; exact (hrs x hx).2)
  obtain ⟨R, hR⟩ : ∃ R, R = readR T := ⟨_, rfl⟩
  rw [← hR] at hop hob hrl hrs hrc hle ⊢
  obtain ⟨E, hE⟩ : ∃ E, E = lastEnd R := ⟨_, rfl⟩
  obtain ⟨n, hn⟩ : ∃ n, n = R.length := ⟨_, rfl⟩
  obtain ⟨L, hL⟩ : ∃ L, L = recsOf R := ⟨_, rfl⟩
  rw [← hE] at hop hle
  rw [← hn] at hob hrl hrc
  rw [← hL] at hob hrc ⊢
  obtain ⟨m, hm⟩ : ∃ m, m = L.length := ⟨_, rfl⟩
  rw [← hm] at hob hrc ⊢
  have hn2 : n ≤ 1048577 := by omega
  have hm2 : m ≤ 4294971392 := by omega
  clear hrs hrl hrc
  obtain ⟨N, hN⟩ : ∃ N, N = s.bs.length := ⟨_, rfl⟩
  rw [← hN] at hop hle hl hTs
  have HT := Lib.hid hT; clear hT
  have HR := Lib.hid hR; clear hR
  have HE := Lib.hid hE; clear hE
  have HN := Lib.hid hn; clear hn
  have HL := Lib.hid hL; clear hL
  have HM := Lib.hid hm; clear hm
  have HNN := Lib.hid hN; clear hN
  have HOP := Lib.hid hop; clear hop
  have HOB := Lib.hid hob; clear hob
  have HI := Lib.hid hinv; clear hinv
  have HH := Lib.hid h; clear h
  have HHF := Lib.hid hF; clear hF
  have HHB := Lib.hid hB; clear hB
  have hTs2 : T.size ≤ 1048576 := by omega
  clear hTs
  go_enter Try.func6, Try.ntmps6
  go_wp2_with fail
  refine (inv_bytes HI.out).mono ?_
  rintro e w1 ⟨rfl, rfl⟩
  rw [← HT.out]
  go_wp2_with fail
  refine (read_any T _ hTs2).mono ?_
  rintro e w1 ⟨a, cap, rfl, hc1, hc2, hat, hb1, hloc⟩
  rw [← HR.out, ← HE.out, ← HN.out, ← HL.out, ← HM.out]
  rw [← HR.out, ← HL.out] at hat
  rw [← HR.out, ← HL.out, ← HM.out] at hc1
  have I1 := Lib.hid (HI.out.step hb1)
  have i1 := HH.out
  have i2 := HHF.out
  have i3 := HHB.out
  have hFl := i1.lt
  have hs1 := hb1.size
  have HB1 := Lib.hid hb1
  have i1' := i1.chg (Chg.of_below (F := []) hb1) (fun _ _ => by simp)
  have i3' := below_on i3 hb1
  have A1 := Lib.hid hat; clear hat hb1 i1 i3
  have LOC := Lib.hid hloc; clear hloc
  have A2 := Lib.hid i1'; clear i1'
  have A3 := Lib.hid i2; clear i2
  have A4 := Lib.hid i3'; clear i3'
  have AF := Lib.hid hFl; clear hFl
  go_wp2_with fail
  refine (inv_len I1.out).mono ?_
  rintro e w2 ⟨rfl, rfl⟩
  rw [← HNN.out]
  by_cases hlt : E < N
  · have hs2 : s.opened = s.cut E := by rw [HOP.out, if_pos hlt]
    have HS2 := Lib.hid hs2; clear hs2
    have hcE : s.cutE = 0 := by unfold SSt.cutE SSt.may; rw [ha]; rfl
    have HCE := Lib.hid hcE; clear hcE
    go_wp2_with fail
    refine (scut_any p s F E _ A2.out (by have := HNN.out; omega)).mono ?_
    rintro e w3 ⟨rfl, s3, c3⟩
    rw [HCE.out]
    have R3 := Lib.hid (A1.out.chg c3 (fun g o t e hF => by have h1 := LOC.out g o t e; have h2 := AF.out g hF; omega))
    have S3 := Lib.hid s3; clear s3
    have B3 := Lib.hid (Chg.below A4.out c3 A3.out)
    have C3 := Lib.hid ((Chg.of_below (F := F) HB1.out).trans c3 (fun x hx => .inl hx)); clear c3
    go_wp2
    go_ret3
    refine ⟨w3.heap.size, a, cap, F ++ [w3.heap.size], rfl, hc1, hc2, R3.out.below (below_alloc1 _ _), ?_, C3.out.trans (Chg.of_below (F := []) (below_alloc1 _ _)) (fun x hx => by simp at hx), fun x hx => ?_⟩
    · rw [HS2.out, HOB.out]
      exact LogK.fresh S3.out A3.out B3.out z n m (by omega) (by omega) _
    · rw [List.mem_append, List.mem_singleton] at hx
      rcases hx with hx | rfl
      · exact .inl hx
      · exact .inr C3.out.size
  · have hs2 : s.opened = s := by rw [HOP.out, if_neg hlt]
    have HS2 := Lib.hid hs2; clear hs2
    go_wp2
    go_ret3
    refine ⟨w1.heap.size, a, cap, F ++ [w1.heap.size], rfl, hc1, hc2, A1.out.below (below_alloc1 _ _), ?_, (Chg.of_below (F := F) HB1.out).trans (Chg.of_below (F := []) (below_alloc1 _ _)) (fun x hx => by simp at hx), fun x hx => ?_⟩
    · rw [HS2.out, HOB.out]
      exact LogK.fresh A2.out A3.out A4.out z n m (by omega) (by omega) _
    · rw [List.mem_append, List.mem_singleton] at hx
      rcases hx with hx | rfl
      · exact .inl hx
      · exact .inr HB1.out.size
theorem openR_junk (s : ByteArray) (a : Nat) (t : List UInt8) (h : from_ s a = 63 :: t) : (openR s (a : Nat)).2.2.2 ≠ 0 := by
  unfold openR
  split
  · rw [Int.toNat_natCast, h]
    have e : markL (63 :: t) = 1 := by simp [markL]
    rw [e, if_neg (by omega)]; simp
  · simp
/-- Junk behind a log. -/
def Junk (m : List UInt8) : Prop := m = [] ∨ ∃ t, m = 63 :: t ∧ t.length ≤ 10
theorem Junk.len {m : List UInt8} (h : Junk m) : m.length ≤ 11 := by
  rcases h with rfl | ⟨t, rfl, ht⟩
  · simp
  · simp; omega
theorem read_junk (bs : List UInt8) (bat : List (List Rec)) (more : List UInt8) (h : bs = logL bat ++ more) (hb : Bat bat) (hl : bat.length ≤ 1000000) (hm : Junk more) :
    readR ⟨bs.toArray⟩ = seen 0 0 (bat.map bodyA) ∧ recsOf (readR ⟨bs.toArray⟩) = bat.flatten ∧ lastEnd (readR ⟨bs.toArray⟩) = (logL bat).length ∧ (readR ⟨bs.toArray⟩).length = bat.length := by
  rcases hm with rfl | ⟨t, rfl, ht⟩
  · exact read_log0 ⟨bs.toArray⟩ bat (by rw [h, List.append_nil]) hb hl
  · refine read_log ⟨bs.toArray⟩ bat (63 :: t) h hb hl (fun hc => openR_junk _ _ t ?_ hc.1)
    unfold from_
    show bs.drop _ = _
    rw [h, List.drop_left]
/-- The store behind Open. -/
theorem opened_log {s : SSt} {bat : List (List Rec)} {more : List UInt8} (h : s.bs = logL bat ++ more) (hb : Bat bat) (hl : bat.length ≤ 1000000) (hm : Junk more) (ha : s.armed = false) (hr : s.room = 1048576) (hs : s.safe = (logL bat).length) (z : Int) :
    LogOf s.opened (openedB s.bs z) bat ∧ (openedB s.bs z).wait = [] ∧ (openedB s.bs z).size = sizeOf_ z := by
  obtain ⟨e1, e2, e3, e4⟩ := read_junk s.bs bat more h hb hl hm
  have hlen := congrArg List.length h
  rw [List.length_append] at hlen
  have eb : openedB s.bs z = ⟨sizeOf_ z, bat.length, bat.flatten.length, []⟩ := by unfold openedB; rw [e2, e4]
  have es : s.opened.bs = logL bat ∧ s.opened.armed = false ∧ s.opened.room = 1048576 ∧ s.opened.safe = s.opened.bs.length := by
    unfold SSt.opened
    rw [e3]
    by_cases hc : (logL bat).length < s.bs.length
    · rw [if_pos hc]
      have hmay : s.may = true := by unfold SSt.may; rw [ha]; rfl
      have hcall : s.call = s := by unfold SSt.call; rw [ha]; rfl
      unfold SSt.cut
      rw [if_pos hmay, hcall]
      simp only
      rw [h, List.take_left]
      exact ⟨rfl, ha, hr, by omega⟩
    · rw [if_neg hc]
      have h0 : more = [] := List.length_eq_zero_iff.1 (by omega)
      subst h0
      rw [List.append_nil] at h
      exact ⟨h, ha, hr, by rw [hs, h]⟩
  rw [eb]
  exact ⟨⟨es.1, es.2.1, es.2.2.1, es.2.2.2, rfl, rfl, hb⟩, rfl, rfl⟩
/-- Slices of decisions in memory, behind one another, from a on. -/
def PartsAt (w : World) (a : Option Addr) (l : List (List Rec)) : Prop :=
  ∀ i (h : i < l.length), ∃ b off ai ci, a = some ⟨b, off, none⟩ ∧ w.cell? ⟨b, off + i, none⟩ = some (.slice ai l[i].length ci) ∧ IsRecs w ai l[i].length ci l[i]
theorem IsRecs.below {w w' : World} {a : Option Addr} {len cap : Nat} {l : List Rec} (h : IsRecs w a len cap l) (hb : Below w.heap.size w w') : IsRecs w' a len cap l := ⟨h.1, h.2.1, h.2.2.1, h.2.2.2.1.below hb, h.2.2.2.2⟩
theorem PartsAt.below {w w' : World} {a : Option Addr} {l : List (List Rec)} (h : PartsAt w a l) (hb : Below w.heap.size w w') : PartsAt w' a l := fun i hi => by
  obtain ⟨b, off, ai, ci, h1, h2, h3⟩ := h i hi
  exact ⟨b, off, ai, ci, h1, cell_below h2 hb, h3.below hb⟩
def IsParts (w : World) (a : Option Addr) (len cap : Nat) (l : List (List Rec)) : Prop := len = l.length ∧ len ≤ cap ∧ cap ≤ maxLen ∧ PartsAt w a l
theorem isParts_of {H : Type} {enc : TypeId × Value → H} {P : Program} {w : World} {base : Nat} {spare : Nat → Bool} {held : Bool} {t u e : TypeId} {f0 f1 : Field} {fuel : Nat} {a : Option Addr} {len cap : Nat} {x : DataW H × List MemPlace}
    (ht : P.underlying t = some (.slice u)) (hu : P.underlying u = some (.slice e)) (cu : P.cellsOf u = 1) (he : P.underlying e = some (.struct #[f0, f1])) (ce : P.cellsOf e = 2) (o0 : f0.offset = 0) (o1 : f1.offset = 1) (c0 : P.cellsOf f0.type = 1) (c1 : P.cellsOf f1.type = 1)
    (t0 : P.underlying f0.type = some (.int .i64)) (t1 : P.underlying f1.type = some (.int .u64))
    (h : DataW.trod enc P w base spare held fuel t [.slice a len cap] = some x) : ∃ l, IsParts w a len cap l := by
  rcases open_slice1 ht cu h with ⟨hcs, _⟩ | hx
  · simp at hcs
    obtain ⟨rfl, rfl, rfl⟩ := hcs
    exact ⟨[], rfl, Nat.le_refl _, Nat.zero_le _, fun i h => by simp at h⟩
  · obtain ⟨b, l', c', m, n, V, D, Pl, hcs, _, hl, hm, hmm, _, hi⟩ := hx
    simp at hcs
    obtain ⟨rfl, rfl, rfl⟩ := hcs
    have hlm : len ≤ m := by rw [hmm]; split <;> omega
    have hv : ∀ i : Fin len, ∃ l : List Rec, ∃ ai ci, w.cell? (b.add i.val) = some (.slice ai l.length ci) ∧ IsRecs w ai l.length ci l := fun i => by
      obtain ⟨g0, g1⟩ := hi i.val (by omega)
      obtain ⟨ai, li, ci, hV⟩ : ∃ ai li ci, V i.val = .slice ai li ci := by
        rcases open_slice hu g1 with ⟨hcs, _⟩ | ⟨a2, l2, c2, _, _, _, _, hcs, _⟩
        · simp at hcs; exact ⟨none, 0, 0, hcs⟩
        · simp at hcs; exact ⟨_, _, _, hcs⟩
      rw [hV] at g0 g1
      obtain ⟨l, hr⟩ := isRecs_of hu he ce o0 o1 c0 c1 t0 t1 g1
      obtain rfl := hr.1
      exact ⟨l, ai, ci, g0, hr⟩
    refine ⟨List.ofFn fun i : Fin len => Classical.choose (hv i), by simp, hl, hm, fun i h => ?_⟩
    simp at h
    obtain ⟨ai, ci, h1, h2⟩ := Classical.choose_spec (hv ⟨i, h⟩)
    simp only [List.getElem_ofFn]
    obtain ⟨bb, off, spot⟩ := b
    obtain rfl : spot = none := by
      obtain ⟨g0, _⟩ := hi 0 (by omega)
      simpa [Addr.add] using World.cell?_spot g0
    exact ⟨bb, off, ai, ci, rfl, by rw [← Go.WideShapes.add_plain]; exact h1, h2⟩
end Go.Proofs.Ytnpmapmdeldnmaa
