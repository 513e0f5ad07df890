/-
  Small lemmas that every walk uses. No program is named here.
-/
import Derived.WalkKit
import Derived.ProofKit
import Derived.Below
import Derived.WalkSpells
import Derived.WalkLawsBesides
import Derived.IntWalk
import Derived.Lib.Hide
import Derived.LoopTactic
import Derived.Deep.RegionWith
import Derived.Deep.MidRow
import Derived.Laws.IdiomCopy
import Derived.Laws.NewBlocks
import Derived.Laws.AppendOwn
import Derived.Lib.ConvBytes
open Go Go.RowKit
set_option linter.unusedVariables false
namespace Go.Proofs.YtdeilfnfpgjnnaaDoor
theorem ret_string {a b : ByteArray} (h : a = b) : Ending.returned (.string a) = .returned (.string b) := by rw [h]
theorem ret_int {k : IntKind} {a b : Int} (h : a = b) : Ending.returned (.int k a) = .returned (.int k b) := by rw [h]
theorem ret_bool {a b : Bool} (h : a = b) : Ending.returned (.bool a) = .returned (.bool b) := by rw [h]
theorem bcell {W w1 : World} (hb : Below W.heap.size W w1) : (∀ b o, b < W.heap.size → w1.cell? ⟨b, o, none⟩ = W.cell? ⟨b, o, none⟩) ∧ (∀ b o, b < W.heap.size → w1.frozen? ⟨b, o, none⟩ = W.frozen? ⟨b, o, none⟩) :=
  ⟨fun b o h => hb.cell (p := ⟨b, o, none⟩) h, fun b o h => hb.frozen (p := ⟨b, o, none⟩) h⟩

theorem below_on {a b c : World} (h : Below a.heap.size a b) (k : Below b.heap.size b c) : Below a.heap.size a c := h.trans (k.mono h.size)


/-- The cells of block b from its head on, that may be written. -/
def Blk (w : World) (b : Nat) (cs : List Value) : Prop := ∀ j v, cs[j]? = some v → w.cell? ⟨b, j, none⟩ = some v ∧ w.frozen? ⟨b, j, none⟩ = false
theorem Blk.at {w : World} {b : Nat} {cs : List Value} (h : Blk w b cs) (j : Nat) (hj : j < cs.length) : w.cell? ⟨b, j, none⟩ = some cs[j] ∧ w.frozen? ⟨b, j, none⟩ = false := h j _ (List.getElem?_eq_getElem hj)
theorem Blk.range {w : World} {b : Nat} {cs : List Value} (h : Blk w b cs) : w.rangeAt b 0 cs := fun j v hj => by rw [Nat.zero_add]; exact (h j v hj).1
theorem Blk.there {w : World} {b : Nat} {cs : List Value} (h : Blk w b cs) (n : Nat) (hn : n ≤ cs.length) : w.there b 0 n := fun j hj => by
  rw [Nat.zero_add]
  obtain ⟨h1, h2⟩ := h.at j (by omega)
  exact ⟨by rw [h1]; rfl, h2⟩
theorem Blk.new (w : World) (cs : Array Value) (t : TypeId) : Blk (w.alloc (.cells cs t)) w.heap.size cs.toList := fun j v hj => by
  refine ⟨?_, World.frozen?_alloc_at _ _ _ _ rfl⟩
  rw [World.cell?_alloc_at _ _ _ _ rfl]; simpa using hj
theorem Blk.mk (w : World) (l : List Value) (t : TypeId) (b : Nat) (hb : b = w.heap.size) : Blk (w.alloc (.cells l.toArray t)) b l := by subst hb; exact Blk.new w l.toArray t
theorem Blk.lt {w : World} {b : Nat} {cs : List Value} (h : Blk w b cs) (h0 : 0 < cs.length) : b < w.heap.size := World.block_lt_of_cell? w _ (h.at 0 h0).1
theorem Blk.below {w w' : World} {b : Nat} {cs : List Value} (h : Blk w b cs) (hb : Below w.heap.size w w') : Blk w' b cs := fun j v hj => by
  obtain ⟨h1, h2⟩ := h j v hj
  have hlt := World.block_lt_of_cell? w _ h1
  exact ⟨by rw [hb.cell (p := ⟨b, j, none⟩) hlt]; exact h1, by rw [hb.frozen (p := ⟨b, j, none⟩) hlt]; exact h2⟩
theorem Blk.set {w : World} {b : Nat} {cs : List Value} (h : Blk w b cs) (k : Nat) (v : Value) : Blk (w.setCell ⟨b, k, none⟩ v) b (cs.set k v) := fun j u hj => by
  by_cases e : j = k
  · subst e
    have hlt : j < cs.length := by
      have := (List.getElem?_eq_some_iff.1 hj).1
      simpa using this
    rw [List.getElem?_set_self hlt] at hj
    obtain rfl : v = u := by simpa using hj
    obtain ⟨h1, h2⟩ := h.at j hlt
    exact ⟨World.cell?_setCell_same' _ _ _ (by rw [h1]; rfl), by rw [World.frozen?_setCell]; exact h2⟩
  · rw [List.getElem?_set_ne (by omega)] at hj
    obtain ⟨h1, h2⟩ := h j u hj
    exact ⟨by rw [World.cell?_setCell_other _ _ _ _ (by simp; first | done | omega)]; exact h1, by rw [World.frozen?_setCell]; exact h2⟩
theorem Blk.setFar {w : World} {b c k : Nat} {cs : List Value} {v : Value} (h : Blk w b cs) (hne : b ≠ c) : Blk (w.setCell ⟨c, k, none⟩ v) b cs := fun j u hj => by
  obtain ⟨h1, h2⟩ := h j u hj
  exact ⟨by rw [World.cell?_setCell_other _ _ _ _ (by simp; first | done | omega)]; exact h1, by rw [World.frozen?_setCell]; exact h2⟩
theorem Blk.setCells {w : World} {b : Nat} {cs vs : List Value} (h : Blk w b cs) (hl : vs.length = cs.length) : Blk (w.setCells b 0 vs) b vs := fun j v hj => by
  have hlt := (List.getElem?_eq_some_iff.1 hj).1
  have h1 := World.rangeAt_setCells_same w b 0 vs (h.there vs.length (by omega)) j v hj
  rw [Nat.zero_add] at h1
  exact ⟨h1, by rw [World.frozen?_setCells]; exact (h.at j (by omega)).2⟩
theorem Blk.setCellsFar {w : World} {b c o : Nat} {cs vs : List Value} (h : Blk w b cs) (hne : b ≠ c) : Blk (w.setCells c o vs) b cs := fun j v hj => by
  obtain ⟨h1, h2⟩ := h j v hj
  exact ⟨by rw [World.cell?_setCells_out c vs o w _ (fun hb _ => absurd hb hne)]; exact h1, by rw [World.frozen?_setCells]; exact h2⟩
theorem Blk.alloc {w : World} {b : Nat} {cs : List Value} (h : Blk w b cs) (o : Obj) : Blk (w.alloc o) b cs := h.below ((Below.refl _ _).alloc (Nat.le_refl _) _)
theorem below_setCells {B : Nat} {w0 w : World} (h : Below B w0 w) (b : Nat) (hb : B ≤ b) : ∀ (vs : List Value) (o : Nat), Below B w0 (w.setCells b o vs) := fun vs => by
  induction vs generalizing w with
  | nil => intro o; exact h
  | cons v vs ih => intro o; rw [World.setCells]; exact ih (h.setCell hb _) (o + 1)
theorem take_set_succ {α : Type} : ∀ (l : List α) (k : Nat) (c : α), k < l.length → (l.set k c).take (k + 1) = l.take k ++ [c]
  | [], k, c, h => by simp at h
  | x :: l, 0, c, _ => by simp
  | x :: l, k + 1, c, h => by
    simp only [List.set_cons_succ, List.take_succ_cons, List.cons_append]
    rw [take_set_succ l k c (by simpa using h)]
/-- A result that lies in memory. -/
theorem results_cell {P : Program} {fn : Func} {p : Tmp} {ty : TypeId} {v : Value} {w w' : World} (h : fn.results = #[.cell p ty]) (tmps : Array Value) (a : Addr) (hp : tmps.getD p undef = .pointer (some a))
    (hl : (loadVar ty a).run P w = .ok v w') : (results fn tmps).run P w = .ok v w' := by
  have hp' : tmps[p]?.getD undef = .pointer (some a) := by simpa using hp
  simp [results, h, hp', asAddr, hl]
/-- Four results. -/
theorem results_tmp4 {fn : Func} {t u v x : Tmp} (h : fn.results = #[.tmp t, .tmp u, .tmp v, .tmp x]) (tmps : Array Value) (P : Program) (w : World) :
    (results fn tmps).run P w = .ok (.tuple #[tmps.getD t undef, tmps.getD u undef, tmps.getD v undef, tmps.getD x undef]) w := by
  simp [results, h]
theorem int_nat (k : IntKind) {a : Int} (h : 0 ≤ a) : Value.int k a = .int k (a.toNat : Int) := by rw [Int.toNat_of_nonneg h]
theorem extract_list (s : ByteArray) (i j : Nat) : (s.extract i j).data.toList = (s.data.toList.take j).drop i := by
  simp [ByteArray.data_extract, List.extract_eq_take_drop, List.drop_take]
theorem extract_size_le (s : ByteArray) (i j : Nat) : (s.extract i j).size ≤ s.size := by rw [ByteArray.size_extract]; omega
/-- What a region keeps: one cell, two cells. -/
theorem cell_below {w w' : World} {b o : Nat} {v : Value} (h : w.cell? ⟨b, o, none⟩ = some v) (hb : Below w.heap.size w w') : w'.cell? ⟨b, o, none⟩ = some v := by
  rw [hb.cell (p := ⟨b, o, none⟩) (World.block_lt_of_cell? w _ h)]; exact h
theorem st_step {W0 w w' : World} {b o : Nat} {v : Value} (h : w.cell? ⟨b, o, none⟩ = some v ∧ Below W0.heap.size W0 w) (hb : Below w.heap.size w w') : w'.cell? ⟨b, o, none⟩ = some v ∧ Below W0.heap.size W0 w' :=
  ⟨cell_below h.1 hb, below_on h.2 hb⟩
theorem st_step2 {W0 w w' : World} {b o b' o' : Nat} {v v' : Value} (h : w.cell? ⟨b, o, none⟩ = some v ∧ w.cell? ⟨b', o', none⟩ = some v' ∧ Below W0.heap.size W0 w) (hb : Below w.heap.size w w') :
    w'.cell? ⟨b, o, none⟩ = some v ∧ w'.cell? ⟨b', o', none⟩ = some v' ∧ Below W0.heap.size W0 w' :=
  ⟨cell_below h.1 hb, cell_below h.2.1 hb, below_on h.2.2 hb⟩
theorem st1_of {W w' : World} {b o : Nat} {v : Value} (h : Hid (W.cell? ⟨b, o, none⟩ = some v)) (hb : Below W.heap.size W w') : w'.cell? ⟨b, o, none⟩ = some v ∧ Below W.heap.size W w' := ⟨cell_below h.out hb, hb⟩
theorem st2_of {W w' : World} {b o b' o' : Nat} {v v' : Value} (h : Hid (W.cell? ⟨b, o, none⟩ = some v)) (h' : Hid (W.cell? ⟨b', o', none⟩ = some v')) (hb : Below W.heap.size W w') :
    w'.cell? ⟨b, o, none⟩ = some v ∧ w'.cell? ⟨b', o', none⟩ = some v' ∧ Below W.heap.size W w' := ⟨cell_below h.out hb, cell_below h'.out hb, hb⟩
theorem st1_b {W w' : World} {a : Addr} {v : Value} (h : w'.cell? a = some v ∧ Below W.heap.size W w') : Below W.heap.size W w' := h.2
theorem st2_b {W w' : World} {a a' : Addr} {v v' : Value} (h : w'.cell? a = some v ∧ w'.cell? a' = some v' ∧ Below W.heap.size W w') : Below W.heap.size W w' := h.2.2
theorem st3_of {W w' : World} {b o b' o' b'' o'' : Nat} {v v' v'' : Value} (h : Hid (W.cell? ⟨b, o, none⟩ = some v)) (h' : Hid (W.cell? ⟨b', o', none⟩ = some v')) (h'' : Hid (W.cell? ⟨b'', o'', none⟩ = some v'')) (hb : Below W.heap.size W w') :
    w'.cell? ⟨b, o, none⟩ = some v ∧ w'.cell? ⟨b', o', none⟩ = some v' ∧ w'.cell? ⟨b'', o'', none⟩ = some v'' ∧ Below W.heap.size W w' := ⟨cell_below h.out hb, cell_below h'.out hb, cell_below h''.out hb, hb⟩
theorem st3_b {W w' : World} {a a' a'' : Addr} {v v' v'' : Value} (h : w'.cell? a = some v ∧ w'.cell? a' = some v' ∧ w'.cell? a'' = some v'' ∧ Below W.heap.size W w') : Below W.heap.size W w' := h.2.2.2
theorem below_alloc1 (w : World) (o : Obj) : Below w.heap.size w (w.alloc o) := (Below.refl _ _).alloc (Nat.le_refl _) _
theorem below_drew1 (w : World) : Below w.heap.size w w.drew := (Below.refl _ _).drew
/-- The bytes that a block holds. -/
def Bytes (w : World) (b : Nat) (cs : List UInt8) : Prop :=
  (∀ i (h : i < cs.length), w.cell? ⟨b, i, none⟩ = some (.int .u8 (cs[i].toNat : Int))) ∧ (∀ i, i < cs.length → w.frozen? ⟨b, i, none⟩ = false)
theorem Bytes.set {w : World} {b : Nat} {cs : List UInt8} (h : Bytes w b cs) (k : Nat) (hk : k < cs.length) (c : UInt8) (v : Int) (hv : v = (c.toNat : Int)) :
    Bytes (w.setCell ⟨b, k, none⟩ (.int .u8 v)) b (cs.set k c) := by
  subst hv
  refine ⟨fun i hi => ?_, fun i hi => ?_⟩
  · simp at hi
    by_cases e : i = k
    · subst e
      rw [World.cell?_setCell_same' _ _ _ (by rw [h.1 i hk]; rfl)]
      simp
    · rw [World.cell?_setCell_other _ _ _ _ (by simp; first | done | omega), h.1 i hi, List.getElem_set_ne (by omega)]
  · simp at hi
    rw [World.frozen?_setCell]; exact h.2 i hi
/-- The cells of a new array of noughts. -/
theorem Bytes.fresh (w : World) (t : TypeId) (n : Nat) : Bytes (w.alloc (.cells (List.replicate n (Value.int .u8 0)).toArray t)) w.heap.size (List.replicate n 0) := by
  refine ⟨fun i hi => ?_, fun i hi => ?_⟩
  · simp at hi
    rw [World.cell?_alloc_mark]; simp [hi]
  · rw [World.frozen?_alloc_mark]; simp

theorem Bytes.below {w w' : World} {b : Nat} {cs : List UInt8} (h : Bytes w b cs) (hb : Below w.heap.size w w') : Bytes w' b cs := by
  refine ⟨fun i hi => cell_below (h.1 i hi) hb, fun i hi => ?_⟩
  rw [hb.frozen (p := ⟨b, i, none⟩) (World.block_lt_of_cell? w _ (h.1 i hi))]; exact h.2 i hi
/-- A text out of bytes in memory. -/
theorem conv_back {P : Program} {w : World} {g n cap : Nat} {cs : List UInt8} (h : Bytes w g cs) (hn : cs.length = n) (src dst e : TypeId) (hs : P.underlying src = some (.slice e)) (he : P.underlying e = some (.int .u8)) (hd : P.underlying dst = some .string) :
    (convert src dst (.slice (some ⟨g, 0, none⟩) n cap)).run P w = .ok (.string ⟨cs.toArray⟩) w := by
  subst hn
  exact run_convert_bytes_back (P := P) w src dst e ⟨g, 0, none⟩ cap cs hs he hd (fun j hj => by
    have := h.1 j hj
    by_cases h0 : j = 0
    · subst h0; exact this
    · simpa [Addr.add, h0] using this)
/-- A text's bytes in memory of their own. -/
theorem conv_bytes {P : Program} (w : World) (src dst e : TypeId) (s : ByteArray) (hs : P.underlying src = some .string) (hd : P.underlying dst = some (.slice e)) (he : P.underlying e = some (.int .u8)) :
    ∃ cap w2, (convert src dst (.string s)).run P w = .ok (.slice (some ⟨w.heap.size, 0, none⟩) s.size cap) w2 ∧ s.size ≤ cap ∧ Bytes w2 w.heap.size s.data.toList ∧ Below w.heap.size w w2 := by
  refine ⟨_, _, Go.Lib.run_convert_string_bytes w src dst e s hs hd he, grownCap_ge _ _ _ _, ⟨fun i hi => ?_, fun i hi => ?_⟩, ⟨rfl, rfl, rfl, ?_, fun k hk => Go.Lib.bytesWorld_at_old w e s k hk⟩⟩
  · rw [Go.Lib.bytesWorld_cell w e s i (by simpa using hi)]
    rw [List.getD_eq_getElem?_getD, List.getElem?_eq_getElem hi]; rfl
  · have hlt : i < (Go.Lib.bytesCells w e s).size := by
      have : i < s.size := by simpa using hi
      simp [Go.Lib.bytesCells]; omega
    simp [World.frozen?, Go.Lib.bytesWorld_at_new]
    omega
  · rw [Go.Lib.bytesWorld_size]; omega
/-- s[:m] of any slice. -/
theorem slice_head {P : Program} {t : TypeId} {s : Nat} (w : World) (ht : P.underlying t = some (.slice (P.elem t))) (hs : ∀ w, (sizeOf (P.elem t)).run P w = .ok s w) (a : Option Addr) (len cap m : Nat) (hm : m ≤ cap) :
    (Instr.slice t (.slice a len cap) none (some (.int .i64 (m : Int))) none).run P w = .ok (.slice a m cap) w := by
  rw [run_slice_h (P := P) (t := t) (ht := ht) (kh := .i64) (h := (m : Int)) (h0 := by omega) (h2 := by omega), hs]
  have : a.map (fun x : Addr => x.add 0) = a := by cases a <;> simp [Addr.add]
  simp [Result.andThen, sliced, this]
/-- s[l:] of a slice from its array's head on. -/
theorem slice_tail {P : Program} {t : TypeId} (ht : P.underlying t = some (.slice (P.elem t))) (hs : ∀ w, (sizeOf (P.elem t)).run P w = .ok 1 w) (g len cap m : Nat) (hm : m ≤ len) (hl : len ≤ cap) :
    ∃ o, (∀ w, (Instr.slice t (.slice (some ⟨g, 0, none⟩) len cap) (some (.int .i64 (m : Int))) none none).run P w = .ok (.slice (some ⟨g, o, none⟩) (len - m) (cap - m)) w) ∧ (o = m ∨ len - m = 0) := by
  by_cases hc : cap = m
  · refine ⟨0, fun w => ?_, .inr (by omega)⟩
    rw [run_slice_l (P := P) (t := t) (ht := ht) (kl := .i64) (l := (m : Int)) (h0 := by omega) (h1 := by omega), hs]
    simp [Result.andThen, sliced, hc]
  · refine ⟨m, fun w => ?_, .inl rfl⟩
    rw [run_slice_l (P := P) (t := t) (ht := ht) (kl := .i64) (l := (m : Int)) (h0 := by omega) (h1 := by omega), hs]
    simp [Result.andThen, sliced, hc, Addr.add]
    intro h; exact h.symm
/-- Texts in memory, behind one another, from a on. -/
def StrsAt (w : World) (a : Option Addr) (l : List ByteArray) : Prop :=
  ∀ i (h : i < l.length), ∃ b off, a = some ⟨b, off, none⟩ ∧ w.cell? ⟨b, off + i, none⟩ = some (.string l[i])
theorem StrsAt.below {w w' : World} {a : Option Addr} {l : List ByteArray} (h : StrsAt w a l) (hb : Below w.heap.size w w') : StrsAt w' a l := fun i hi => by
  obtain ⟨b, off, h1, h2⟩ := h i hi
  have hlt : b < w.heap.size := World.block_lt_of_cell? w _ h2
  exact ⟨b, off, h1, by rw [hb.cell (p := ⟨b, off + i, none⟩) hlt]; exact h2⟩
end Go.Proofs.YtdeilfnfpgjnnaaDoor
