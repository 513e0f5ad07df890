/-
  Texts put together: Base, Frame, IRow, IRow2, Sep, Pool, RowG, RowG2, WCh1, WCh2, WCh3, WCh4, WCh5, WCh6, WCh7.
-/
import Derived.WalkKit
import Derived.ProofKit
import Derived.Below
import Derived.WalkSpells
import Derived.WalkLawsBesides
import Derived.IntWalk
import Derived.Lib.Hide
import Derived.LoopTactic
import Derived.Deep.RegionWith
import Derived.Deep.MidRow
import Derived.Laws.IdiomCopy
import Derived.Laws.NewBlocks
import Derived.Laws.AppendOwn
import Derived.Lib.ConvBytes
import Derived.Lib.AppendStr
import Derived.ArgAppend
import Derived.Test.YtjidcagklakjaaaGreatRows
import Derived.Deep.QuietTactic
import Derived.BigQuiet
import Derived.WalkSmall
import Derived.Deep.DeepCutAuto
import Derived.RegionTactic
import Derived.Deep.RegionHeld3
import Derived.Deep.RegionLaw
/-
  Small lemmas that every walk uses. No program is named here.
-/
open Go Go.RowKit
set_option linter.unusedVariables false
namespace Go.Proofs.YtjidcagklakjaaaGreat
theorem ret_string {a b : ByteArray} (h : a = b) : Ending.returned (.string a) = .returned (.string b) := by rw [h]
theorem ret_int {k : IntKind} {a b : Int} (h : a = b) : Ending.returned (.int k a) = .returned (.int k b) := by rw [h]
theorem ret_bool {a b : Bool} (h : a = b) : Ending.returned (.bool a) = .returned (.bool b) := by rw [h]
theorem bcell {W w1 : World} (hb : Below W.heap.size W w1) : (∀ b o, b < W.heap.size → w1.cell? ⟨b, o, none⟩ = W.cell? ⟨b, o, none⟩) ∧ (∀ b o, b < W.heap.size → w1.frozen? ⟨b, o, none⟩ = W.frozen? ⟨b, o, none⟩) :=
  ⟨fun b o h => hb.cell (p := ⟨b, o, none⟩) h, fun b o h => hb.frozen (p := ⟨b, o, none⟩) h⟩

theorem below_on {a b c : World} (h : Below a.heap.size a b) (k : Below b.heap.size b c) : Below a.heap.size a c := h.trans (k.mono h.size)


/-- The cells of block b from its head on, that may be written. -/
def Blk (w : World) (b : Nat) (cs : List Value) : Prop := ∀ j v, cs[j]? = some v → w.cell? ⟨b, j, none⟩ = some v ∧ w.frozen? ⟨b, j, none⟩ = false
theorem Blk.at {w : World} {b : Nat} {cs : List Value} (h : Blk w b cs) (j : Nat) (hj : j < cs.length) : w.cell? ⟨b, j, none⟩ = some cs[j] ∧ w.frozen? ⟨b, j, none⟩ = false := h j _ (List.getElem?_eq_getElem hj)
theorem Blk.range {w : World} {b : Nat} {cs : List Value} (h : Blk w b cs) : w.rangeAt b 0 cs := fun j v hj => by rw [Nat.zero_add]; exact (h j v hj).1
theorem Blk.there {w : World} {b : Nat} {cs : List Value} (h : Blk w b cs) (n : Nat) (hn : n ≤ cs.length) : w.there b 0 n := fun j hj => by
  rw [Nat.zero_add]
  obtain ⟨h1, h2⟩ := h.at j (by omega)
  exact ⟨by rw [h1]; rfl, h2⟩
theorem Blk.new (w : World) (cs : Array Value) (t : TypeId) : Blk (w.alloc (.cells cs t)) w.heap.size cs.toList := fun j v hj => by
  refine ⟨?_, World.frozen?_alloc_at _ _ _ _ rfl⟩
  rw [World.cell?_alloc_at _ _ _ _ rfl]; simpa using hj
theorem Blk.mk (w : World) (l : List Value) (t : TypeId) (b : Nat) (hb : b = w.heap.size) : Blk (w.alloc (.cells l.toArray t)) b l := by subst hb; exact Blk.new w l.toArray t
theorem Blk.lt {w : World} {b : Nat} {cs : List Value} (h : Blk w b cs) (h0 : 0 < cs.length) : b < w.heap.size := World.block_lt_of_cell? w _ (h.at 0 h0).1
theorem Blk.below {w w' : World} {b : Nat} {cs : List Value} (h : Blk w b cs) (hb : Below w.heap.size w w') : Blk w' b cs := fun j v hj => by
  obtain ⟨h1, h2⟩ := h j v hj
  have hlt := World.block_lt_of_cell? w _ h1
  exact ⟨by rw [hb.cell (p := ⟨b, j, none⟩) hlt]; exact h1, by rw [hb.frozen (p := ⟨b, j, none⟩) hlt]; exact h2⟩
theorem Blk.set {w : World} {b : Nat} {cs : List Value} (h : Blk w b cs) (k : Nat) (v : Value) : Blk (w.setCell ⟨b, k, none⟩ v) b (cs.set k v) := fun j u hj => by
  by_cases e : j = k
  · subst e
    have hlt : j < cs.length := by
      have := (List.getElem?_eq_some_iff.1 hj).1
      simpa using this
    rw [List.getElem?_set_self hlt] at hj
    obtain rfl : v = u := by simpa using hj
    obtain ⟨h1, h2⟩ := h.at j hlt
    exact ⟨World.cell?_setCell_same' _ _ _ (by rw [h1]; rfl), by rw [World.frozen?_setCell]; exact h2⟩
  · rw [List.getElem?_set_ne (by omega)] at hj
    obtain ⟨h1, h2⟩ := h j u hj
    exact ⟨by rw [World.cell?_setCell_other _ _ _ _ (by simp; first | done | omega)]; exact h1, by rw [World.frozen?_setCell]; exact h2⟩
theorem Blk.setFar {w : World} {b c k : Nat} {cs : List Value} {v : Value} (h : Blk w b cs) (hne : b ≠ c) : Blk (w.setCell ⟨c, k, none⟩ v) b cs := fun j u hj => by
  obtain ⟨h1, h2⟩ := h j u hj
  exact ⟨by rw [World.cell?_setCell_other _ _ _ _ (by simp; first | done | omega)]; exact h1, by rw [World.frozen?_setCell]; exact h2⟩
theorem Blk.setCells {w : World} {b : Nat} {cs vs : List Value} (h : Blk w b cs) (hl : vs.length = cs.length) : Blk (w.setCells b 0 vs) b vs := fun j v hj => by
  have hlt := (List.getElem?_eq_some_iff.1 hj).1
  have h1 := World.rangeAt_setCells_same w b 0 vs (h.there vs.length (by omega)) j v hj
  rw [Nat.zero_add] at h1
  exact ⟨h1, by rw [World.frozen?_setCells]; exact (h.at j (by omega)).2⟩
theorem Blk.setCellsFar {w : World} {b c o : Nat} {cs vs : List Value} (h : Blk w b cs) (hne : b ≠ c) : Blk (w.setCells c o vs) b cs := fun j v hj => by
  obtain ⟨h1, h2⟩ := h j v hj
  exact ⟨by rw [World.cell?_setCells_out c vs o w _ (fun hb _ => absurd hb hne)]; exact h1, by rw [World.frozen?_setCells]; exact h2⟩
theorem Blk.alloc {w : World} {b : Nat} {cs : List Value} (h : Blk w b cs) (o : Obj) : Blk (w.alloc o) b cs := h.below ((Below.refl _ _).alloc (Nat.le_refl _) _)
theorem below_setCells {B : Nat} {w0 w : World} (h : Below B w0 w) (b : Nat) (hb : B ≤ b) : ∀ (vs : List Value) (o : Nat), Below B w0 (w.setCells b o vs) := fun vs => by
  induction vs generalizing w with
  | nil => intro o; exact h
  | cons v vs ih => intro o; rw [World.setCells]; exact ih (h.setCell hb _) (o + 1)
theorem take_set_succ {α : Type} : ∀ (l : List α) (k : Nat) (c : α), k < l.length → (l.set k c).take (k + 1) = l.take k ++ [c]
  | [], k, c, h => by simp at h
  | x :: l, 0, c, _ => by simp
  | x :: l, k + 1, c, h => by
    simp only [List.set_cons_succ, List.take_succ_cons, List.cons_append]
    rw [take_set_succ l k c (by simpa using h)]
/-- A result that lies in memory. -/
theorem results_cell {P : Program} {fn : Func} {p : Tmp} {ty : TypeId} {v : Value} {w w' : World} (h : fn.results = #[.cell p ty]) (tmps : Array Value) (a : Addr) (hp : tmps.getD p undef = .pointer (some a))
    (hl : (loadVar ty a).run P w = .ok v w') : (results fn tmps).run P w = .ok v w' := by
  have hp' : tmps[p]?.getD undef = .pointer (some a) := by simpa using hp
  simp [results, h, hp', asAddr, hl]
/-- Four results. -/
theorem results_tmp4 {fn : Func} {t u v x : Tmp} (h : fn.results = #[.tmp t, .tmp u, .tmp v, .tmp x]) (tmps : Array Value) (P : Program) (w : World) :
    (results fn tmps).run P w = .ok (.tuple #[tmps.getD t undef, tmps.getD u undef, tmps.getD v undef, tmps.getD x undef]) w := by
  simp [results, h]
theorem int_nat (k : IntKind) {a : Int} (h : 0 ≤ a) : Value.int k a = .int k (a.toNat : Int) := by rw [Int.toNat_of_nonneg h]
theorem extract_list (s : ByteArray) (i j : Nat) : (s.extract i j).data.toList = (s.data.toList.take j).drop i := by
  simp [ByteArray.data_extract, List.extract_eq_take_drop, List.drop_take]
theorem extract_size_le (s : ByteArray) (i j : Nat) : (s.extract i j).size ≤ s.size := by rw [ByteArray.size_extract]; omega
/-- What a region keeps: one cell, two cells. -/
theorem cell_below {w w' : World} {b o : Nat} {v : Value} (h : w.cell? ⟨b, o, none⟩ = some v) (hb : Below w.heap.size w w') : w'.cell? ⟨b, o, none⟩ = some v := by
  rw [hb.cell (p := ⟨b, o, none⟩) (World.block_lt_of_cell? w _ h)]; exact h
theorem st_step {W0 w w' : World} {b o : Nat} {v : Value} (h : w.cell? ⟨b, o, none⟩ = some v ∧ Below W0.heap.size W0 w) (hb : Below w.heap.size w w') : w'.cell? ⟨b, o, none⟩ = some v ∧ Below W0.heap.size W0 w' :=
  ⟨cell_below h.1 hb, below_on h.2 hb⟩
theorem st_step2 {W0 w w' : World} {b o b' o' : Nat} {v v' : Value} (h : w.cell? ⟨b, o, none⟩ = some v ∧ w.cell? ⟨b', o', none⟩ = some v' ∧ Below W0.heap.size W0 w) (hb : Below w.heap.size w w') :
    w'.cell? ⟨b, o, none⟩ = some v ∧ w'.cell? ⟨b', o', none⟩ = some v' ∧ Below W0.heap.size W0 w' :=
  ⟨cell_below h.1 hb, cell_below h.2.1 hb, below_on h.2.2 hb⟩
theorem st1_of {W w' : World} {b o : Nat} {v : Value} (h : Hid (W.cell? ⟨b, o, none⟩ = some v)) (hb : Below W.heap.size W w') : w'.cell? ⟨b, o, none⟩ = some v ∧ Below W.heap.size W w' := ⟨cell_below h.out hb, hb⟩
theorem st2_of {W w' : World} {b o b' o' : Nat} {v v' : Value} (h : Hid (W.cell? ⟨b, o, none⟩ = some v)) (h' : Hid (W.cell? ⟨b', o', none⟩ = some v')) (hb : Below W.heap.size W w') :
    w'.cell? ⟨b, o, none⟩ = some v ∧ w'.cell? ⟨b', o', none⟩ = some v' ∧ Below W.heap.size W w' := ⟨cell_below h.out hb, cell_below h'.out hb, hb⟩
theorem st1_b {W w' : World} {a : Addr} {v : Value} (h : w'.cell? a = some v ∧ Below W.heap.size W w') : Below W.heap.size W w' := h.2
theorem st2_b {W w' : World} {a a' : Addr} {v v' : Value} (h : w'.cell? a = some v ∧ w'.cell? a' = some v' ∧ Below W.heap.size W w') : Below W.heap.size W w' := h.2.2
theorem st3_of {W w' : World} {b o b' o' b'' o'' : Nat} {v v' v'' : Value} (h : Hid (W.cell? ⟨b, o, none⟩ = some v)) (h' : Hid (W.cell? ⟨b', o', none⟩ = some v')) (h'' : Hid (W.cell? ⟨b'', o'', none⟩ = some v'')) (hb : Below W.heap.size W w') :
    w'.cell? ⟨b, o, none⟩ = some v ∧ w'.cell? ⟨b', o', none⟩ = some v' ∧ w'.cell? ⟨b'', o'', none⟩ = some v'' ∧ Below W.heap.size W w' := ⟨cell_below h.out hb, cell_below h'.out hb, cell_below h''.out hb, hb⟩
theorem st3_b {W w' : World} {a a' a'' : Addr} {v v' v'' : Value} (h : w'.cell? a = some v ∧ w'.cell? a' = some v' ∧ w'.cell? a'' = some v'' ∧ Below W.heap.size W w') : Below W.heap.size W w' := h.2.2.2
theorem below_alloc1 (w : World) (o : Obj) : Below w.heap.size w (w.alloc o) := (Below.refl _ _).alloc (Nat.le_refl _) _
theorem below_drew1 (w : World) : Below w.heap.size w w.drew := (Below.refl _ _).drew
/-- The bytes that a block holds. -/
def Bytes (w : World) (b : Nat) (cs : List UInt8) : Prop :=
  (∀ i (h : i < cs.length), w.cell? ⟨b, i, none⟩ = some (.int .u8 (cs[i].toNat : Int))) ∧ (∀ i, i < cs.length → w.frozen? ⟨b, i, none⟩ = false)
theorem Bytes.set {w : World} {b : Nat} {cs : List UInt8} (h : Bytes w b cs) (k : Nat) (hk : k < cs.length) (c : UInt8) (v : Int) (hv : v = (c.toNat : Int)) :
    Bytes (w.setCell ⟨b, k, none⟩ (.int .u8 v)) b (cs.set k c) := by
  subst hv
  refine ⟨fun i hi => ?_, fun i hi => ?_⟩
  · simp at hi
    by_cases e : i = k
    · subst e
      rw [World.cell?_setCell_same' _ _ _ (by rw [h.1 i hk]; rfl)]
      simp
    · rw [World.cell?_setCell_other _ _ _ _ (by simp; first | done | omega), h.1 i hi, List.getElem_set_ne (by omega)]
  · simp at hi
    rw [World.frozen?_setCell]; exact h.2 i hi
/-- The cells of a new array of noughts. -/
theorem Bytes.fresh (w : World) (t : TypeId) (n : Nat) : Bytes (w.alloc (.cells (List.replicate n (Value.int .u8 0)).toArray t)) w.heap.size (List.replicate n 0) := by
  refine ⟨fun i hi => ?_, fun i hi => ?_⟩
  · simp at hi
    rw [World.cell?_alloc_mark]; simp [hi]
  · rw [World.frozen?_alloc_mark]; simp

theorem Bytes.below {w w' : World} {b : Nat} {cs : List UInt8} (h : Bytes w b cs) (hb : Below w.heap.size w w') : Bytes w' b cs := by
  refine ⟨fun i hi => cell_below (h.1 i hi) hb, fun i hi => ?_⟩
  rw [hb.frozen (p := ⟨b, i, none⟩) (World.block_lt_of_cell? w _ (h.1 i hi))]; exact h.2 i hi
/-- A text out of bytes in memory. -/
theorem conv_back {P : Program} {w : World} {g n cap : Nat} {cs : List UInt8} (h : Bytes w g cs) (hn : cs.length = n) (src dst e : TypeId) (hs : P.underlying src = some (.slice e)) (he : P.underlying e = some (.int .u8)) (hd : P.underlying dst = some .string) :
    (convert src dst (.slice (some ⟨g, 0, none⟩) n cap)).run P w = .ok (.string ⟨cs.toArray⟩) w := by
  subst hn
  exact run_convert_bytes_back (P := P) w src dst e ⟨g, 0, none⟩ cap cs hs he hd (fun j hj => by
    have := h.1 j hj
    by_cases h0 : j = 0
    · subst h0; exact this
    · simpa [Addr.add, h0] using this)
/-- A text's bytes in memory of their own. -/
theorem conv_bytes {P : Program} (w : World) (src dst e : TypeId) (s : ByteArray) (hs : P.underlying src = some .string) (hd : P.underlying dst = some (.slice e)) (he : P.underlying e = some (.int .u8)) :
    ∃ cap w2, (convert src dst (.string s)).run P w = .ok (.slice (some ⟨w.heap.size, 0, none⟩) s.size cap) w2 ∧ s.size ≤ cap ∧ Bytes w2 w.heap.size s.data.toList ∧ Below w.heap.size w w2 := by
  refine ⟨_, _, Go.Lib.run_convert_string_bytes w src dst e s hs hd he, grownCap_ge _ _ _ _, ⟨fun i hi => ?_, fun i hi => ?_⟩, ⟨rfl, rfl, rfl, ?_, fun k hk => Go.Lib.bytesWorld_at_old w e s k hk⟩⟩
  · rw [Go.Lib.bytesWorld_cell w e s i (by simpa using hi)]
    rw [List.getD_eq_getElem?_getD, List.getElem?_eq_getElem hi]; rfl
  · have hlt : i < (Go.Lib.bytesCells w e s).size := by
      have : i < s.size := by simpa using hi
      simp [Go.Lib.bytesCells]; omega
    simp [World.frozen?, Go.Lib.bytesWorld_at_new]
    omega
  · rw [Go.Lib.bytesWorld_size]; omega
/-- s[:m] of any slice. -/
theorem slice_head {P : Program} {t : TypeId} {s : Nat} (w : World) (ht : P.underlying t = some (.slice (P.elem t))) (hs : ∀ w, (sizeOf (P.elem t)).run P w = .ok s w) (a : Option Addr) (len cap m : Nat) (hm : m ≤ cap) :
    (Instr.slice t (.slice a len cap) none (some (.int .i64 (m : Int))) none).run P w = .ok (.slice a m cap) w := by
  rw [run_slice_h (P := P) (t := t) (ht := ht) (kh := .i64) (h := (m : Int)) (h0 := by omega) (h2 := by omega), hs]
  have : a.map (fun x : Addr => x.add 0) = a := by cases a <;> simp [Addr.add]
  simp [Result.andThen, sliced, this]
/-- s[l:] of a slice from its array's head on. -/
theorem slice_tail {P : Program} {t : TypeId} (ht : P.underlying t = some (.slice (P.elem t))) (hs : ∀ w, (sizeOf (P.elem t)).run P w = .ok 1 w) (g len cap m : Nat) (hm : m ≤ len) (hl : len ≤ cap) :
    ∃ o, (∀ w, (Instr.slice t (.slice (some ⟨g, 0, none⟩) len cap) (some (.int .i64 (m : Int))) none none).run P w = .ok (.slice (some ⟨g, o, none⟩) (len - m) (cap - m)) w) ∧ (o = m ∨ len - m = 0) := by
  by_cases hc : cap = m
  · refine ⟨0, fun w => ?_, .inr (by omega)⟩
    rw [run_slice_l (P := P) (t := t) (ht := ht) (kl := .i64) (l := (m : Int)) (h0 := by omega) (h1 := by omega), hs]
    simp [Result.andThen, sliced, hc]
  · refine ⟨m, fun w => ?_, .inl rfl⟩
    rw [run_slice_l (P := P) (t := t) (ht := ht) (kl := .i64) (l := (m : Int)) (h0 := by omega) (h1 := by omega), hs]
    simp [Result.andThen, sliced, hc, Addr.add]
    intro h; exact h.symm
/-- Texts in memory, behind one another, from a on. -/
def StrsAt (w : World) (a : Option Addr) (l : List ByteArray) : Prop :=
  ∀ i (h : i < l.length), ∃ b off, a = some ⟨b, off, none⟩ ∧ w.cell? ⟨b, off + i, none⟩ = some (.string l[i])
theorem StrsAt.below {w w' : World} {a : Option Addr} {l : List ByteArray} (h : StrsAt w a l) (hb : Below w.heap.size w w') : StrsAt w' a l := fun i hi => by
  obtain ⟨b, off, h1, h2⟩ := h i hi
  have hlt : b < w.heap.size := World.block_lt_of_cell? w _ h2
  exact ⟨b, off, h1, by rw [hb.cell (p := ⟨b, off + i, none⟩) hlt]; exact h2⟩
end Go.Proofs.YtjidcagklakjaaaGreat
/-
  What a call may change: blocks that it is told, and new ones. No program is named here.
-/
open Go Go.RowKit
set_option linter.unusedVariables false
namespace Go.Proofs.YtjidcagklakjaaaGreat
/-- Behind w the world w': all blocks but those of F are as they were; there may be new ones. -/
structure Chg (F : List Nat) (w w' : World) : Prop where
  os : w'.os = w.os
  tape : w'.tape = w.tape
  output : w'.output = w.output
  size : w.heap.size ≤ w'.heap.size
  block : ∀ k, k < w.heap.size → k ∉ F → w'.heap[k]? = w.heap[k]?
theorem Chg.refl (F : List Nat) (w : World) : Chg F w w := ⟨rfl, rfl, rfl, Nat.le_refl _, fun _ _ _ => rfl⟩
theorem Chg.trans {F G : List Nat} {a b c : World} (h : Chg F a b) (k : Chg G b c) (hg : ∀ x ∈ G, x ∈ F ∨ a.heap.size ≤ x) : Chg F a c :=
  ⟨k.os.trans h.os, k.tape.trans h.tape, k.output.trans h.output, Nat.le_trans h.size k.size, fun x hx hn => by
    rw [k.block x (Nat.lt_of_lt_of_le hx h.size) (fun hG => by rcases hg x hG with h1 | h1; exact hn h1; omega)]
    exact h.block x hx hn⟩
theorem Chg.mono {F G : List Nat} {a b : World} (h : Chg F a b) (hs : ∀ x ∈ F, x ∈ G) : Chg G a b := ⟨h.os, h.tape, h.output, h.size, fun k hk hn => h.block k hk (fun hF => hn (hs k hF))⟩
theorem Chg.of_below {F : List Nat} {w w' : World} (h : Below w.heap.size w w') : Chg F w w' := ⟨h.os, h.tape, h.output, h.size, fun k hk _ => h.block k hk⟩
theorem Chg.to_below {F : List Nat} {w w' : World} {B : Nat} (h : Chg F w w') (hF : ∀ x ∈ F, B ≤ x) (hB : B ≤ w.heap.size) : Below B w w' :=
  ⟨h.os, h.tape, h.output, h.size, fun k hk => h.block k (by omega) (fun hx => by have := hF k hx; omega)⟩
/-- .. from another world on. -/
theorem Chg.below {F : List Nat} {w0 w w' : World} (h0 : Below w0.heap.size w0 w) (h : Chg F w w') (hF : ∀ x ∈ F, w0.heap.size ≤ x) : Below w0.heap.size w0 w' := h0.trans (h.to_below hF h0.size)
theorem Chg.to_below0 {w w' : World} (h : Chg [] w w') : Below w.heap.size w w' := h.to_below (fun _ hx => by simp at hx) (Nat.le_refl _)
theorem Chg.setCell {F : List Nat} {w w' : World} (h : Chg F w w') {b k : Nat} (v : Value) (hb : b ∈ F ∨ w.heap.size ≤ b) : Chg F w (w'.setCell ⟨b, k, none⟩ v) :=
  ⟨h.os, h.tape, h.output, by rw [World.size_setCell]; exact h.size, fun x hx hn => by
    rw [Below.heap_setCell _ _ _ _ (fun e => by
      subst e
      rcases hb with hb | hb
      · exact hn hb
      · omega)]
    exact h.block x hx hn⟩
theorem Chg.setCells {F : List Nat} {w w' : World} (h : Chg F w w') {b : Nat} : ∀ (vs : List Value) (o : Nat), (b ∈ F ∨ w.heap.size ≤ b) → Chg F w (w'.setCells b o vs) := fun vs => by
  induction vs generalizing w' with
  | nil => intro o _; exact h
  | cons v vs ih => intro o hb; rw [World.setCells]; exact ih (h.setCell v hb) (o + 1) hb
theorem Chg.drewN {F : List Nat} {w w' : World} (h : Chg F w w') (n : Nat) : Chg F w (w'.drewN n) := ⟨h.os, h.tape, h.output, h.size, h.block⟩
theorem Chg.drew {F : List Nat} {w w' : World} (h : Chg F w w') : Chg F w w'.drew := ⟨h.os, h.tape, h.output, h.size, h.block⟩
theorem Chg.grown {F : List Nat} {w w1 w' : World} {row : Option Nat} (h : Chg F w w1) (hg : w1.grownBy w' row) (hr : ∀ x, row = some x → x ∈ F ∨ w.heap.size ≤ x) : Chg F w w' :=
  ⟨hg.os.trans h.os, hg.tape.trans h.tape, hg.output.trans h.output, Nat.le_trans h.size hg.size, fun x hx hn => by
    rw [hg.block x (Nat.lt_of_lt_of_le hx h.size) (fun e => by rcases hr x e.symm with h1 | h1; exact hn h1; omega)]
    exact h.block x hx hn⟩
theorem cell_of_heap {w w' : World} {b k : Nat} (h : w'.heap[b]? = w.heap[b]?) : w'.cell? ⟨b, k, none⟩ = w.cell? ⟨b, k, none⟩ := World.cell?_of_block (a := ⟨b, k, none⟩) h
theorem Blk.chg {F : List Nat} {w w' : World} {b : Nat} {cs : List Value} (h : Blk w b cs) (c : Chg F w w') (hb : b ∉ F) : Blk w' b cs := fun j v hj => by
  obtain ⟨h1, h2⟩ := h j v hj
  have hlt := World.block_lt_of_cell? w _ h1
  have hk := c.block b hlt hb
  exact ⟨by rw [cell_of_heap hk]; exact h1, by rw [World.frozen?_of_block (a := ⟨b, j, none⟩) hk]; exact h2⟩
theorem cell_chg {F : List Nat} {w w' : World} {b k : Nat} {v : Value} (h : w.cell? ⟨b, k, none⟩ = some v) (c : Chg F w w') (hb : b ∉ F) : w'.cell? ⟨b, k, none⟩ = some v := by
  rw [cell_of_heap (c.block b (World.block_lt_of_cell? w _ h) hb)]; exact h
theorem owns_chg {F : List Nat} {w w' : World} {base n size : Nat} {e : TypeId} {v : Value} {xs : List Value} (h : w.ownsRow base e size v n xs) (c : Chg F w w') (hb : ∀ g, v.ownBlock = some g → g ∉ F) : w'.ownsRow base e size v n xs := by
  refine ⟨h.1, ?_⟩
  rcases h.2 with hn | ⟨g, cap, cur, rfl, hbg, hg, rest⟩
  · exact .inl hn
  · refine .inr ⟨g, cap, cur, rfl, hbg, ?_, rest⟩
    rw [c.block g (Array.getElem?_eq_some_iff.1 hg).1 (hb g rfl)]; exact hg
theorem owns_lt {w : World} {base n size : Nat} {e : TypeId} {v : Value} {xs : List Value} (h : w.ownsRow base e size v n xs) (g : Nat) (hg : v.ownBlock = some g) : g < w.heap.size := (h.lt g hg).2
theorem owns_slice {w : World} {base n size : Nat} {e : TypeId} {v : Value} {xs : List Value} (h : w.ownsRow base e size v n xs) : ∃ a cap, v = .slice a n cap := by
  rcases h.2 with ⟨rfl, hn⟩ | ⟨g, cap, cur, rfl, _⟩
  · exact ⟨none, 0, by rw [hn]⟩
  · exact ⟨_, _, rfl⟩
/-- Bytes as cells. -/
def u8c (l : List UInt8) : List Value := l.map fun b => .int .u8 (b.toNat : Int)
theorem u8c_len (l : List UInt8) : (u8c l).length = l.length := by unfold u8c; rw [List.length_map]
theorem u8c_app (l m : List UInt8) : u8c (l ++ m) = u8c l ++ u8c m := by unfold u8c; rw [List.map_append]
theorem u8c_take (l : List UInt8) (n : Nat) : u8c (l.take n) = (u8c l).take n := by unfold u8c; rw [List.map_take]
theorem u8c_at (l : List UInt8) (i : Nat) (h : i < l.length) : (u8c l)[i]? = some (.int .u8 (l[i].toNat : Int)) := by unfold u8c; rw [List.getElem?_map, List.getElem?_eq_getElem h]; rfl
theorem u8c_one (l : List UInt8) : ∀ v ∈ u8c l, v.oneCell' = true := fun v hv => by
  unfold u8c at hv; simp only [List.mem_map] at hv; obtain ⟨b, _, rfl⟩ := hv; rfl
theorem strCells_eq (s : ByteArray) : Go.Lib.strCells s = u8c s.data.toList := rfl
/-- append(v, s...): the new row, and where it lies. -/
theorem append_str {P : Program} {w : World} (t u ty e : TypeId) (i : TypeInfo) (ht : P.underlying t = some (.slice e)) (hu : P.underlying u = some .string) (hi : P.info? e = some i) (hz : i.zero = some (.int .u8 0))
    (hsize : i.size = 1) (hby : i.bytes = 1) {v : Value} {n : Nat} {l : List UInt8} (hown : w.ownsRow 0 e 1 v n (u8c l)) (s : ByteArray) (h47 : n + s.size ≤ 140737488355328) :
    ∃ v' w', (Builtin.append_ #[t, u] ty #[v, .string s]).run P w = .ok v' w' ∧ w'.ownsRow 0 e 1 v' (n + s.size) (u8c (l ++ s.data.toList)) ∧ w.grownBy w' v.ownBlock ∧ (v'.ownBlock = v.ownBlock ∨ v'.ownBlock = some w.heap.size) := by
  have h63 : n + s.size ≤ maxLen := by unfold maxLen; omega
  obtain ⟨v', w', hr, h2, h3, h4⟩ := Go.Lib.run_append_own_string (P := P) w 0 t u ty e i ht hu hi hz hsize hby v n (u8c l) hown s h63 h47 (Nat.zero_le _)
  refine ⟨v', w', hr, by rw [u8c_app, ← strCells_eq]; exact h2, h3, ?_⟩
  have hxl : (u8c l).length = n := by simpa using hown.1
  rcases hown.2 with ⟨rfl, rfl⟩ | ⟨g, cap, cur, rfl, hbg, hg, hnc, hcm, hcs, htake⟩
  · by_cases hm : s.size = 0
    · have := h4.2 ⟨rfl, hm⟩
      subst this
      exact .inl rfl
    · have hr2 := run_append_nil_string (P := P) w t u ty e i (.int .u8 0) ht hu hi hz s (by omega) (by unfold maxLen at h63; omega) (by rw [hby]; omega)
      rw [hr] at hr2
      simp only [Result.ok.injEq] at hr2
      rw [hr2.1]; exact .inr rfl
  · by_cases hroom : n + s.size ≤ cap
    · have hcs2 : cur.size = cap := by simpa using hcs
      have hr2 := Go.Lib.run_append_room_string (P := P) w t u ty e i ht hu hi hsize g n cap cur hg s hroom (by omega)
      rw [hr] at hr2
      simp only [Result.ok.injEq] at hr2
      rw [hr2.1]; exact .inl rfl
    · have holds : ∀ j u, (u8c l)[j]? = some u → w.cell? ((⟨g, 0, none⟩ : Addr).add j) = some u := hown.cells (g := g) rfl
      have hr2 := Go.Lib.run_append_grow_string (P := P) w t u ty e i (.int .u8 0) ht hu hi hz ⟨g, 0, none⟩ n cap (u8c l) (by rw [hsize]; simpa using hxl) holds s (by omega) (by unfold maxLen at h63; omega) (by rw [hby]; exact growslice_fits (by omega) (by omega))
      rw [hr] at hr2
      simp only [Result.ok.injEq] at hr2
      rw [hr2.1]; exact .inr rfl
theorem wpList_append_str {P : Program} {w : World} {ops : Array Oper} {rest : List Oper} {o : Oper} {a : Act} {Q : Exit → Act → World → Prop} (hgd : o.guard = none) (sl x : Operand) (t u : TypeId)
    (ho : o.op = .call { callee := .builtin .append, args := #[sl, x], argTypes := #[t, u] }) (e : TypeId) (i : TypeInfo) (ht : P.underlying t = some (.slice e)) (hu : P.underlying u = some .string) (hi : P.info? e = some i) (hz : i.zero = some (.int .u8 0))
    (hsize : i.size = 1) (hby : i.bytes = 1) (v : Value) (n : Nat) (l : List UInt8) (hs : a.eval sl = v) (hown : w.ownsRow 0 e 1 v n (u8c l)) (s : ByteArray) (hx : a.eval x = .string s) (h47 : n + s.size ≤ 140737488355328)
    (h : ∀ v' w', w'.ownsRow 0 e 1 v' (n + s.size) (u8c (l ++ s.data.toList)) → w.grownBy w' v.ownBlock → (v'.ownBlock = v.ownBlock ∨ v'.ownBlock = some w.heap.size) → wpList P ops Q rest (a.put o.dst v') w') : wpList P ops Q (o :: rest) a w := by
  refine wpList_plain hgd fun K hK => ?_
  obtain ⟨v', w', hr, h2, h3, h4⟩ := append_str (P := P) (w := w) t u o.type e i ht hu hi hz hsize hby hown s h47
  unfold Oper.wp execOp
  simp only [ho, resolve, invoke, builtin, Sem.run_bind, Sem.run_pure, Result.andThen_ok, List.map_toArray, List.map_cons, List.map_nil, hs, hx, hr]
  exact hK _ _ (h v' w' h2 h3 h4)
theorem grownBy_chg {w w' : World} {row : Option Nat} (h : w.grownBy w' row) : Chg row.toList w w' := ⟨h.os, h.tape, h.output, h.size, fun k hk hn => h.block k hk (fun e => hn (by rw [← e]; simp))⟩
theorem owns_take {w : World} {e : TypeId} {a : Option Addr} {n cap : Nat} {xs : List Value} (h : w.ownsRow 0 e 1 (.slice a n cap) n xs) (m : Nat) (hm : m ≤ n) : w.ownsRow 0 e 1 (.slice a m cap) m (xs.take m) := by
  have hx : xs.length = n := by simpa using h.1
  refine ⟨by rw [List.length_take]; omega, ?_⟩
  rcases h.2 with ⟨hv, hn⟩ | ⟨g, cap', cur, hv, hb, hg, h2, h3, h4, h5⟩
  · simp only [Value.slice.injEq] at hv
    obtain ⟨rfl, _, rfl⟩ := hv
    exact .inl ⟨by rw [show m = 0 by omega], by omega⟩
  · simp only [Value.slice.injEq, true_and] at hv
    obtain ⟨rfl, rfl⟩ := hv
    refine .inr ⟨g, cap, cur, rfl, hb, hg, by omega, h3, h4, ?_⟩
    rw [← h5, List.take_take]; congr 1; omega
theorem copy_none {P : Program} (w : World) (dT sT ty elem : TypeId) (t : ByteArray) (hu : P.underlying dT = some (.slice elem)) (hz : ∀ w, (Go.sizeOf elem).run P w = .ok 1 w) :
    (Builtin.copy_ #[dT, sT] ty #[.slice none 0 0, .string t]).run P w = .ok (goInt (Nat.min t.size 0)) w := by
  simp [Builtin.copy_, run_underlying hu, Builtin.lenOf, Builtin.firstCells, hz]
/-- copy(dst, s), s a text, whichever is longer. -/
theorem copy_str {P : Program} (w : World) (dT sT ty elem : TypeId) (b o dLen dCap : Nat) (t : ByteArray) (hu : P.underlying dT = some (.slice elem)) (hz : ∀ w, (Go.sizeOf elem).run P w = .ok 1 w)
    (hc : ∀ j, j < dLen → (w.cell? ⟨b, o + j, none⟩).isSome = true) (hf : ∀ j, j < dLen → w.frozen? ⟨b, o + j, none⟩ = false) :
    (Builtin.copy_ #[dT, sT] ty #[.slice (some ⟨b, o, none⟩) dLen dCap, .string t]).run P w = .ok (goInt (Nat.min t.size dLen)) (w.setCells b o (u8c (t.data.toList.take dLen))) := by
  have hl : (u8c (t.data.toList.take dLen)).length ≤ dLen := by rw [u8c_len, List.length_take]; omega
  have hst := run_storeCells_cells (P := P) b o (u8c (t.data.toList.take dLen)) 0 w (fun j hj => hc j (by omega)) (fun j hj => hf j (by omega)) (u8c_one _)
  have e : ((t.data.toList.map fun x => Value.int .u8 (x.toNat : Int)).take (Nat.min t.size dLen)) = u8c (t.data.toList.take dLen) := by
    show (u8c t.data.toList).take _ = _
    rw [u8c_take, show Nat.min t.size dLen = min dLen (u8c t.data.toList).length by rw [u8c_len]; show min t.size dLen = min dLen t.data.toList.length; simp [Nat.min_comm]]
    rw [List.take_eq_take_iff]; omega
  simp [Builtin.copy_, run_underlying hu, Builtin.lenOf, Builtin.firstCells, hz]
  rw [e, hst]
  rfl
theorem owns_setCells {e : TypeId} {g n cap : Nat} : ∀ (vs : List Value) (o : Nat) (w : World) (xs : List Value), w.ownsRow 0 e 1 (.slice (some ⟨g, 0, none⟩) n cap) n xs → o + vs.length ≤ n →
    (w.setCells g o vs).ownsRow 0 e 1 (.slice (some ⟨g, 0, none⟩) n cap) n (xs.take o ++ (vs ++ xs.drop (o + vs.length)))
  | [], o, w, xs, h, _ => by simpa [World.setCells] using h
  | v :: vs, o, w, xs, h, hn => by
    have hx : xs.length = n := by simpa using h.1
    have ho : o < xs.length := by simp at hn; omega
    have h1 : (w.setCell ⟨g, o, none⟩ v).ownsRow 0 e 1 (.slice (some ⟨g, 0, none⟩) n cap) n (xs.set o v) := by
      refine ⟨by simpa using h.1, ?_⟩
      rcases h.2 with ⟨hv, _⟩ | ⟨g', cap', cur, hv, hb, hg, h2, h3, h4, h5⟩
      · cases hv
      · simp only [Value.slice.injEq, Option.some.injEq, Addr.mk.injEq, and_true, true_and] at hv
        obtain ⟨rfl, rfl⟩ := hv
        refine .inr ⟨g, cap, cur.set! o v, rfl, hb, heap_setCell_same _ _ _ _ _ _ hg, h2, h3, by simpa using h4, ?_⟩
        rw [← h5, Array.set!_eq_setIfInBounds, Array.toList_setIfInBounds, List.take_set]
    have := owns_setCells vs (o + 1) _ _ h1 (by simp at hn ⊢; omega)
    rw [World.setCells]
    have e : (xs.set o v).take (o + 1) ++ (vs ++ (xs.set o v).drop (o + 1 + vs.length)) = xs.take o ++ (v :: vs ++ xs.drop (o + (v :: vs).length)) := by
      rw [take_set_succ _ _ _ ho, List.drop_set_of_lt (by omega)]
      simp [List.append_assoc, Nat.add_assoc, Nat.add_comm 1]
    rw [e] at this
    exact this
end Go.Proofs.YtjidcagklakjaaaGreat
/-
  Rows of integers in memory, wherever in their block they begin. No program is named here.
-/
open Go Go.RowKit
set_option linter.unusedVariables false
namespace Go.Proofs.YtjidcagklakjaaaGreat
def intc (l : List Int) : List Value := l.map fun n => .int .i64 n
theorem intc_len (l : List Int) : (intc l).length = l.length := by unfold intc; rw [List.length_map]
theorem intc_app (l m : List Int) : intc (l ++ m) = intc l ++ intc m := by unfold intc; rw [List.map_append]
theorem intc_at (l : List Int) (i : Nat) (h : i < l.length) : (intc l)[i]? = some (.int .i64 l[i]) := by unfold intc; rw [List.getElem?_map, List.getElem?_eq_getElem h]; rfl
theorem intc_get (l : List Int) (i : Nat) : (intc l)[i]? = l[i]?.map (fun n => Value.int .i64 n) := by unfold intc; rw [List.getElem?_map]
theorem intc_one (l : List Int) : ∀ v ∈ intc l, v.oneCell' = true := fun v hv => by
  unfold intc at hv; simp only [List.mem_map] at hv; obtain ⟨b, _, rfl⟩ := hv; rfl
/-- The block of a slice. -/
def blk (a : Option Addr) : List Nat := (a.map (·.block)).toList
theorem blk_own (a : Option Addr) (n c : Nat) : Value.ownBlock (.slice a n c) = a.map (·.block) := by cases a <;> rfl
theorem blk_some (b o : Nat) : blk (some ⟨b, o, none⟩) = [b] := rfl
theorem blk_none : blk none = [] := rfl
/-- A slice's numbers; its room may be written. -/
def RowAt (w : World) (a : Option Addr) (cap : Nat) (l : List Int) : Prop :=
  l.length ≤ cap ∧ cap ≤ maxLen ∧ ((a = none ∧ cap = 0) ∨ ∃ b off, a = some ⟨b, off, none⟩ ∧ b < w.heap.size ∧
    (∀ j, j < cap → (w.cell? ⟨b, off + j, none⟩).isSome = true ∧ w.frozen? ⟨b, off + j, none⟩ = false) ∧ ∀ j v, (intc l)[j]? = some v → w.cell? ⟨b, off + j, none⟩ = some v)
theorem RowAt.nil (w : World) : RowAt w none 0 [] := ⟨by simp, by simp, .inl ⟨rfl, rfl⟩⟩
theorem RowAt.lt {w : World} {a : Option Addr} {cap : Nat} {l : List Int} (h : RowAt w a cap l) : ∀ x ∈ blk a, x < w.heap.size := by
  rcases h.2.2 with ⟨rfl, _⟩ | ⟨b, off, rfl, hb, _⟩
  · intro x hx; simp [blk] at hx
  · intro x hx; simp [blk] at hx; subst hx; exact hb
theorem RowAt.chg {F : List Nat} {w w' : World} {a : Option Addr} {cap : Nat} {l : List Int} (h : RowAt w a cap l) (c : Chg F w w') (hd : ∀ x ∈ blk a, x ∉ F) : RowAt w' a cap l := by
  refine ⟨h.1, h.2.1, ?_⟩
  rcases h.2.2 with h0 | ⟨b, off, rfl, hb, h1, h2⟩
  · exact .inl h0
  · have hk := c.block b hb (hd b (by simp [blk]))
    refine .inr ⟨b, off, rfl, Nat.lt_of_lt_of_le hb c.size, fun j hj => ?_, fun j v hj => ?_⟩
    · rw [cell_of_heap hk, World.frozen?_of_block (a := ⟨b, off + j, none⟩) hk]; exact h1 j hj
    · rw [cell_of_heap hk]; exact h2 j v hj
theorem RowAt.below {w w' : World} {a : Option Addr} {cap : Nat} {l : List Int} (h : RowAt w a cap l) (hb : Below w.heap.size w w') : RowAt w' a cap l :=
  h.chg (Chg.of_below (F := []) hb) (fun _ _ => by simp)
/-- Its numbers alone. -/
def IntsAt (w : World) (a : Option Addr) (l : List Int) : Prop := ∀ i (h : i < l.length), ∃ b off, a = some ⟨b, off, none⟩ ∧ w.cell? ⟨b, off + i, none⟩ = some (.int .i64 l[i])
theorem IntsAt.below {w w' : World} {a : Option Addr} {l : List Int} (h : IntsAt w a l) (hb : Below w.heap.size w w') : IntsAt w' a l := fun i hi => by
  obtain ⟨b, off, h1, h2⟩ := h i hi
  exact ⟨b, off, h1, cell_below h2 hb⟩
theorem IntsAt.nil (w : World) (a : Option Addr) : IntsAt w a [] := fun i hi => by simp at hi
theorem RowAt.ints {w : World} {a : Option Addr} {cap : Nat} {l : List Int} (h : RowAt w a cap l) : IntsAt w a l := fun i hi => by
  rcases h.2.2 with ⟨rfl, h0⟩ | ⟨b, off, rfl, hb, h1, h2⟩
  · have := h.1; omega
  · exact ⟨b, off, rfl, h2 i _ (intc_at l i hi)⟩
theorem RowAt.take {w : World} {a : Option Addr} {cap : Nat} {l : List Int} (h : RowAt w a cap l) (m : Nat) : RowAt w a cap (l.take m) := by
  refine ⟨by have := h.1; rw [List.length_take]; omega, h.2.1, ?_⟩
  rcases h.2.2 with h0 | ⟨b, off, rfl, hb, h1, h2⟩
  · exact .inl h0
  · refine .inr ⟨b, off, rfl, hb, h1, fun j v hj => h2 j v ?_⟩
    rw [intc_get, List.getElem?_take] at hj
    split at hj
    · rw [intc_get]; exact hj
    · simp at hj
/-- s[m:]. -/
theorem slice_from {P : Program} {t : TypeId} (ht : P.underlying t = some (.slice (P.elem t))) (hs : ∀ w, (sizeOf (P.elem t)).run P w = .ok 1 w) {w0 : World} {a : Option Addr} {cap : Nat} {l : List Int} (h : RowAt w0 a cap l) (m : Nat) (hm : m ≤ l.length) :
    ∃ a', (∀ w, (Instr.slice t (.slice a l.length cap) (some (.int .i64 (m : Int))) none none).run P w = .ok (.slice a' (l.length - m) (cap - m)) w) ∧ RowAt w0 a' (cap - m) (l.drop m) ∧ blk a' = blk a := by
  have hl := h.1
  rcases h.2.2 with ⟨rfl, rfl⟩ | ⟨b, off, rfl, hb, h1, h2⟩
  · have : l = [] := List.length_eq_zero_iff.1 (by omega)
    subst this
    obtain rfl : m = 0 := by simpa using hm
    refine ⟨none, fun w => ?_, by simpa using RowAt.nil w0, rfl⟩
    rw [run_slice_l (P := P) (t := t) (ht := ht) (kl := .i64) (l := ((0 : Nat) : Int)) (h0 := by omega) (h1 := by simp), hs]
    simp [Result.andThen, sliced]
  · by_cases hc : cap = m
    · refine ⟨some ⟨b, off, none⟩, fun w => ?_, ⟨by rw [List.length_drop]; omega, by have := h.2.1; omega, .inr ⟨b, off, rfl, hb, fun j hj => by omega, fun j v hj => ?_⟩⟩, rfl⟩
      · rw [run_slice_l (P := P) (t := t) (ht := ht) (kl := .i64) (l := (m : Int)) (h0 := by omega) (h1 := by omega), hs]
        simp [Result.andThen, sliced, hc]
      · have : l.drop m = [] := List.drop_of_length_le (by omega)
        rw [this] at hj; simp [intc] at hj
    · refine ⟨some ⟨b, off + m, none⟩, fun w => ?_, ⟨by rw [List.length_drop]; omega, by have := h.2.1; omega, .inr ⟨b, off + m, rfl, hb, fun j hj => ?_, fun j v hj => ?_⟩⟩, rfl⟩
      · rw [run_slice_l (P := P) (t := t) (ht := ht) (kl := .i64) (l := (m : Int)) (h0 := by omega) (h1 := by omega), hs]
        by_cases hm0 : m = 0
        · subst hm0; simp [Result.andThen, sliced, hc, Addr.add]
        · simp [Result.andThen, sliced, hc, Addr.add, hm0]
      · have := h1 (m + j) (by omega)
        rwa [← Nat.add_assoc] at this
      · have := h2 (m + j) v (by rw [intc_get] at hj ⊢; rw [List.getElem?_drop] at hj; exact hj)
        rwa [← Nat.add_assoc] at this
theorem RowAt.of_own {w : World} {base n : Nat} {e : TypeId} {v : Value} {l : List Int} (h : w.ownsRow base e 1 v n (intc l)) : ∃ a cap, v = .slice a l.length cap ∧ RowAt w a cap l ∧ n = l.length ∧ ∀ x ∈ blk a, base ≤ x := by
  have hx : l.length = n := by have := h.1; rw [intc_len] at this; omega
  subst hx
  rcases h.2 with ⟨rfl, h0⟩ | ⟨g, cap, cur, rfl, hb, hg, h1, h2, h3, h4⟩
  · exact ⟨none, 0, by rw [h0], ⟨by omega, by simp, .inl ⟨rfl, rfl⟩⟩, rfl, fun x hx => by simp [blk] at hx⟩
  · have hlt : g < w.heap.size := (Array.getElem?_eq_some_iff.1 hg).1
    refine ⟨_, cap, rfl, ⟨h1, h2, .inr ⟨g, 0, rfl, hlt, fun j hj => ⟨?_, ?_⟩, fun j v hj => ?_⟩⟩, rfl, fun x hx => by simp [blk] at hx; subst hx; exact hb⟩
    · rw [Nat.zero_add, cell_of_row w g j cur e (0, 0) hg, Array.getElem?_eq_getElem (by omega)]; rfl
    · rw [Nat.zero_add]; exact frozen_of_row w g j cur e hg
    · rw [Nat.zero_add, cell_of_row w g j cur e (0, 0) hg]
      rw [← h4, List.getElem?_take] at hj
      split at hj
      · simpa using hj
      · cases hj
/-- A row of numbers in a new block. -/
theorem RowAt.new (w : World) (l : List Int) (t : TypeId) (hl : l.length ≤ maxLen) {b : Nat} (hb : b = w.heap.size) : RowAt (w.alloc (.cells (intc l).toArray t)) (some ⟨b, 0, none⟩) l.length l := by
  subst hb
  have hB := Blk.new w (intc l).toArray t
  refine ⟨Nat.le_refl _, hl, .inr ⟨_, 0, rfl, by simp, fun j hj => ?_, fun j v hj => ?_⟩⟩
  · rw [Nat.zero_add]
    obtain ⟨h1, h2⟩ := hB j _ (intc_at l j hj)
    exact ⟨by rw [h1]; rfl, h2⟩
  · rw [Nat.zero_add]; exact (hB j v hj).1
/-- append(s, t...), whatever both are. -/
theorem append_row {P : Program} {w : World} (t ty e : TypeId) (i : TypeInfo) (z : Value) (ht : P.underlying t = some (.slice e)) (hi : P.info? e = some i) (hz : i.zero = some z) (hsize : i.size = 1) (hby : i.bytes = 8) (hzs : z.cells.size = 1)
    {a b : Option Addr} {cap c : Nat} {l m : List Int} (ha : RowAt w a cap l) (hb : IntsAt w b m) (h47 : l.length + m.length ≤ 1000000000) :
    ∃ a' cap' w', (Builtin.append_ #[t, t] ty #[.slice a l.length cap, .slice b m.length c]).run P w = .ok (.slice a' (l.length + m.length) cap') w' ∧ RowAt w' a' cap' (l ++ m) ∧ Chg (blk a) w w' ∧ ∀ x ∈ blk a', x ∈ blk a ∨ w.heap.size ≤ x := by
  cases b with
  | none =>
    have : m = [] := by
      rcases Nat.eq_zero_or_pos m.length with h | h
      · exact List.length_eq_zero_iff.1 h
      · obtain ⟨_, _, h1, _⟩ := hb 0 h; cases h1
    subst this
    have hl := ha.1
    refine ⟨a, cap, w, ?_, by simpa using ha, Chg.refl _ _, fun x hx => .inl hx⟩
    cases a <;> simp [Builtin.append_, run_underlying ht, sizeOf, typeInfo, hi, Builtin.lenOf, Builtin.firstCells, storeCells, hl]
  | some ad =>
    have hnews : ∀ j u, (intc m)[j]? = some u → w.cell? (ad.add j) = some u := fun j u hj => by
      have hlt : j < m.length := by rw [← intc_len m]; exact (List.getElem?_eq_some_iff.1 hj).1
      obtain ⟨b, off, h1, h2⟩ := hb j hlt
      cases h1
      rw [intc_at m j hlt] at hj
      rw [Addr.add_lit, h2]; exact hj
    rcases ha.2.2 with ⟨rfl, h0⟩ | ⟨b, off, rfl, hbl, h1, h2⟩
    · have hl0 : l = [] := List.length_eq_zero_iff.1 (by have := ha.1; omega)
      subst hl0
      subst h0
      obtain ⟨v', w', hr, r1, r2, _⟩ := run_append_own (P := P) w w.heap.size t ty e i z 1 8 ht hi hz hsize hby hzs (by omega) (.slice none 0 0) 0 [] (World.ownsRow_nil _ _ _ _) ad m.length c (intc m) (by rw [intc_len]; omega) hnews (intc_one m) (by simp at h47; unfold maxLen; omega) (by simp at h47; omega) (Nat.le_refl _)
      simp only [List.nil_append] at r1
      obtain ⟨a', cap', rfl, hrow, hn, hbase⟩ := RowAt.of_own r1
      refine ⟨a', cap', w', ?_, by simpa using hrow, grownBy_chg r2 |>.mono (by simp [Value.ownBlock, blk]), fun x hx => .inr (hbase x hx)⟩
      simpa using hr
    · by_cases hroom : l.length + m.length ≤ cap
      · have hr := run_append_room_cells (P := P) w t ty e i ht hi b off l.length cap ad m.length c (intc m) (by rw [intc_len, hsize]; omega) hnews (intc_one m) hroom
          (fun j hj => by rw [intc_len] at hj; rw [hsize, Nat.mul_one]; have := (h1 (l.length + j) (by omega)).1; rwa [← Nat.add_assoc] at this)
          (fun j hj => by rw [intc_len] at hj; rw [hsize, Nat.mul_one]; have := (h1 (l.length + j) (by omega)).2; rwa [← Nat.add_assoc] at this)
        rw [hsize, Nat.mul_one] at hr
        have hin := World.cell?_setCells_in b (intc m) (off + l.length) w (fun j hj => by rw [intc_len] at hj; have := (h1 (l.length + j) (by omega)).1; rwa [← Nat.add_assoc] at this)
        refine ⟨_, cap, _, hr, ⟨by rw [List.length_append]; exact hroom, ha.2.1, .inr ⟨b, off, rfl, Nat.lt_of_lt_of_le hbl ((Chg.refl [b] w).setCells (intc m) (off + l.length) (.inl (by simp))).size, fun j hj => ⟨?_, ?_⟩, fun j v hj => ?_⟩⟩, (Chg.refl _ _).setCells _ _ (.inl (by simp [blk])), fun x hx => .inl hx⟩
        · by_cases hj2 : l.length ≤ j ∧ j < l.length + m.length
          · have := hin (j - l.length) (by rw [intc_len]; omega)
            rw [show off + l.length + (j - l.length) = off + j by omega] at this
            rw [this]; rfl
          · rw [World.cell?_setCells_out b (intc m) _ w _ (fun _ _ => by rw [intc_len]; simp only; omega)]
            exact (h1 j hj).1
        · rw [World.frozen?_setCells]; exact (h1 j hj).2
        · rw [intc_app] at hj
          by_cases hj2 : j < l.length
          · rw [List.getElem?_append_left (by rw [intc_len]; exact hj2)] at hj
            rw [World.cell?_setCells_out b (intc m) _ w _ (fun _ _ => by rw [intc_len]; simp only; omega)]
            exact h2 j v hj
          · rw [List.getElem?_append_right (by rw [intc_len]; omega), intc_len] at hj
            have hlt : j - l.length < (intc m).length := (List.getElem?_eq_some_iff.1 hj).1
            have := hin (j - l.length) hlt
            rw [show off + l.length + (j - l.length) = off + j by omega] at this
            rw [this]
            rw [List.getElem?_eq_getElem hlt] at hj
            exact hj
      · obtain ⟨v', w', hr, r1, r2⟩ := run_append_arg_grows (P := P) w t ty e i z 1 8 ht hi hz hsize hby hzs (by omega) ⟨b, off, none⟩ l.length cap (intc l) (by rw [intc_len]; omega) (fun j u hj => by rw [Addr.add_lit]; exact h2 j u hj) ad m.length c (intc m) (by rw [intc_len]; omega) hnews (by omega) (by unfold maxLen; omega) (by omega)
        rw [← intc_app] at r1
        obtain ⟨a', cap', rfl, hrow, hn, hbase⟩ := RowAt.of_own r1
        rw [List.length_append] at hr
        exact ⟨a', cap', w', hr, hrow, (grownBy_chg r2).mono (by simp), fun x hx => .inr (hbase x hx)⟩
theorem wpList_append_row {P : Program} {w : World} {ops : Array Oper} {rest : List Oper} {o : Oper} {ac : Act} {Q : Exit → Act → World → Prop} (hgd : o.guard = none) (sl x : Operand) (t : TypeId)
    (ho : o.op = .call { callee := .builtin .append, args := #[sl, x], argTypes := #[t, t] }) (e : TypeId) (i : TypeInfo) (z : Value) (ht : P.underlying t = some (.slice e)) (hi : P.info? e = some i) (hz : i.zero = some z) (hsize : i.size = 1) (hby : i.bytes = 8) (hzs : z.cells.size = 1)
    {a b : Option Addr} {cap c n k : Nat} {l m : List Int} (hs : ac.eval sl = .slice a n cap) (hx : ac.eval x = .slice b k c) (hn : n = l.length) (hk : k = m.length) (ha : RowAt w a cap l) (hb : IntsAt w b m) (h47 : l.length + m.length ≤ 1000000000)
    (h : ∀ a' cap' w', RowAt w' a' cap' (l ++ m) → Chg (blk a) w w' → (∀ x ∈ blk a', x ∈ blk a ∨ w.heap.size ≤ x) → wpList P ops Q rest (ac.put o.dst (.slice a' (n + k) cap')) w') : wpList P ops Q (o :: rest) ac w := by
  subst hn hk
  refine wpList_plain hgd fun K hK => ?_
  obtain ⟨a', cap', w', hr, h2, h3, h4⟩ := append_row (P := P) (w := w) t o.type e i z ht hi hz hsize hby hzs ha (c := c) hb h47
  unfold Oper.wp execOp
  simp only [ho, resolve, invoke, builtin, Sem.run_bind, Sem.run_pure, Result.andThen_ok, List.map_toArray, List.map_cons, List.map_nil, hs, hx, hr]
  exact hK _ _ (h a' cap' w' h2 h3 h4)
/-- make([]int, n). -/
theorem made_ints (n : Nat) : (madeCells #[Value.int .i64 0] (n * 1)).toList = intc (List.replicate n 0) := by
  rw [Nat.mul_one, toList_madeCells_one]; simp [intc]
end Go.Proofs.YtjidcagklakjaaaGreat
/-
  Rows of integers: laws over the program's own types.
-/
open Go Go.RowKit
set_option linter.unusedVariables false
namespace Go.Proofs.YtjidcagklakjaaaGreat
theorem info_int : (Tryz.prog.info? 3).map (fun i => (i.zero, i.size, i.bytes)) = some (some (.int .i64 0), 1, 8) := by kernel_rfl
theorem RowAt.one (w : World) (x : Int) (t : TypeId) {b : Nat} (hb : b = w.heap.size) : RowAt (w.alloc (.cells #[.int .i64 x] t)) (some ⟨b, 0, none⟩) 1 [x] := RowAt.new w [x] t (by simp [maxLen]) hb
theorem RowAt.empty (w : World) (t : TypeId) {b : Nat} (hb : b = w.heap.size) : RowAt (w.alloc (.cells #[] t)) (some ⟨b, 0, none⟩) 0 [] := RowAt.new w [] t (by simp [maxLen]) hb
theorem below_alloc2 (w : World) (o1 o2 : Obj) : Below w.heap.size w ((w.alloc o1).alloc o2) := (below_alloc1 _ _).alloc (by simp) _
theorem below_alloc3 (w : World) (o1 o2 o3 : Obj) : Below w.heap.size w (((w.alloc o1).alloc o2).alloc o3) := (below_alloc2 _ _ _).alloc (by simp; omega) _
theorem size_int : ∀ w, (sizeOf (Tryz.prog.elem 23)).run Tryz.prog w = .ok 1 w := by
  obtain ⟨i0, hi, hz0, hz1, hz2⟩ := info_parts info_int
  intro w
  have e : Tryz.prog.elem 23 = 3 := by kernel_rfl
  rw [e]; simp [sizeOf, typeInfo, hi, hz1]
theorem under_ints : Tryz.prog.underlying 23 = some (.slice (Tryz.prog.elem 23)) := by
  have e : Tryz.prog.elem 23 = 3 := by kernel_rfl
  rw [e]; exact Tryz.underlying23
/-- append(s, t...) at a step of a region that draws its order. -/
theorem step_append_row {P : Program} {w : World} {ops : Array Oper} {o : Oper} {ac : Act} {K : Act → World → Prop} {Q : Exit → Act → World → Prop} {E : Prop} (hgd : o.guard = none) (sl x : Operand) (t : TypeId)
    (ho : o.op = .call { callee := .builtin .append, args := #[sl, x], argTypes := #[t, t] }) (e : TypeId) (i : TypeInfo) (z : Value) (ht : P.underlying t = some (.slice e)) (hi : P.info? e = some i) (hz : i.zero = some z) (hsize : i.size = 1) (hby : i.bytes = 8) (hzs : z.cells.size = 1)
    {a b : Option Addr} {cap c n k : Nat} {l m : List Int} (hs : ac.eval sl = .slice a n cap) (hx : ac.eval x = .slice b k c) (hn : n = l.length) (hk : k = m.length) (ha : RowAt w a cap l) (hb : IntsAt w b m) (h47 : l.length + m.length ≤ 1000000000)
    (h : ∀ a' cap' w', RowAt w' a' cap' (l ++ m) → Chg (blk a) w w' → (∀ x ∈ blk a', x ∈ blk a ∨ w.heap.size ≤ x) → K (ac.put o.dst (.slice a' (n + k) cap')) w') : if Region.wanted o (yielded ops ac.tmps) = true then Oper.wp P o ac w K Q else E := by
  have hw : Region.wanted o (yielded ops ac.tmps) = true := by simp [Region.wanted, hgd]
  rw [if_pos hw]
  subst hn hk
  obtain ⟨a', cap', w', hr, h2, h3, h4⟩ := append_row (P := P) (w := w) t o.type e i z ht hi hz hsize hby hzs ha (c := c) hb h47
  unfold Oper.wp execOp
  simp only [ho, resolve, invoke, builtin, Sem.run_bind, Sem.run_pure, Result.andThen_ok, List.map_toArray, List.map_cons, List.map_nil, hs, hx, hr]
  exact h a' cap' w' h2 h3 h4
theorem and_255 (k : Int) : bits BinOp.and IntKind.i64 k 255 = k % 256 := by
  show IntKind.i64.wrap (((BitVec.ofInt 64 k) &&& (BitVec.ofInt 64 255)).toNat : Int) = k % 256
  have e : (BitVec.ofInt 64 255).toNat = 255 := by decide
  rw [BitVec.toNat_and, e, show (255 : Nat) = 2 ^ 8 - 1 from rfl, Nat.and_two_pow_sub_one_eq_mod, IntKind.wrap_i64, BitVec.toNat_ofInt]; omega
theorem and_65535 (k : Int) : bits BinOp.and IntKind.i64 k 65535 = k % 65536 := by
  show IntKind.i64.wrap (((BitVec.ofInt 64 k) &&& (BitVec.ofInt 64 65535)).toNat : Int) = k % 65536
  have e : (BitVec.ofInt 64 65535).toNat = 65535 := by decide
  rw [BitVec.toNat_and, e, show (65535 : Nat) = 2 ^ 16 - 1 from rfl, Nat.and_two_pow_sub_one_eq_mod, IntKind.wrap_i64, BitVec.toNat_ofInt]; omega
/-- (x & 255) % m. -/
theorem small_of (x : Int) (m : Nat) (hm : 0 < m) : ∃ n : Nat, (bits BinOp.and IntKind.i64 x 255).tmod (m : Int) = (n : Int) ∧ n < m ∧ n ≤ 255 := by
  rw [and_255]
  obtain ⟨k, hk⟩ : ∃ k : Nat, x % 256 = (k : Int) := ⟨(x % 256).toNat, by omega⟩
  have h1 := Nat.mod_lt k hm
  have h2 := Nat.mod_le k m
  exact ⟨k % m, by rw [hk, Int.tmod_eq_emod_of_nonneg (by omega)]; rfl, h1, by omega⟩
/-- 0 to n - 1. -/
def upto (n : Nat) : List Int := (List.range n).map fun (i : Nat) => (i : Int)
theorem upto_len (n : Nat) : (upto n).length = n := by simp [upto]
theorem upto_succ (n : Nat) : upto (n + 1) = upto n ++ [(n : Int)] := by simp [upto, List.range_succ]
theorem upto_at (n i : Nat) (h : i < (upto n).length) : (upto n)[i] = (i : Int) := by simp [upto]
set_option maxRecDepth 100000 in
set_option maxHeartbeats 1000000 in
theorem clone_any (w : World) (a : Option Addr) (n c : Nat) (l : List Int) (h : IntsAt w a l) (hn : n = l.length) (hl : n ≤ 1000000) (h0 : a = none → c = 0) :
    Calls Tryz.prog 139 #[.slice a n c] w fun r w' => ∃ a' c', r = .returned (.slice a' n c') ∧ RowAt w' a' c' l ∧ (∀ x ∈ blk a', w.heap.size ≤ x) ∧ Below w.heap.size w w' := by
  cases a with
  | none =>
    obtain rfl := h0 rfl
    have hl0 : l = [] := by
      rcases Nat.eq_zero_or_pos l.length with e | e
      · exact List.length_eq_zero_iff.1 e
      · obtain ⟨_, _, h1, _⟩ := h 0 e; cases h1
    subst hl0
    obtain rfl : n = 0 := hn
    clear h h0
    have he : ∀ w : World, (binOp .eql 23 (.slice none 0 0) (.slice none 0 0)).run Tryz.prog w = .ok (.bool true) w := fun _ => rfl
    go_enter Tryz.func139, Tryz.ntmps139
    go_wp2
    go_ret
    exact ⟨none, 0, rfl, RowAt.nil _, fun x hx => by simp [blk] at hx, Below.refl _ _⟩
  | some ad =>
    obtain ⟨i0, hi0, hz0, hz1, hz2⟩ := info_parts info_int
    have Hi := Lib.hid hi0; clear hi0
    have Hz0 := Lib.hid hz0; clear hz0
    have Hz1 := Lib.hid hz1; clear hz1
    have Hz2 := Lib.hid hz2; clear hz2
    have H := Lib.hid h
    have HN := Lib.hid hn
    clear h h0 hn
    have he : ∀ w : World, (binOp .eql 23 (.slice (some ad) n c) (.slice none 0 0)).run Tryz.prog w = .ok (.bool false) w := fun _ => rfl
    go_enter Tryz.func139, Tryz.ntmps139
    go_wp2_with (at_builtin; refine wpList_append_row (l := []) (m := l) rfl _ _ 23 rfl 3 i0 _ Tryz.underlying23 Hi.out Hz0.out Hz1.out Hz2.out rfl rfl rfl rfl HN.out (RowAt.empty _ _ rfl) (H.out.below (below_alloc1 _ _)) (by have := HN.out; simp only [List.length_nil]; omega) ?_)
    intro a1 c1 w1 k1 ch1 f1
    have hf : RowAt w1 a1 c1 l ∧ (∀ x ∈ blk a1, w.heap.size ≤ x) ∧ Below w.heap.size w w1 := by
      refine ⟨by simpa using k1, fun x hx => ?_, Chg.below (below_alloc1 _ _) ch1 (fun x hx => by simp [blk] at hx; omega)⟩
      rcases f1 x hx with h | h
      · simp [blk] at h; omega
      · omega
    have HF := Lib.hid hf
    clear hf k1 ch1 f1
    go_wp2
    go_ret
    exact ⟨a1, c1, by simp, HF.out⟩
end Go.Proofs.YtjidcagklakjaaaGreat
/-
  Pieces of memory that don't meet: what a call does to some of them leaves the others. No program is named here.
-/
open Go Go.RowKit
set_option linter.unusedVariables false
namespace Go.Proofs.YtjidcagklakjaaaGreat
/-- What holds of a world, and of which blocks it speaks. -/
structure Asr where
  at_ : World → List Nat → Prop
  lt : ∀ {w F}, at_ w F → ∀ x ∈ F, x < w.heap.size
  chg : ∀ {w w' F G}, at_ w F → Chg G w w' → (∀ x ∈ F, x ∉ G) → at_ w' F
def Sep (w : World) : List Asr → List Nat → Prop
  | [], F => F = []
  | A :: As, F => ∃ F1 F2, F = F1 ++ F2 ∧ A.at_ w F1 ∧ (∀ x ∈ F1, x ∉ F2) ∧ Sep w As F2
theorem Sep.lt {w : World} : ∀ {As : List Asr} {F : List Nat}, Sep w As F → ∀ x ∈ F, x < w.heap.size
  | [], F, h, x, hx => by unfold Sep at h; subst h; simp at hx
  | A :: As, F, h, x, hx => by
    obtain ⟨F1, F2, rfl, h1, h2, h3⟩ := h
    rcases List.mem_append.1 hx with hx | hx
    · exact A.lt h1 x hx
    · exact h3.lt x hx
theorem Sep.chg {w w' : World} {G : List Nat} (c : Chg G w w') : ∀ {As : List Asr} {F : List Nat}, Sep w As F → (∀ x ∈ F, x ∉ G) → Sep w' As F
  | [], F, h, _ => h
  | A :: As, F, h, hd => by
    obtain ⟨F1, F2, rfl, h1, h2, h3⟩ := h
    exact ⟨F1, F2, rfl, A.chg h1 c (fun x hx => hd x (by simp [hx])), h2, Sep.chg c h3 (fun x hx => hd x (by simp [hx]))⟩
theorem Sep.perm {w : World} {As Bs : List Asr} (hp : As.Perm Bs) : ∀ {F : List Nat}, Sep w As F → ∃ F', Sep w Bs F' ∧ ∀ x, x ∈ F' ↔ x ∈ F := by
  induction hp with
  | nil => exact fun h => ⟨_, h, fun _ => Iff.rfl⟩
  | cons A _ ih =>
    intro F h
    obtain ⟨F1, F2, rfl, h1, h2, h3⟩ := h
    obtain ⟨F', h4, h5⟩ := ih h3
    exact ⟨F1 ++ F', ⟨F1, F', rfl, h1, fun x hx hc => h2 x hx ((h5 x).1 hc), h4⟩, fun x => by simp [h5]⟩
  | swap A B l =>
    intro F h
    obtain ⟨F1, _, rfl, h1, h2, F2, F3, rfl, h3, h4, h5⟩ := h
    exact ⟨F2 ++ (F1 ++ F3), ⟨F2, _, rfl, h3, fun x hx hc => by
      rcases List.mem_append.1 hc with h | h
      · exact h2 x h (by simp [hx])
      · exact h4 x hx h, F1, F3, rfl, h1, fun x hx hc => h2 x hx (by simp [hc]), h5⟩, fun x => by simp; constructor <;> (intro h; rcases h with h | h | h <;> simp [h])⟩
  | trans _ _ i1 i2 =>
    intro F h
    obtain ⟨F1, h1, e1⟩ := i1 h
    obtain ⟨F2, h2, e2⟩ := i2 h1
    exact ⟨F2, h2, fun x => (e2 x).trans (e1 x)⟩
theorem Sep.split {w : World} : ∀ {As Bs : List Asr} {F : List Nat}, Sep w (As ++ Bs) F → ∃ F1 F2, F = F1 ++ F2 ∧ Sep w As F1 ∧ (∀ x ∈ F1, x ∉ F2) ∧ Sep w Bs F2
  | [], Bs, F, h => ⟨[], F, rfl, rfl, fun x hx => by simp at hx, h⟩
  | A :: As, Bs, F, h => by
    obtain ⟨F1, F2, rfl, h1, h2, h3⟩ := h
    obtain ⟨F3, F4, rfl, h4, h5, h6⟩ := h3.split
    exact ⟨F1 ++ F3, F4, by simp, ⟨F1, F3, rfl, h1, fun x hx hc => h2 x hx (by simp [hc]), h4⟩, fun x hx hc => by
      rcases List.mem_append.1 hx with h | h
      · exact h2 x h (by simp [hc])
      · exact h5 x h hc, h6⟩
theorem Sep.app {w : World} : ∀ {As Bs : List Asr} {F G : List Nat}, Sep w As F → Sep w Bs G → (∀ x ∈ F, x ∉ G) → Sep w (As ++ Bs) (F ++ G)
  | [], Bs, F, G, h, k, _ => by unfold Sep at h; subst h; exact k
  | A :: As, Bs, F, G, h, k, d => by
    obtain ⟨F1, F2, rfl, h1, h2, h3⟩ := h
    exact ⟨F1, F2 ++ G, by simp, h1, fun x hx hc => by
      rcases List.mem_append.1 hc with h | h
      · exact h2 x hx h
      · exact d x (by simp [hx]) h, h3.app k (fun x hx => d x (by simp [hx]))⟩
/-- Pieces of what was made behind w0. -/
def Own (w0 w : World) (As : List Asr) : Prop := Below w0.heap.size w0 w ∧ ∃ F, Sep w As F ∧ ∀ x ∈ F, w0.heap.size ≤ x
theorem Own.bel {w0 w : World} {As : List Asr} (h : Own w0 w As) : Below w0.heap.size w0 w := h.1
theorem Own.nil {w0 w : World} (h : Below w0.heap.size w0 w) : Own w0 w [] := ⟨h, [], rfl, fun x hx => by simp at hx⟩
theorem Own.perm {w0 w : World} {As Bs : List Asr} (h : Own w0 w As) (hp : As.Perm Bs) : Own w0 w Bs := by
  obtain ⟨h1, F, h2, h3⟩ := h
  obtain ⟨F', h4, h5⟩ := h2.perm hp
  exact ⟨h1, F', h4, fun x hx => h3 x ((h5 x).1 hx)⟩
theorem Own.drop {w0 w : World} {A : Asr} {As : List Asr} (h : Own w0 w (A :: As)) : Own w0 w As := by
  obtain ⟨h1, F, ⟨F1, F2, rfl, h2, h3, h4⟩, h5⟩ := h
  exact ⟨h1, F2, h4, fun x hx => h5 x (by simp [hx])⟩
theorem Own.dropL {w0 w : World} {As Bs : List Asr} (h : Own w0 w (As ++ Bs)) : Own w0 w Bs := by
  induction As with
  | nil => exact h
  | cons A As ih => exact ih h.drop
theorem Own.head {w0 w : World} {A : Asr} {As : List Asr} (h : Own w0 w (A :: As)) : ∃ F, A.at_ w F ∧ ∀ x ∈ F, w0.heap.size ≤ x := by
  obtain ⟨h1, F, ⟨F1, F2, rfl, h2, h3, h4⟩, h5⟩ := h
  exact ⟨F1, h2, fun x hx => h5 x (by simp [hx])⟩
theorem Own.step {w0 w w' : World} {As : List Asr} (h : Own w0 w As) (hb : Below w.heap.size w w') : Own w0 w' As := by
  obtain ⟨h1, F, h2, h3⟩ := h
  exact ⟨below_on h1 hb, F, h2.chg (Chg.of_below (F := []) hb) (fun _ _ => by simp), h3⟩
theorem Own.add {w0 w w' : World} {As : List Asr} (h : Own w0 w As) (hb : Below w.heap.size w w') {A : Asr} {F : List Nat} (hA : A.at_ w' F) (hF : ∀ x ∈ F, w.heap.size ≤ x) : Own w0 w' (A :: As) := by
  obtain ⟨h1, F2, h2, h3⟩ := h
  exact ⟨below_on h1 hb, F ++ F2, ⟨F, F2, rfl, hA, fun x hx hc => by have := h2.lt x hc; have := hF x hx; omega, h2.chg (Chg.of_below (F := []) hb) (fun _ _ => by simp)⟩, fun x hx => by
    rcases List.mem_append.1 hx with h | h
    · exact Nat.le_trans h1.size (hF x h)
    · exact h3 x h⟩
/-- Some pieces come to be others. -/
theorem Own.turn {w0 w w' : World} {As As' R : List Asr} (h : Own w0 w (As ++ R)) (hc : ∀ F, Sep w As F → ∃ F', Sep w' As' F' ∧ Chg F w w' ∧ ∀ x ∈ F', x ∈ F ∨ w.heap.size ≤ x) : Own w0 w' (As' ++ R) := by
  obtain ⟨h1, F, h2, h3⟩ := h
  obtain ⟨F1, F2, rfl, h4, h5, h6⟩ := h2.split
  obtain ⟨F', k1, k2, k3⟩ := hc F1 h4
  have hs := h1.size
  refine ⟨Chg.below h1 k2 (fun x hx => h3 x (by simp [hx])), F' ++ F2, k1.app (h6.chg k2 (fun x hx hc => h5 x hc hx)) (fun x hx hc => ?_), fun x hx => ?_⟩
  · rcases k3 x hx with h | h
    · exact h5 x h hc
    · have := h6.lt x hc; omega
  · rcases List.mem_append.1 hx with h | h
    · rcases k3 x h with h | h
      · exact h3 x (by simp [h])
      · omega
    · exact h3 x (by simp [h])
/-- .. by a call. -/
theorem Own.call {w0 w : World} {As R : List Asr} (h : Own w0 w (As ++ R)) {P : Program} {f : FuncId} {args : Array Value} {post : Ending → List Asr → Prop}
    (hc : ∀ F, Sep w As F → Calls P f args w fun r w' => ∃ As', post r As' ∧ ∃ F', Sep w' As' F' ∧ Chg F w w' ∧ ∀ x ∈ F', x ∈ F ∨ w.heap.size ≤ x) :
    Calls P f args w fun r w' => ∃ As', post r As' ∧ Own w0 w' (As' ++ R) := by
  have h' := h
  obtain ⟨h1, F, h2, h3⟩ := h'
  obtain ⟨F1, F2, rfl, h4, h5, h6⟩ := h2.split
  have hs := h1.size
  refine (hc F1 h4).mono ?_
  rintro r w' ⟨As', hp, F', k1, k2, k3⟩
  refine ⟨As', hp, Chg.below h1 k2 (fun x hx => h3 x (by simp [hx])), F' ++ F2, k1.app (h6.chg k2 (fun x hx hc => h5 x hc hx)) (fun x hx hc => ?_), fun x hx => ?_⟩
  · rcases k3 x hx with h | h
    · exact h5 x h hc
    · have := h6.lt x hc; omega
  · rcases List.mem_append.1 hx with h | h
    · rcases k3 x h with h | h
      · exact h3 x (by simp [h])
      · omega
    · exact h3 x (by simp [h])
theorem sep_one {w : World} {A : Asr} {F : List Nat} : Sep w [A] F ↔ A.at_ w F := by
  constructor
  · rintro ⟨F1, F2, rfl, h1, h2, h3⟩
    unfold Sep at h3; subst h3; simpa using h1
  · intro h; exact ⟨F, [], by simp, h, fun _ _ => by simp, rfl⟩
/-- One piece, by a call whose answer tells it. -/
theorem Own.call1 {w0 w : World} {A A' : Asr} {R : List Asr} (h : Own w0 w (A :: R)) {P : Program} {f : FuncId} {args : Array Value} {ret : Ending → Prop}
    (hc : ∀ F, A.at_ w F → Calls P f args w fun r w' => ret r ∧ ∃ F', A'.at_ w' F' ∧ Chg F w w' ∧ ∀ x ∈ F', x ∈ F ∨ w.heap.size ≤ x) :
    Calls P f args w fun r w' => ret r ∧ Own w0 w' (A' :: R) := by
  have := Own.call (As := [A]) (R := R) h (P := P) (f := f) (args := args) (post := fun r l => ret r ∧ l = [A']) (fun F hF => (hc F (sep_one.1 hF)).mono (by
    rintro r w' ⟨h1, F', h2, h3, h4⟩; exact ⟨[A'], ⟨h1, rfl⟩, F', sep_one.2 h2, h3, h4⟩))
  refine this.mono ?_
  rintro r w' ⟨_, ⟨h1, rfl⟩, h2⟩
  exact ⟨h1, h2⟩
/-- Two pieces. -/
theorem Own.call2 {w0 w : World} {A B A' B' : Asr} {R : List Asr} (h : Own w0 w (A :: B :: R)) {P : Program} {f : FuncId} {args : Array Value} {ret : Ending → Prop}
    (hc : ∀ F G, A.at_ w F → B.at_ w G → (∀ x ∈ F, x ∉ G) → Calls P f args w fun r w' => ret r ∧ ∃ F' G', A'.at_ w' F' ∧ B'.at_ w' G' ∧ (∀ x ∈ F', x ∉ G') ∧ Chg (F ++ G) w w' ∧ (∀ x ∈ F', x ∈ F ++ G ∨ w.heap.size ≤ x) ∧ ∀ x ∈ G', x ∈ F ++ G ∨ w.heap.size ≤ x) :
    Calls P f args w fun r w' => ret r ∧ Own w0 w' (A' :: B' :: R) := by
  have := Own.call (As := [A, B]) (R := R) h (P := P) (f := f) (args := args) (post := fun r l => ret r ∧ l = [A', B']) (fun F hF => by
    obtain ⟨F1, F2, rfl, h1, h2, h3⟩ := hF
    refine (hc F1 F2 h1 (sep_one.1 h3) h2).mono ?_
    rintro r w' ⟨k1, F', G', k2, k3, k4, k5, k6, k7⟩
    exact ⟨[A', B'], ⟨k1, rfl⟩, F' ++ G', ⟨F', G', rfl, k2, k4, sep_one.2 k3⟩, k5, fun x hx => by
      rcases List.mem_append.1 hx with h | h
      · exact k6 x h
      · exact k7 x h⟩)
  refine this.mono ?_
  rintro r w' ⟨_, ⟨h1, rfl⟩, h2⟩
  exact ⟨h1, h2⟩
/-- The piece at a place comes first, .. -/
theorem pick_perm {α : Type} : ∀ (l : List α) (i : Nat) (a : α), l[i]? = some a → l.Perm (a :: l.eraseIdx i)
  | [], i, a, h => by simp at h
  | x :: l, 0, a, h => by simp at h; subst h; simp
  | x :: l, i + 1, a, h => by
    simp only [List.getElem?_cons_succ] at h
    exact ((pick_perm l i a h).cons x).trans (.swap a x _)
/-- .. and goes back there as another. -/
theorem back_perm {α : Type} : ∀ (l : List α) (i : Nat) (a : α), i < l.length → (a :: l.eraseIdx i).Perm (l.set i a)
  | [], i, a, h => by simp at h
  | x :: l, 0, a, h => by simp
  | x :: l, i + 1, a, h => by
    simp only [List.eraseIdx_cons_succ, List.set_cons_succ]
    exact (List.Perm.swap x a _).trans ((back_perm l i a (by simpa using h)).cons x)
theorem Own.pick {w0 w : World} {As : List Asr} (h : Own w0 w As) (i : Nat) {A : Asr} (hi : As[i]? = some A) : Own w0 w (A :: As.eraseIdx i) := h.perm (pick_perm As i A hi)
theorem Own.back {w0 w : World} {As : List Asr} {A : Asr} {i : Nat} (h : Own w0 w (A :: As.eraseIdx i)) (hi : i < As.length) : Own w0 w (As.set i A) := h.perm (back_perm As i A hi)
theorem Own.fact {w0 w : World} {As : List Asr} (h : Own w0 w As) (i : Nat) {A : Asr} (hi : As[i]? = some A) : ∃ F, A.at_ w F ∧ ∀ x ∈ F, w0.heap.size ≤ x := (h.pick i hi).head
/-- Two places. -/
theorem pick2_perm {α : Type} (l : List α) (i k : Nat) (a b : α) (hi : l[i]? = some a) (hk : l[k]? = some b) (hne : i ≠ k) : ∃ R, l.Perm (a :: b :: R) ∧ ∀ x y, (x :: y :: R).Perm ((l.set i x).set k y) := by
  have hil := (List.getElem?_eq_some_iff.1 hi).1
  have hkl := (List.getElem?_eq_some_iff.1 hk).1
  obtain ⟨k', hk', hs⟩ : ∃ k', (l.eraseIdx i)[k']? = some b ∧ ∀ y x, (x :: (l.eraseIdx i).set k' y).Perm ((l.set i x).set k y) := by
    by_cases h : i < k
    · refine ⟨k - 1, by rw [List.getElem?_eraseIdx_of_ge (by omega), show k - 1 + 1 = k by omega]; exact hk, fun y x => ?_⟩
      have e : (l.eraseIdx i).set (k - 1) y = (l.set k y).eraseIdx i := by
        apply List.ext_getElem?
        intro j
        simp only [List.getElem?_set, List.getElem?_eraseIdx, List.length_eraseIdx]
        split <;> split <;> (try split) <;> (try split) <;> (try split) <;> simp_all <;> omega
      rw [e, List.set_comm _ _ hne]
      exact back_perm _ i x (by simpa using hil)
    · refine ⟨k, by rw [List.getElem?_eraseIdx_of_lt (by omega)]; exact hk, fun y x => ?_⟩
      have e : (l.eraseIdx i).set k y = (l.set k y).eraseIdx i := by
        apply List.ext_getElem?
        intro j
        simp only [List.getElem?_set, List.getElem?_eraseIdx, List.length_eraseIdx]
        split <;> split <;> (try split) <;> (try split) <;> (try split) <;> simp_all <;> omega
      rw [e, List.set_comm _ _ hne]
      exact back_perm _ i x (by simpa using hil)
  refine ⟨(l.eraseIdx i).eraseIdx k', (pick_perm l i a hi).trans ((pick_perm _ k' b hk').cons a), fun x y => ?_⟩
  exact ((back_perm _ k' y (List.getElem?_eq_some_iff.1 hk').1).cons x).trans (hs y x)
/-- A block whose cells are known and may be written. -/
def CelA (b : Nat) (cs : List Value) : Asr where
  at_ w F := F = [b] ∧ b < w.heap.size ∧ Blk w b cs
  lt := by rintro w F ⟨rfl, h1, h2⟩ x hx; simp at hx; subst hx; exact h1
  chg := by
    rintro w w' F G ⟨rfl, h1, h2⟩ c hd
    exact ⟨rfl, Nat.lt_of_lt_of_le h1 c.size, h2.chg c (hd b (by simp))⟩
/-- A slice's numbers. -/
def RowA (a : Option Addr) (cap : Nat) (l : List Int) : Asr where
  at_ w F := F = blk a ∧ RowAt w a cap l
  lt := by rintro w F ⟨rfl, h1⟩ x hx; exact h1.lt x hx
  chg := by rintro w w' F G ⟨rfl, h1⟩ c hd; exact ⟨rfl, h1.chg c hd⟩
theorem Own.cel {w0 w : World} {As : List Asr} (h : Own w0 w As) (i : Nat) {b : Nat} {cs : List Value} (hi : As[i]? = some (CelA b cs)) : Blk w b cs := by
  obtain ⟨F, ⟨_, _, h1⟩, _⟩ := h.fact i hi; exact h1
theorem Own.row {w0 w : World} {As : List Asr} (h : Own w0 w As) (i : Nat) {a : Option Addr} {cap : Nat} {l : List Int} (hi : As[i]? = some (RowA a cap l)) : RowAt w a cap l := by
  obtain ⟨F, ⟨_, h1⟩, _⟩ := h.fact i hi; exact h1
theorem Own.alloc {w0 w : World} {As : List Asr} (h : Own w0 w As) (l : List Value) (t : TypeId) {b : Nat} (hb : b = w.heap.size) : Own w0 (w.alloc (.cells l.toArray t)) (CelA b l :: As) :=
  h.add (below_alloc1 _ _) (F := [b]) ⟨rfl, by subst hb; simp, Blk.mk w l t b hb⟩ (fun x hx => by simp at hx; omega)
theorem Own.set {w0 w : World} {As : List Asr} {b : Nat} {cs : List Value} (h : Own w0 w (CelA b cs :: As)) (k : Nat) (v : Value) : Own w0 (w.setCell ⟨b, k, none⟩ v) (CelA b (cs.set k v) :: As) := by
  refine Own.turn (As := [CelA b cs]) (As' := [CelA b (cs.set k v)]) (R := As) h (fun F hF => ?_)
  obtain ⟨rfl, h1, h2⟩ := sep_one.1 hF
  exact ⟨[b], sep_one.2 ⟨rfl, by rw [World.size_setCell]; exact h1, h2.set k v⟩, (Chg.refl _ _).setCell _ (.inl (by simp)), fun x hx => .inl hx⟩
theorem Own.setAt {w0 w : World} {As : List Asr} (h : Own w0 w As) (i : Nat) {b : Nat} {cs : List Value} (hi : As[i]? = some (CelA b cs)) (k : Nat) (v : Value) : Own w0 (w.setCell ⟨b, k, none⟩ v) (As.set i (CelA b (cs.set k v))) :=
  ((h.pick i hi).set k v).back (List.getElem?_eq_some_iff.1 hi).1
theorem Own.newRow {w0 w w' : World} {As : List Asr} (h : Own w0 w As) (hb : Below w.heap.size w w') {a : Option Addr} {cap : Nat} {l : List Int} (hr : RowAt w' a cap l) (hF : ∀ x ∈ blk a, w.heap.size ≤ x) : Own w0 w' (RowA a cap l :: As) :=
  h.add hb (F := blk a) ⟨rfl, hr⟩ hF
/-- append into a row of one's own. -/
theorem Own.app {w0 w w' : World} {As : List Asr} {a a' : Option Addr} {cap cap' : Nat} {l l' : List Int} (h : Own w0 w (RowA a cap l :: As)) (hr : RowAt w' a' cap' l') (c : Chg (blk a) w w') (hf : ∀ x ∈ blk a', x ∈ blk a ∨ w.heap.size ≤ x) :
    Own w0 w' (RowA a' cap' l' :: As) := by
  refine Own.turn (As := [RowA a cap l]) (As' := [RowA a' cap' l']) (R := As) h (fun F hF => ?_)
  obtain ⟨rfl, h1⟩ := sep_one.1 hF
  exact ⟨blk a', sep_one.2 ⟨rfl, hr⟩, c, hf⟩
/-- A piece is weakened. -/
theorem Own.weak {w0 w : World} {A A' : Asr} {As : List Asr} (h : Own w0 w (A :: As)) (hA : ∀ F, A.at_ w F → A'.at_ w F) : Own w0 w (A' :: As) :=
  Own.turn (As := [A]) (As' := [A']) (R := As) h (fun F hF => ⟨F, sep_one.2 (hA F (sep_one.1 hF)), Chg.refl _ _, fun x hx => .inl hx⟩)
/-- The first cells of a block may be written. -/
def Room (w : World) (b n : Nat) : Prop := b < w.heap.size ∧ ∀ j, j < n → (w.cell? ⟨b, j, none⟩).isSome = true ∧ w.frozen? ⟨b, j, none⟩ = false
theorem Room.of_blk {w : World} {b : Nat} {cs : List Value} (h : Blk w b cs) (hb : b < w.heap.size) : Room w b cs.length := ⟨hb, fun j hj => by obtain ⟨h1, h2⟩ := h.at j hj; exact ⟨by rw [h1]; rfl, h2⟩⟩
theorem Room.at {w : World} {b n : Nat} (h : Room w b n) (j : Nat) (hj : j < n) : ∃ v, w.cell? ⟨b, j, none⟩ = some v ∧ w.frozen? ⟨b, j, none⟩ = false := by
  obtain ⟨h1, h2⟩ := h.2 j hj
  obtain ⟨v, hv⟩ := Option.isSome_iff_exists.1 h1
  exact ⟨v, hv, h2⟩
theorem Room.setCell {w : World} {b n : Nat} (h : Room w b n) (k : Nat) (v : Value) : Room (w.setCell ⟨b, k, none⟩ v) b n := ⟨by rw [World.size_setCell]; exact h.1, fun j hj => by
  obtain ⟨h1, h2⟩ := h.2 j hj
  refine ⟨?_, by rw [World.frozen?_setCell]; exact h2⟩
  by_cases e : j = k
  · subst e; rw [World.cell?_setCell_same' _ _ _ h1]; rfl
  · rw [World.cell?_setCell_other _ _ _ _ (by simp; first | done | omega)]; exact h1⟩
/-- .. and one block alone was written. -/
def CR (b n : Nat) (wc w : World) : Prop := Chg [b] wc w ∧ Room w b n
theorem CR.start {b n : Nat} {wc : World} (h : Room wc b n) : CR b n wc wc := ⟨Chg.refl _ _, h⟩
theorem CR.step {b n : Nat} {wc w w' : World} (h : CR b n wc w) (hb : Below w.heap.size w w') : CR b n wc w' :=
  ⟨h.1.trans (Chg.of_below (F := []) hb) (fun x hx => by simp at hx), Nat.lt_of_lt_of_le h.2.1 hb.size, fun j hj => by
    rw [hb.cell (p := ⟨b, j, none⟩) h.2.1, hb.frozen (p := ⟨b, j, none⟩) h.2.1]; exact h.2.2 j hj⟩
theorem CR.drew {b n : Nat} {wc w : World} (h : CR b n wc w) : CR b n wc w.drew := h.step (below_drew1 _)
theorem CR.drewN {b n : Nat} {wc w : World} (h : CR b n wc w) (k : Nat) : CR b n wc (w.drewN k) := ⟨h.1.drewN k, h.2⟩
theorem CR.set {b n : Nat} {wc w : World} (h : CR b n wc w) (k : Nat) (v : Value) : CR b n wc (w.setCell ⟨b, k, none⟩ v) := ⟨h.1.setCell v (.inl (by simp)), h.2.setCell k v⟩
theorem lim1 {p q : Prop} (h : p ∧ q) : q := h.2
theorem lim2 {p q r : Prop} (h : p ∧ q ∧ r) : r := h.2.2
theorem lim3 {p q r s : Prop} (h : p ∧ q ∧ r ∧ s) : s := h.2.2.2
theorem lim4 {p q r s t : Prop} (h : p ∧ q ∧ r ∧ s ∧ t) : t := h.2.2.2.2
end Go.Proofs.YtjidcagklakjaaaGreat
/-
  Pieces of memory: rows that are read alone, and may be shared. No program is named here.
-/
open Go Go.RowKit
set_option linter.unusedVariables false
namespace Go.Proofs.YtjidcagklakjaaaGreat
/-- Rows that are read alone. -/
def PoolA (rs : List (Option Addr × Nat × List Int)) : Asr where
  at_ w F := (∀ x ∈ F, x < w.heap.size) ∧ ∀ r ∈ rs, (∀ x ∈ blk r.1, x ∈ F) ∧ RowAt w r.1 r.2.1 r.2.2
  lt := fun h => h.1
  chg := by
    rintro w w' F G ⟨h1, h2⟩ c hd
    exact ⟨fun x hx => Nat.lt_of_lt_of_le (h1 x hx) c.size, fun r hr => ⟨(h2 r hr).1, (h2 r hr).2.chg c (fun x hx => hd x ((h2 r hr).1 x hx))⟩⟩
def EmpA : Asr where
  at_ w F := F = []
  lt := by rintro w F rfl x hx; simp at hx
  chg := by rintro w w' F G rfl c hd; rfl
theorem Own.poolAdd {w0 w w' : World} {As : List Asr} {rs : List (Option Addr × Nat × List Int)} (h : Own w0 w (PoolA rs :: As)) (hb : Below w.heap.size w w') {r : Option Addr × Nat × List Int} (hr : r ∈ rs) {a' : Option Addr} {c' : Nat} {l : List Int}
    (ha : RowAt w' a' c' l) (hx : ∀ x ∈ blk a', x ∈ blk r.1 ∨ w.heap.size ≤ x) : Own w0 w' (PoolA ((a', c', l) :: rs) :: As) := by
  obtain ⟨h1, F, ⟨F1, F2, rfl, ⟨h2, h2'⟩, h3, h4⟩, h5⟩ := h
  have hs := h1.size
  have hs2 := hb.size
  refine ⟨below_on h1 hb, (F1 ++ (blk a').filter (fun x => decide (w.heap.size ≤ x))) ++ F2, ⟨_, F2, rfl, ⟨fun x hx => ?_, fun q hq => ?_⟩, fun x hx hc => ?_, h4.chg (Chg.of_below (F := []) hb) (fun _ _ => by simp)⟩, fun x hx => ?_⟩
  · rcases List.mem_append.1 hx with h | h
    · have := h2 x h; omega
    · exact ha.lt x (List.mem_filter.1 h).1
  · rcases List.mem_cons.1 hq with rfl | hq
    · refine ⟨fun x hx' => ?_, ha⟩
      rcases hx x hx' with h | h
      · exact List.mem_append.2 (.inl ((h2' r hr).1 x h))
      · exact List.mem_append.2 (.inr (List.mem_filter.2 ⟨hx', by simpa using h⟩))
    · exact ⟨fun x hx => List.mem_append.2 (.inl ((h2' q hq).1 x hx)), (h2' q hq).2.below hb⟩
  · rcases List.mem_append.1 hx with h | h
    · exact h3 x h hc
    · have h6 : decide (w.heap.size ≤ x) = true := (List.mem_filter.1 h).2
      have h7 := h4.lt x hc
      have h8 := of_decide_eq_true h6
      omega
  · rcases List.mem_append.1 hx with h | h
    · rcases List.mem_append.1 h with h | h
      · exact h5 x (by simp [h])
      · have h6 : decide (w.heap.size ≤ x) = true := (List.mem_filter.1 h).2
        have h8 := of_decide_eq_true h6
        omega
    · exact h5 x (by simp [h])
theorem Own.poolGet {w0 w : World} {As : List Asr} {rs : List (Option Addr × Nat × List Int)} (h : Own w0 w As) (i : Nat) (hi : As[i]? = some (PoolA rs)) {r : Option Addr × Nat × List Int} (hr : r ∈ rs) : RowAt w r.1 r.2.1 r.2.2 := by
  obtain ⟨F, ⟨_, h2⟩, _⟩ := h.fact i hi
  exact (h2 r hr).2
theorem Own.rev {w0 w : World} {As : List Asr} (h : Own w0 w As) : Own w0 w As.reverse := h.perm (List.reverse_perm As).symm
theorem Own.rot {w0 w : World} {A : Asr} {As : List Asr} (h : Own w0 w (A :: As)) : Own w0 w (As ++ [A]) := h.perm (List.perm_append_singleton A As).symm
theorem CR.more {b n : Nat} {wc w w' : World} {F : List Nat} (c : Chg F w w') (h : CR b n wc w) (hb : b ∉ F) (hF : ∀ x ∈ F, wc.heap.size ≤ x) : CR b n wc w' :=
  ⟨h.1.trans c (fun x hx => .inr (hF x hx)), Nat.lt_of_lt_of_le h.2.1 c.size, fun j hj => by
    have hk := c.block b h.2.1 hb
    rw [cell_of_heap hk, World.frozen?_of_block (a := ⟨b, j, none⟩) hk]; exact h.2.2 j hj⟩
theorem CR.loads {b n c o : Nat} {wc : World} {x : Value} (g : wc.cell? ⟨c, o, none⟩ = some x) (hne : c ≠ b) (w' : World) (h : CR b n wc w') : w'.cell? ⟨c, o, none⟩ = some x ∧ CR b n wc w' := ⟨cell_chg g h.1 (by simp; omega), h⟩
theorem CR.bel {b n : Nat} {wc w0 w' : World} (h : CR b n wc w') (h0 : Below w0.heap.size w0 wc) (hb : w0.heap.size ≤ b) : Below w0.heap.size w0 w' := Chg.below h0 h.1 (fun x hx => by simp at hx; omega)
theorem RowAt.zero' {w : World} {b : Nat} (hb : b < w.heap.size) : RowAt w (some ⟨b, 0, none⟩) 0 [] := ⟨by simp, by simp, .inr ⟨b, 0, rfl, hb, fun j hj => by omega, fun j v hj => by simp [intc] at hj⟩⟩
theorem RowAt.none0 {w : World} {a : Option Addr} {cap : Nat} {l : List Int} (h : RowAt w a cap l) (e : a = none) : cap = 0 := by
  rcases h.2.2 with ⟨_, h⟩ | ⟨_, _, h, _⟩
  · exact h
  · rw [e] at h; cases h
end Go.Proofs.YtjidcagklakjaaaGreat
/-
  Rows in memory of elements of s cells, wherever in their block they begin. No program is named here.
-/
open Go Go.RowKit
set_option linter.unusedVariables false
namespace Go.Proofs.YtjidcagklakjaaaGreat
/-- A slice's cells; its room may be written. -/
def RowG (s : Nat) (w : World) (a : Option Addr) (cap n : Nat) (cs : List Value) : Prop :=
  cs.length = n * s ∧ n ≤ cap ∧ cap ≤ maxLen ∧ ((a = none ∧ cap = 0) ∨ ∃ b off, a = some ⟨b, off, none⟩ ∧ b < w.heap.size ∧
    (∀ j, j < cap * s → (w.cell? ⟨b, off + j, none⟩).isSome = true ∧ w.frozen? ⟨b, off + j, none⟩ = false) ∧ ∀ j v, cs[j]? = some v → w.cell? ⟨b, off + j, none⟩ = some v)
/-- Its cells alone. -/
def CellsAt (w : World) (a : Option Addr) (cs : List Value) : Prop := ∀ j v, cs[j]? = some v → ∃ b off, a = some ⟨b, off, none⟩ ∧ w.cell? ⟨b, off + j, none⟩ = some v
theorem CellsAt.below {w w' : World} {a : Option Addr} {cs : List Value} (h : CellsAt w a cs) (hb : Below w.heap.size w w') : CellsAt w' a cs := fun j v hj => by
  obtain ⟨b, off, h1, h2⟩ := h j v hj
  exact ⟨b, off, h1, cell_below h2 hb⟩
theorem CellsAt.nil (w : World) (a : Option Addr) : CellsAt w a [] := fun j v h => by simp at h
theorem RowG.nil (s : Nat) (w : World) : RowG s w none 0 0 [] := ⟨by simp, by simp, by simp, .inl ⟨rfl, rfl⟩⟩
theorem RowG.cells {s : Nat} {w : World} {a : Option Addr} {cap n : Nat} {cs : List Value} (h : RowG s w a cap n cs) : CellsAt w a cs := fun j v hj => by
  obtain ⟨h1, h2, h3, h4⟩ := h
  rcases h4 with ⟨rfl, h0⟩ | ⟨b, off, rfl, hb, h5, h6⟩
  · have hl := (List.getElem?_eq_some_iff.1 hj).1
    have : n = 0 := by omega
    subst this; simp at h1; subst h1; simp at hl
  · exact ⟨b, off, rfl, h6 j v hj⟩
theorem RowG.lt {s : Nat} {w : World} {a : Option Addr} {cap n : Nat} {cs : List Value} (h : RowG s w a cap n cs) : ∀ x ∈ blk a, x < w.heap.size := by
  rcases h.2.2.2 with ⟨rfl, _⟩ | ⟨b, off, rfl, hb, _⟩
  · intro x hx; simp [blk] at hx
  · intro x hx; simp [blk] at hx; subst hx; exact hb
theorem RowG.none0 {s : Nat} {w : World} {a : Option Addr} {cap n : Nat} {cs : List Value} (h : RowG s w a cap n cs) (e : a = none) : cap = 0 := by
  rcases h.2.2.2 with ⟨_, h⟩ | ⟨_, _, h, _⟩
  · exact h
  · rw [e] at h; cases h
theorem RowG.chg {s : Nat} {F : List Nat} {w w' : World} {a : Option Addr} {cap n : Nat} {cs : List Value} (h : RowG s w a cap n cs) (c : Chg F w w') (hd : ∀ x ∈ blk a, x ∉ F) : RowG s w' a cap n cs := by
  refine ⟨h.1, h.2.1, h.2.2.1, ?_⟩
  rcases h.2.2.2 with h0 | ⟨b, off, rfl, hb, h1, h2⟩
  · exact .inl h0
  · have hk := c.block b hb (hd b (by simp [blk]))
    refine .inr ⟨b, off, rfl, Nat.lt_of_lt_of_le hb c.size, fun j hj => ?_, fun j v hj => ?_⟩
    · rw [cell_of_heap hk, World.frozen?_of_block (a := ⟨b, off + j, none⟩) hk]; exact h1 j hj
    · rw [cell_of_heap hk]; exact h2 j v hj
theorem RowG.below {s : Nat} {w w' : World} {a : Option Addr} {cap n : Nat} {cs : List Value} (h : RowG s w a cap n cs) (hb : Below w.heap.size w w') : RowG s w' a cap n cs :=
  h.chg (Chg.of_below (F := []) hb) (fun _ _ => by simp)
theorem RowG.zero {s : Nat} {w : World} {b : Nat} (hb : b < w.heap.size) : RowG s w (some ⟨b, 0, none⟩) 0 0 [] := ⟨by simp, by simp, by simp, .inr ⟨b, 0, rfl, hb, fun j hj => by simp at hj, fun j v hj => by simp at hj⟩⟩
/-- Cells in a new block. -/
theorem RowG.new (s n : Nat) (w : World) (cs : List Value) (t : TypeId) (hn : cs.length = n * s) (hl : n ≤ maxLen) {b : Nat} (hb : b = w.heap.size) : RowG s (w.alloc (.cells cs.toArray t)) (some ⟨b, 0, none⟩) n n cs := by
  subst hb
  have hB := Blk.new w cs.toArray t
  refine ⟨hn, Nat.le_refl _, hl, .inr ⟨_, 0, rfl, by simp, fun j hj => ?_, fun j v hj => ?_⟩⟩
  · rw [Nat.zero_add]
    obtain ⟨h1, h2⟩ := hB j _ (List.getElem?_eq_getElem (show j < cs.length by omega))
    exact ⟨by rw [h1]; rfl, h2⟩
  · rw [Nat.zero_add]; exact (hB j v hj).1
theorem CellsAt.new (w : World) (cs : List Value) (t : TypeId) {b : Nat} (hb : b = w.heap.size) : CellsAt (w.alloc (.cells cs.toArray t)) (some ⟨b, 0, none⟩) cs := fun j v hj => by
  subst hb
  exact ⟨_, 0, rfl, by rw [Nat.zero_add]; exact (Blk.new w cs.toArray t j v hj).1⟩
theorem CellsAt.chg {F : List Nat} {w w' : World} {a : Option Addr} {cs : List Value} (h : CellsAt w a cs) (c : Chg F w w') (hd : ∀ x ∈ blk a, x ∉ F) : CellsAt w' a cs := fun j v hj => by
  obtain ⟨b, off, rfl, h2⟩ := h j v hj
  exact ⟨b, off, rfl, cell_chg h2 c (hd b (by simp [blk]))⟩
/-- s[m:]. -/
theorem slice_fromG {P : Program} {t : TypeId} {s : Nat} (ht : P.underlying t = some (.slice (P.elem t))) (hs : ∀ w, (sizeOf (P.elem t)).run P w = .ok s w) {w0 : World} {a : Option Addr} {cap n : Nat} {cs : List Value} (h : RowG s w0 a cap n cs) (m : Nat) (hm : m ≤ n) :
    ∃ a', (∀ w, (Instr.slice t (.slice a n cap) (some (.int .i64 (m : Int))) none none).run P w = .ok (.slice a' (n - m) (cap - m)) w) ∧ RowG s w0 a' (cap - m) (n - m) (cs.drop (m * s)) ∧ blk a' = blk a := by
  have hl := h.2.1
  have h1l := h.1
  have hdl : (cs.drop (m * s)).length = (n - m) * s := by rw [List.length_drop, h1l, Nat.sub_mul]
  rcases h.2.2.2 with ⟨rfl, rfl⟩ | ⟨b, off, rfl, hb, h1, h2⟩
  · obtain rfl : n = 0 := by omega
    obtain rfl : m = 0 := by omega
    refine ⟨none, fun w => ?_, ⟨hdl, by omega, by simp, .inl ⟨rfl, rfl⟩⟩, rfl⟩
    rw [run_slice_l (P := P) (t := t) (ht := ht) (kl := .i64) (l := ((0 : Nat) : Int)) (h0 := by omega) (h1 := by simp), hs]
    simp [Result.andThen, sliced]
  · by_cases hc : cap = m
    · refine ⟨some ⟨b, off, none⟩, fun w => ?_, ⟨hdl, by omega, by have := h.2.2.1; omega, .inr ⟨b, off, rfl, hb, fun j hj => ?_, fun j v hj => ?_⟩⟩, rfl⟩
      · rw [run_slice_l (P := P) (t := t) (ht := ht) (kl := .i64) (l := (m : Int)) (h0 := by omega) (h1 := by omega), hs]
        simp [Result.andThen, sliced, hc]
      · rw [hc] at hj; simp at hj
      · have : cs.drop (m * s) = [] := List.length_eq_zero_iff.1 (by rw [hdl, show n - m = 0 by omega]; simp)
        rw [this] at hj; simp at hj
    · refine ⟨some ⟨b, off + m * s, none⟩, fun w => ?_, ⟨hdl, by omega, by have := h.2.2.1; omega, .inr ⟨b, off + m * s, rfl, hb, fun j hj => ?_, fun j v hj => ?_⟩⟩, rfl⟩
      · rw [run_slice_l (P := P) (t := t) (ht := ht) (kl := .i64) (l := (m : Int)) (h0 := by omega) (h1 := by omega), hs]
        by_cases hm0 : m = 0
        · subst hm0; simp [Result.andThen, sliced, hc, Addr.add]
        · simp [Result.andThen, sliced, hc, Addr.add, hm0]
          try (intro hz; omega)
      · have hlt : m * s + j < cap * s := by
          have : cap * s = m * s + (cap - m) * s := by rw [← Nat.add_mul]; congr 1; omega
          omega
        have := h1 (m * s + j) hlt
        rwa [← Nat.add_assoc] at this
      · have := h2 (m * s + j) v (by rw [List.getElem?_drop] at hj; exact hj)
        rwa [← Nat.add_assoc] at this
/-- s[:m]. -/
theorem RowG.take {s : Nat} {w : World} {a : Option Addr} {cap n : Nat} {cs : List Value} (h : RowG s w a cap n cs) (m : Nat) (hm : m ≤ n) : RowG s w a cap m (cs.take (m * s)) := by
  obtain ⟨h1, h2, h3, h4⟩ := h
  have hms : m * s ≤ n * s := Nat.mul_le_mul_right _ hm
  refine ⟨by rw [List.length_take]; omega, by omega, h3, ?_⟩
  rcases h4 with h0 | ⟨b, off, rfl, hb, h5, h6⟩
  · exact .inl h0
  · refine .inr ⟨b, off, rfl, hb, h5, fun j v hj => h6 j v ?_⟩
    rw [List.getElem?_take] at hj
    split at hj
    · exact hj
    · simp at hj
theorem RowG.of_own {s : Nat} {w : World} {base n : Nat} {e : TypeId} {v : Value} {cs : List Value} (h : w.ownsRow base e s v n cs) : ∃ a cap, v = .slice a n cap ∧ RowG s w a cap n cs ∧ ∀ x ∈ blk a, base ≤ x := by
  have hx := h.1
  rcases h.2 with ⟨rfl, h0⟩ | ⟨g, cap, cur, rfl, hb, hg, h1, h2, h3, h4⟩
  · exact ⟨none, 0, by rw [h0], ⟨hx, by omega, by simp, .inl ⟨rfl, rfl⟩⟩, fun x hx => by simp [blk] at hx⟩
  · have hlt : g < w.heap.size := (Array.getElem?_eq_some_iff.1 hg).1
    refine ⟨_, cap, rfl, ⟨hx, h1, h2, .inr ⟨g, 0, rfl, hlt, fun j hj => ⟨?_, ?_⟩, fun j v hj => ?_⟩⟩, fun x hx => by simp [blk] at hx; subst hx; exact hb⟩
    · rw [Nat.zero_add, cell_of_row w g j cur e (0, 0) hg, Array.getElem?_eq_getElem (by omega)]; rfl
    · rw [Nat.zero_add]; exact frozen_of_row w g j cur e hg
    · rw [Nat.zero_add, cell_of_row w g j cur e (0, 0) hg]
      rw [← h4, List.getElem?_take] at hj
      split at hj
      · simpa using hj
      · cases hj
/-- append(s, t...), whatever both are. -/
theorem append_rowG {P : Program} {w : World} {s by_ : Nat} (t ty e : TypeId) (i : TypeInfo) (z : Value) (ht : P.underlying t = some (.slice e)) (hi : P.info? e = some i) (hz : i.zero = some z) (hsize : i.size = s) (hby : i.bytes = by_) (hzs : z.cells.size = s) (hs0 : 0 < s) (hb0 : by_ ≤ 1000)
    {a b : Option Addr} {cap c n m : Nat} {cs ds : List Value} (ha : RowG s w a cap n cs) (hb : CellsAt w b ds) (hd : ds.length = m * s) (hone : ∀ u ∈ ds, u.oneCell' = true) (h47 : n + m ≤ 1000000000) :
    ∃ a' cap' w', (Builtin.append_ #[t, t] ty #[.slice a n cap, .slice b m c]).run P w = .ok (.slice a' (n + m) cap') w' ∧ RowG s w' a' cap' (n + m) (cs ++ ds) ∧ Chg (blk a) w w' ∧ ∀ x ∈ blk a', x ∈ blk a ∨ w.heap.size ≤ x := by
  have hbyt : (n + m) * by_ ≤ 140737488355328 := Nat.le_trans (Nat.mul_le_mul h47 hb0) (by omega)
  cases b with
  | none =>
    have hdn : ds = [] := by
      cases ds with
      | nil => rfl
      | cons x t => obtain ⟨_, _, h1, _⟩ := hb 0 x rfl; cases h1
    subst hdn
    have : m = 0 := by
      have h0 : m * s = 0 := by rw [← hd]; rfl
      rcases Nat.mul_eq_zero.1 h0 with h | h
      · exact h
      · omega
    subst this
    have hl := ha.2.1
    refine ⟨a, cap, w, ?_, by simpa using ha, Chg.refl _ _, fun x hx => .inl hx⟩
    cases a <;> simp [Builtin.append_, run_underlying ht, sizeOf, typeInfo, hi, Builtin.lenOf, Builtin.firstCells, storeCells, hl]
  | some ad =>
    by_cases hm0 : m = 0
    · subst hm0
      have hdn : ds = [] := List.length_eq_zero_iff.1 (by rw [hd]; simp)
      subst hdn
      have hl := ha.2.1
      refine ⟨a, cap, w, ?_, by simpa using ha, Chg.refl _ _, fun x hx => .inl hx⟩
      cases a <;> simp [Builtin.append_, run_underlying ht, sizeOf, typeInfo, hi, Builtin.lenOf, Builtin.firstCells, storeCells, loadCells, loadCellsFrom, hl]
    have hnews : ∀ j u, ds[j]? = some u → w.cell? (ad.add j) = some u := fun j u hj => by
      obtain ⟨b, off, h1, h2⟩ := hb j u hj
      cases h1
      rw [Addr.add_lit, h2]
    rcases ha.2.2.2 with ⟨rfl, h0⟩ | ⟨b, off, rfl, hbl, h1, h2⟩
    · obtain rfl : n = 0 := by have := ha.2.1; omega
      have hl0 : cs = [] := List.length_eq_zero_iff.1 (by have := ha.1; omega)
      subst hl0
      subst h0
      obtain ⟨v', w', hr, r1, r2, _⟩ := run_append_own (P := P) w w.heap.size t ty e i z s by_ ht hi hz hsize hby hzs hs0 (.slice none 0 0) 0 [] (World.ownsRow_nil _ _ _ _) ad m c ds hd hnews hone (by unfold maxLen; omega) hbyt (Nat.le_refl _)
      simp only [List.nil_append] at r1
      obtain ⟨a', cap', rfl, hrow, hbase⟩ := RowG.of_own r1
      exact ⟨a', cap', w', hr, by simpa using hrow, grownBy_chg r2 |>.mono (by simp [Value.ownBlock, blk]), fun x hx => .inr (hbase x hx)⟩
    · by_cases hroom : n + m ≤ cap
      · have hcap : (n + m) * s ≤ cap * s := Nat.mul_le_mul_right _ hroom
        rw [Nat.add_mul] at hcap
        have hr := run_append_room_cells (P := P) w t ty e i ht hi b off n cap ad m c ds (by rw [hd, hsize]) hnews hone hroom
          (fun j hj => by rw [hsize]; have := (h1 (n * s + j) (by omega)).1; rwa [← Nat.add_assoc] at this)
          (fun j hj => by rw [hsize]; have := (h1 (n * s + j) (by omega)).2; rwa [← Nat.add_assoc] at this)
        rw [hsize] at hr
        have hin := World.cell?_setCells_in b ds (off + n * s) w (fun j hj => by have := (h1 (n * s + j) (by omega)).1; rwa [← Nat.add_assoc] at this)
        have hcl := ha.1
        refine ⟨_, cap, _, hr, ⟨by rw [List.length_append, hd, hcl, Nat.add_mul], hroom, ha.2.2.1, .inr ⟨b, off, rfl, Nat.lt_of_lt_of_le hbl ((Chg.refl [b] w).setCells ds (off + n * s) (.inl (by simp))).size, fun j hj => ⟨?_, ?_⟩, fun j v hj => ?_⟩⟩, (Chg.refl _ _).setCells _ _ (.inl (by simp [blk])), fun x hx => .inl hx⟩
        · by_cases hj2 : n * s ≤ j ∧ j < n * s + m * s
          · have := hin (j - n * s) (by omega)
            rw [show off + n * s + (j - n * s) = off + j by omega] at this
            rw [this]; rfl
          · rw [World.cell?_setCells_out b ds _ w _ (fun _ _ => by simp only; omega)]
            exact (h1 j hj).1
        · rw [World.frozen?_setCells]; exact (h1 j hj).2
        · by_cases hj2 : j < n * s
          · rw [List.getElem?_append_left (by omega)] at hj
            rw [World.cell?_setCells_out b ds _ w _ (fun _ _ => by simp only; omega)]
            exact h2 j v hj
          · rw [List.getElem?_append_right (by omega), hcl] at hj
            have hlt : j - n * s < ds.length := (List.getElem?_eq_some_iff.1 hj).1
            have := hin (j - n * s) hlt
            rw [show off + n * s + (j - n * s) = off + j by omega] at this
            rw [this]
            rw [List.getElem?_eq_getElem hlt] at hj
            exact hj
      · obtain ⟨v', w', hr, r1, r2⟩ := run_append_arg_grows (P := P) w t ty e i z s by_ ht hi hz hsize hby hzs hs0 ⟨b, off, none⟩ n cap cs ha.1 (fun j u hj => by rw [Addr.add_lit]; exact h2 j u hj) ad m c ds hd hnews (by omega) (by unfold maxLen; omega) hbyt
        obtain ⟨a', cap', rfl, hrow, hbase⟩ := RowG.of_own r1
        exact ⟨a', cap', w', hr, hrow, (grownBy_chg r2).mono (by simp), fun x hx => .inr (hbase x hx)⟩
theorem wpList_append_rowG {P : Program} {w : World} {ops : Array Oper} {rest : List Oper} {o : Oper} {ac : Act} {Q : Exit → Act → World → Prop} {s by_ : Nat} (hgd : o.guard = none) (sl x : Operand) (t : TypeId)
    (ho : o.op = .call { callee := .builtin .append, args := #[sl, x], argTypes := #[t, t] }) (e : TypeId) (i : TypeInfo) (z : Value) (ht : P.underlying t = some (.slice e)) (hi : P.info? e = some i) (hz : i.zero = some z) (hsize : i.size = s) (hby : i.bytes = by_) (hzs : z.cells.size = s) (hs0 : 0 < s) (hb0 : by_ ≤ 1000)
    {a b : Option Addr} {cap c n m : Nat} {cs ds : List Value} (hs : ac.eval sl = .slice a n cap) (hx : ac.eval x = .slice b m c) (ha : RowG s w a cap n cs) (hb : CellsAt w b ds) (hd : ds.length = m * s) (hone : ∀ u ∈ ds, u.oneCell' = true) (h47 : n + m ≤ 1000000000)
    (h : ∀ a' cap' w', RowG s w' a' cap' (n + m) (cs ++ ds) → Chg (blk a) w w' → (∀ x ∈ blk a', x ∈ blk a ∨ w.heap.size ≤ x) → wpList P ops Q rest (ac.put o.dst (.slice a' (n + m) cap')) w') : wpList P ops Q (o :: rest) ac w := by
  refine wpList_plain hgd fun K hK => ?_
  obtain ⟨a', cap', w', hr, h2, h3, h4⟩ := append_rowG (P := P) (w := w) t o.type e i z ht hi hz hsize hby hzs hs0 hb0 ha (c := c) hb hd hone h47
  unfold Oper.wp execOp
  simp only [ho, resolve, invoke, builtin, Sem.run_bind, Sem.run_pure, Result.andThen_ok, List.map_toArray, List.map_cons, List.map_nil, hs, hx, hr]
  exact hK _ _ (h a' cap' w' h2 h3 h4)
theorem step_append_rowG {P : Program} {w : World} {ops : Array Oper} {o : Oper} {ac : Act} {K : Act → World → Prop} {Q : Exit → Act → World → Prop} {E : Prop} {s by_ : Nat} (hgd : o.guard = none) (sl x : Operand) (t : TypeId)
    (ho : o.op = .call { callee := .builtin .append, args := #[sl, x], argTypes := #[t, t] }) (e : TypeId) (i : TypeInfo) (z : Value) (ht : P.underlying t = some (.slice e)) (hi : P.info? e = some i) (hz : i.zero = some z) (hsize : i.size = s) (hby : i.bytes = by_) (hzs : z.cells.size = s) (hs0 : 0 < s) (hb0 : by_ ≤ 1000)
    {a b : Option Addr} {cap c n m : Nat} {cs ds : List Value} (hs : ac.eval sl = .slice a n cap) (hx : ac.eval x = .slice b m c) (ha : RowG s w a cap n cs) (hb : CellsAt w b ds) (hd : ds.length = m * s) (hone : ∀ u ∈ ds, u.oneCell' = true) (h47 : n + m ≤ 1000000000)
    (h : ∀ a' cap' w', RowG s w' a' cap' (n + m) (cs ++ ds) → Chg (blk a) w w' → (∀ x ∈ blk a', x ∈ blk a ∨ w.heap.size ≤ x) → K (ac.put o.dst (.slice a' (n + m) cap')) w') : if Region.wanted o (yielded ops ac.tmps) = true then Oper.wp P o ac w K Q else E := by
  have hw : Region.wanted o (yielded ops ac.tmps) = true := by simp [Region.wanted, hgd]
  rw [if_pos hw]
  obtain ⟨a', cap', w', hr, h2, h3, h4⟩ := append_rowG (P := P) (w := w) t o.type e i z ht hi hz hsize hby hzs hs0 hb0 ha (c := c) hb hd hone h47
  unfold Oper.wp execOp
  simp only [ho, resolve, invoke, builtin, Sem.run_bind, Sem.run_pure, Result.andThen_ok, List.map_toArray, List.map_cons, List.map_nil, hs, hx, hr]
  exact h a' cap' w' h2 h3 h4
/-- A number's row is one of its cells. -/
theorem RowG.of_row {w : World} {a : Option Addr} {cap : Nat} {l : List Int} (h : RowAt w a cap l) : RowG 1 w a cap l.length (intc l) := ⟨by rw [intc_len]; simp, h.1, h.2.1, by simpa using h.2.2⟩
theorem RowG.to_row {w : World} {a : Option Addr} {cap n : Nat} {l : List Int} (h : RowG 1 w a cap n (intc l)) : RowAt w a cap l ∧ n = l.length := by
  have h1 := h.1
  rw [intc_len, Nat.mul_one] at h1
  exact ⟨⟨by rw [h1]; exact h.2.1, h.2.2.1, by simpa using h.2.2.2⟩, h1.symm⟩
def RowGA (s : Nat) (a : Option Addr) (cap n : Nat) (cs : List Value) : Asr where
  at_ w F := F = blk a ∧ RowG s w a cap n cs
  lt := by rintro w F ⟨rfl, h1⟩ x hx; exact h1.lt x hx
  chg := by rintro w w' F G ⟨rfl, h1⟩ c hd; exact ⟨rfl, h1.chg c hd⟩
/-- Cells that are read alone, and may be shared. -/
def PoolG (rs : List (Option Addr × List Value)) : Asr where
  at_ w F := (∀ x ∈ F, x < w.heap.size) ∧ ∀ r ∈ rs, (∀ x ∈ blk r.1, x ∈ F) ∧ CellsAt w r.1 r.2
  lt := fun h => h.1
  chg := by
    rintro w w' F G ⟨h1, h2⟩ c hd
    exact ⟨fun x hx => Nat.lt_of_lt_of_le (h1 x hx) c.size, fun r hr => ⟨(h2 r hr).1, (h2 r hr).2.chg c (fun x hx => hd x ((h2 r hr).1 x hx))⟩⟩
theorem Own.poolGAdd {w0 w w' : World} {As : List Asr} {rs : List (Option Addr × List Value)} (h : Own w0 w (PoolG rs :: As)) (hb : Below w.heap.size w w') {a' : Option Addr} {cs : List Value}
    (ha : CellsAt w' a' cs) (hl : ∀ x ∈ blk a', x < w'.heap.size) (hx : ∀ x ∈ blk a', (∃ r ∈ rs, x ∈ blk r.1) ∨ w.heap.size ≤ x) : Own w0 w' (PoolG ((a', cs) :: rs) :: As) := by
  obtain ⟨h1, F, ⟨F1, F2, rfl, ⟨h2, h2'⟩, h3, h4⟩, h5⟩ := h
  have hs := h1.size
  have hs2 := hb.size
  refine ⟨below_on h1 hb, (F1 ++ (blk a').filter (fun x => decide (w.heap.size ≤ x))) ++ F2, ⟨_, F2, rfl, ⟨fun x hx => ?_, fun q hq => ?_⟩, fun x hx hc => ?_, h4.chg (Chg.of_below (F := []) hb) (fun _ _ => by simp)⟩, fun x hx => ?_⟩
  · rcases List.mem_append.1 hx with h | h
    · have := h2 x h; omega
    · exact hl x (List.mem_filter.1 h).1
  · rcases List.mem_cons.1 hq with rfl | hq
    · refine ⟨fun x hx' => ?_, ha⟩
      rcases hx x hx' with ⟨r, hr, h⟩ | h
      · exact List.mem_append.2 (.inl ((h2' r hr).1 x h))
      · exact List.mem_append.2 (.inr (List.mem_filter.2 ⟨hx', by simpa using h⟩))
    · exact ⟨fun x hx => List.mem_append.2 (.inl ((h2' q hq).1 x hx)), (h2' q hq).2.below hb⟩
  · rcases List.mem_append.1 hx with h | h
    · exact h3 x h hc
    · have h6 : decide (w.heap.size ≤ x) = true := (List.mem_filter.1 h).2
      have h7 := h4.lt x hc
      have h8 := of_decide_eq_true h6
      omega
  · rcases List.mem_append.1 hx with h | h
    · rcases List.mem_append.1 h with h | h
      · exact h5 x (by simp [h])
      · have h6 : decide (w.heap.size ≤ x) = true := (List.mem_filter.1 h).2
        have h8 := of_decide_eq_true h6
        omega
    · exact h5 x (by simp [h])
theorem Own.poolGGet {w0 w : World} {As : List Asr} {rs : List (Option Addr × List Value)} (h : Own w0 w As) (i : Nat) (hi : As[i]? = some (PoolG rs)) {r : Option Addr × List Value} (hr : r ∈ rs) : CellsAt w r.1 r.2 ∧ ∀ x ∈ blk r.1, x < w.heap.size := by
  obtain ⟨F, ⟨h1, h2⟩, _⟩ := h.fact i hi
  exact ⟨(h2 r hr).2, fun x hx => h1 x ((h2 r hr).1 x hx)⟩
end Go.Proofs.YtjidcagklakjaaaGreat
/-
  Rows of records as pieces of memory: read, written, appended to. No program is named here.
-/
open Go Go.RowKit
set_option linter.unusedVariables false
namespace Go.Proofs.YtjidcagklakjaaaGreat
theorem CellsAt.int {w : World} {a : Option Addr} {l : List Int} (h : CellsAt w a (intc l)) (i : Nat) (hi : i < l.length) : ∃ b off, a = some ⟨b, off, none⟩ ∧ w.cell? ⟨b, off + i, none⟩ = some (.int .i64 l[i]) := h _ _ (intc_at l i hi)
theorem Own.rowG {w0 w : World} {As : List Asr} (h : Own w0 w As) (i : Nat) {s : Nat} {a : Option Addr} {cap n : Nat} {cs : List Value} (hi : As[i]? = some (RowGA s a cap n cs)) : RowG s w a cap n cs := by
  obtain ⟨F, ⟨_, h1⟩, _⟩ := h.fact i hi; exact h1
/-- A row is another one, of what was one's own. -/
theorem Own.rowTurn {w0 w w' : World} {As : List Asr} {s : Nat} {a a' : Option Addr} {cap cap' n n' : Nat} {cs cs' : List Value} (h : Own w0 w (RowGA s a cap n cs :: As)) (hr : RowG s w' a' cap' n' cs') (c : Chg (blk a) w w') (hf : ∀ x ∈ blk a', x ∈ blk a ∨ w.heap.size ≤ x) :
    Own w0 w' (RowGA s a' cap' n' cs' :: As) := by
  refine Own.turn (As := [RowGA s a cap n cs]) (As' := [RowGA s a' cap' n' cs']) (R := As) h (fun F hF => ?_)
  obtain ⟨rfl, h1⟩ := sep_one.1 hF
  exact ⟨blk a', sep_one.2 ⟨rfl, hr⟩, c, hf⟩
/-- A piece that is some pieces. -/
theorem Own.unfold {w0 w : World} {A : Asr} {R : List Asr} (h : Own w0 w (A :: R)) {P : List Asr → Prop} (hA : ∀ F, A.at_ w F → ∃ As, P As ∧ Sep w As F) : ∃ As, P As ∧ Own w0 w (As ++ R) := by
  obtain ⟨h1, F, ⟨F1, F2, rfl, h2, h3, h4⟩, h5⟩ := h
  obtain ⟨As, hp, hs⟩ := hA F1 h2
  exact ⟨As, hp, h1, F1 ++ F2, hs.app h4 h3, h5⟩
theorem Own.fold {w0 w : World} {A : Asr} {As R : List Asr} (h : Own w0 w (As ++ R)) (hA : ∀ F, Sep w As F → A.at_ w F) : Own w0 w (A :: R) := by
  obtain ⟨h1, F, h2, h5⟩ := h
  obtain ⟨F1, F2, rfl, h3, h4, h6⟩ := h2.split
  exact ⟨h1, F1 ++ F2, ⟨F1, F2, rfl, hA F1 h3, h4, h6⟩, h5⟩
theorem RowG.setCell {s : Nat} {w : World} {b off cap n : Nat} {cs : List Value} (h : RowG s w (some ⟨b, off, none⟩) cap n cs) (j : Nat) (v : Value) (hj : j < cs.length) : RowG s (w.setCell ⟨b, off + j, none⟩ v) (some ⟨b, off, none⟩) cap n (cs.set j v) := by
  obtain ⟨h1, h2, h3, h4⟩ := h
  rcases h4 with ⟨h0, _⟩ | ⟨b', off', hb', hlt, h5, h6⟩
  · cases h0
  · simp only [Option.some.injEq, Addr.mk.injEq, and_true] at hb'
    obtain ⟨rfl, rfl⟩ := hb'
    have hms : n * s ≤ cap * s := Nat.mul_le_mul_right _ h2
    refine ⟨by rw [List.length_set]; exact h1, h2, h3, .inr ⟨b, off, rfl, by rw [World.size_setCell]; exact hlt, fun k hk => ⟨?_, by rw [World.frozen?_setCell]; exact (h5 k hk).2⟩, fun k u hk => ?_⟩⟩
    · by_cases e : k = j
      · subst e; rw [World.cell?_setCell_same' _ _ _ (h5 k hk).1]; rfl
      · rw [World.cell?_setCell_other _ _ _ _ (by simp <;> omega)]; exact (h5 k hk).1
    · by_cases e : k = j
      · subst e
        rw [List.getElem?_set_self hj] at hk
        obtain rfl : v = u := by simpa using hk
        exact World.cell?_setCell_same' _ _ _ (h5 k (by omega)).1
      · rw [List.getElem?_set_ne (by omega)] at hk
        rw [World.cell?_setCell_other _ _ _ _ (by simp <;> omega)]; exact h6 k u hk
theorem Own.rowSet {w0 w : World} {As : List Asr} {s b off cap n : Nat} {cs : List Value} (h : Own w0 w (RowGA s (some ⟨b, off, none⟩) cap n cs :: As)) (j : Nat) (v : Value) (hj : j < cs.length) : Own w0 (w.setCell ⟨b, off + j, none⟩ v) (RowGA s (some ⟨b, off, none⟩) cap n (cs.set j v) :: As) :=
  Own.rowTurn h ((h.rowG 0 rfl).setCell j v hj) ((Chg.refl _ _).setCell _ (.inl (by simp [blk]))) (fun x hx => .inl hx)
theorem RowG.spot {s : Nat} {w : World} {b off cap n : Nat} {cs : List Value} (h : RowG s w (some ⟨b, off, none⟩) cap n cs) (j : Nat) (hj : j < cap * s) : ∃ v, w.cell? ⟨b, off + j, none⟩ = some v ∧ w.frozen? ⟨b, off + j, none⟩ = false := by
  rcases h.2.2.2 with ⟨h0, _⟩ | ⟨b', off', hb', hlt, h5, h6⟩
  · cases h0
  · simp only [Option.some.injEq, Addr.mk.injEq, and_true] at hb'
    obtain ⟨rfl, rfl⟩ := hb'
    obtain ⟨v, hv⟩ := Option.isSome_iff_exists.1 (h5 j hj).1
    exact ⟨v, hv, (h5 j hj).2⟩
/-- Cells of a row of records. -/
theorem flat_len {α : Type} (f : α → List Value) (s : Nat) (hf : ∀ x, (f x).length = s) : ∀ l : List α, (l.flatMap f).length = l.length * s
  | [] => by simp
  | x :: l => by rw [List.flatMap_cons, List.length_append, hf, flat_len f s hf l, List.length_cons, Nat.add_mul]; omega
theorem flat_at {α : Type} (f : α → List Value) (s : Nat) (hf : ∀ x, (f x).length = s) : ∀ (l : List α) (i k : Nat) (hi : i < l.length), k < s → (l.flatMap f)[i * s + k]? = (f l[i])[k]?
  | [], i, k, hi, _ => by simp at hi
  | x :: l, 0, k, _, hk => by rw [List.flatMap_cons, Nat.zero_mul, Nat.zero_add, List.getElem?_append_left (by rw [hf]; exact hk)]; rfl
  | x :: l, i + 1, k, hi, hk => by
    have ih := flat_at f s hf l i k (by simpa using hi) hk
    have e : (i + 1) * s + k = s + (i * s + k) := by rw [Nat.add_mul]; omega
    rw [List.flatMap_cons, e, List.getElem?_append_right (by rw [hf]; omega), hf, Nat.add_sub_cancel_left, ih]
    rfl
/-- A record is another one: its cells are laid one by one. -/
def setL (cs : List Value) (o : Nat) : List Value → List Value
  | [] => cs
  | v :: vs => setL (cs.set o v) (o + 1) vs
theorem setL_at : ∀ (vs : List Value) (cs : List Value) (o j : Nat), (setL cs o vs)[j]? = if o ≤ j ∧ j < o + vs.length ∧ j < cs.length then vs[j - o]? else cs[j]?
  | [], cs, o, j => by
    rw [if_neg (by simp; omega)]; rfl
  | v :: vs, cs, o, j => by
    rw [setL, setL_at vs (cs.set o v) (o + 1) j]
    simp only [List.length_set, List.length_cons]
    by_cases h : o = j
    · subst h
      rw [if_neg (by omega)]
      by_cases hl : o < cs.length
      · rw [if_pos (by omega), List.getElem?_set_self hl]; simp
      · rw [if_neg (by omega), List.getElem?_eq_none (by simp; omega), List.getElem?_eq_none (by omega)]
    · rw [List.getElem?_set_ne h]
      by_cases h2 : o + 1 ≤ j ∧ j < o + 1 + vs.length ∧ j < cs.length
      · rw [if_pos h2, if_pos (by omega), show j - o = (j - (o + 1)) + 1 by omega]; rfl
      · rw [if_neg h2, if_neg (by omega)]
theorem setL_len : ∀ (vs : List Value) (cs : List Value) (o : Nat), (setL cs o vs).length = cs.length
  | [], cs, o => rfl
  | v :: vs, cs, o => by rw [setL, setL_len vs]; simp
theorem flat_set {α : Type} (f : α → List Value) (s : Nat) (hf : ∀ x, (f x).length = s) (l : List α) (i : Nat) (x : α) (hi : i < l.length) : setL (l.flatMap f) (i * s) (f x) = (l.set i x).flatMap f := by
  have hL := flat_len f s hf
  apply List.ext_getElem?
  intro j
  rw [setL_at, hf, hL]
  by_cases hs : s = 0
  · subst hs
    rw [if_neg (by omega), List.getElem?_eq_none (by rw [hL]; omega), List.getElem?_eq_none (by rw [hL]; omega)]
  by_cases hj : j < l.length * s
  · have hd : j / s < l.length := Nat.div_lt_of_lt_mul (by rw [Nat.mul_comm]; exact hj)
    have hm : j % s < s := Nat.mod_lt _ (by omega)
    have e : j = j / s * s + j % s := by rw [Nat.mul_comm]; exact (Nat.div_add_mod j s).symm
    have r1 := flat_at f s hf (l.set i x) (j / s) (j % s) (by simpa using hd) hm
    have r2 := flat_at f s hf l (j / s) (j % s) hd hm
    rw [← e] at r1 r2
    rw [r1]
    by_cases hi2 : j / s = i
    · have e2 : (l.set i x)[j / s]'(by simpa using hd) = x := by simp [hi2]
      rw [e2]
      have e3 : j - i * s = j % s := by rw [← hi2]; omega
      rw [if_pos ⟨by rw [← hi2]; omega, by rw [← hi2]; omega, hj⟩, e3]
    · have e2 : (l.set i x)[j / s]'(by simpa using hd) = l[j / s] := by rw [List.getElem_set_ne (by omega)]
      rw [e2, ← r2, if_neg]
      rintro ⟨h1, h2, h3⟩
      have h4 : i ≤ j / s := by rw [Nat.le_div_iff_mul_le (by omega)]; exact h1
      have h5 : j / s < i + 1 := by rw [Nat.div_lt_iff_lt_mul (by omega), Nat.add_mul]; omega
      omega
  · rw [if_neg (by omega), List.getElem?_eq_none (by rw [hL]; omega), List.getElem?_eq_none (by rw [hL]; simp; omega)]
/-- Cells of a row, read. -/
theorem CellsAt.rec {α : Type} {f : α → List Value} {s : Nat} (hf : ∀ x, (f x).length = s) {w : World} {a : Option Addr} {l : List α} (h : CellsAt w a (l.flatMap f)) (i : Nat) (hi : i < l.length) (hs : 0 < s) :
    ∃ b off, a = some ⟨b, off, none⟩ ∧ ∀ k v, (f l[i])[k]? = some v → w.cell? ⟨b, off + i * s + k, none⟩ = some v := by
  have h0 := flat_at f s hf l i 0 hi hs
  obtain ⟨v0, hv0⟩ : ∃ v, (f l[i])[0]? = some v := by
    have hl0 : 0 < (f l[i]).length := by rw [hf]; exact hs
    exact ⟨_, List.getElem?_eq_getElem hl0⟩
  rw [hv0] at h0
  obtain ⟨b, off, rfl, e1⟩ := h _ _ h0
  refine ⟨b, off, rfl, fun k v hk => ?_⟩
  have hks : k < s := by have := (List.getElem?_eq_some_iff.1 hk).1; rw [hf] at this; exact this
  have h1 := flat_at f s hf l i k hi hks
  rw [hk] at h1
  obtain ⟨b2, o2, e, e2⟩ := h _ _ h1
  cases e
  rw [Nat.add_assoc]; exact e2
theorem chg_setC {w w' : World} (h : Below w.heap.size w w') {b k : Nat} (v : Value) : Chg [b] w (w'.setCell ⟨b, k, none⟩ v) := (Chg.of_below h).setCell v (.inl (by simp))
/-- append at a step of a region. -/
theorem wp_append_rowG {P : Program} {w : World} {o : Oper} {ac : Act} {K : Act → World → Prop} {Q : Exit → Act → World → Prop} {s by_ : Nat} (sl x : Operand) (t : TypeId)
    (ho : o.op = .call { callee := .builtin .append, args := #[sl, x], argTypes := #[t, t] }) (e : TypeId) (i : TypeInfo) (z : Value) (ht : P.underlying t = some (.slice e)) (hi : P.info? e = some i) (hz : i.zero = some z) (hsize : i.size = s) (hby : i.bytes = by_) (hzs : z.cells.size = s) (hs0 : 0 < s) (hb0 : by_ ≤ 1000)
    {a b : Option Addr} {cap c n m : Nat} {cs ds : List Value} (hs : ac.eval sl = .slice a n cap) (hx : ac.eval x = .slice b m c) (ha : RowG s w a cap n cs) (hb : CellsAt w b ds) (hd : ds.length = m * s) (hone : ∀ u ∈ ds, u.oneCell' = true) (h47 : n + m ≤ 1000000000)
    (h : ∀ a' cap' w', RowG s w' a' cap' (n + m) (cs ++ ds) → Chg (blk a) w w' → (∀ x ∈ blk a', x ∈ blk a ∨ w.heap.size ≤ x) → K (ac.put o.dst (.slice a' (n + m) cap')) w') : Oper.wp P o ac w K Q := by
  obtain ⟨a', cap', w', hr, h2, h3, h4⟩ := append_rowG (P := P) (w := w) t o.type e i z ht hi hz hsize hby hzs hs0 hb0 ha (c := c) hb hd hone h47
  unfold Oper.wp execOp
  simp only [ho, resolve, invoke, builtin, Sem.run_bind, Sem.run_pure, Result.andThen_ok, List.map_toArray, List.map_cons, List.map_nil, hs, hx, hr]
  exact h a' cap' w' h2 h3 h4
end Go.Proofs.YtjidcagklakjaaaGreat
/-
  Channels in memory: rows of those that wait; the eldest of a row.
-/
open Go Go.RowKit
set_option linter.unusedVariables false
namespace Go.Proofs.YtjidcagklakjaaaGreat
/-- One that waits: who, with which case, with which number. -/
abbrev Wt := Int × Int × Int
def wv (x : Wt) : Value := .agg #[.int .i64 x.1, .int .i64 x.2.1, .int .i64 x.2.2]
def wtc (l : List Wt) : List Value := l.flatMap fun x => [.int .i64 x.1, .int .i64 x.2.1, .int .i64 x.2.2]
theorem wtc_len (l : List Wt) : (wtc l).length = l.length * 3 := by
  unfold wtc; induction l with
  | nil => rfl
  | cons x l ih => simp only [List.flatMap_cons, List.length_append, ih, List.length_cons, List.length_nil]; omega
theorem wtc_app (l m : List Wt) : wtc (l ++ m) = wtc l ++ wtc m := by unfold wtc; rw [List.flatMap_append]
theorem wtc_cons (x : Wt) (l : List Wt) : wtc (x :: l) = .int .i64 x.1 :: .int .i64 x.2.1 :: .int .i64 x.2.2 :: wtc l := rfl
theorem wtc_at : ∀ (l : List Wt) (i : Nat) (h : i < l.length), (wtc l)[i * 3]? = some (.int .i64 l[i].1) ∧ (wtc l)[i * 3 + 1]? = some (.int .i64 l[i].2.1) ∧ (wtc l)[i * 3 + 2]? = some (.int .i64 l[i].2.2)
  | x :: l, 0, _ => ⟨rfl, rfl, rfl⟩
  | x :: l, i + 1, h => by
    have := wtc_at l i (by simpa using h)
    rw [wtc_cons, show (i + 1) * 3 = i * 3 + 1 + 1 + 1 by omega]
    exact this
theorem wtc_drop (l : List Wt) (n : Nat) : wtc (l.drop n) = (wtc l).drop (n * 3) := by
  induction l generalizing n with
  | nil => simp [wtc]
  | cons x l ih =>
    cases n with
    | zero => simp
    | succ n =>
      rw [List.drop_succ_cons, wtc_cons, show (n + 1) * 3 = n * 3 + 1 + 1 + 1 by omega]
      simp only [List.drop_succ_cons]
      exact ih n
theorem wtc_take (l : List Wt) (n : Nat) : wtc (l.take n) = (wtc l).take (n * 3) := by
  induction l generalizing n with
  | nil => simp [wtc]
  | cons x l ih =>
    cases n with
    | zero => simp [wtc]
    | succ n =>
      rw [List.take_succ_cons, wtc_cons, wtc_cons, show (n + 1) * 3 = n * 3 + 1 + 1 + 1 by omega]
      simp only [List.take_succ_cons]
      rw [ih]
theorem wtc_one (l : List Wt) : ∀ v ∈ wtc l, v.oneCell' = true := fun v hv => by
  unfold wtc at hv
  rw [List.mem_flatMap] at hv
  obtain ⟨x, _, hx⟩ := hv
  simp at hx
  rcases hx with rfl | rfl | rfl <;> rfl
/-- Those that wait, read. -/
theorem CellsAt.wt {w : World} {a : Option Addr} {l : List Wt} (h : CellsAt w a (wtc l)) (i : Nat) (hi : i < l.length) : ∃ b off, a = some ⟨b, off, none⟩ ∧ w.cell? ⟨b, off + i * 3, none⟩ = some (.int .i64 l[i].1) ∧ w.cell? ⟨b, off + i * 3 + 1, none⟩ = some (.int .i64 l[i].2.1) ∧ w.cell? ⟨b, off + i * 3 + 2, none⟩ = some (.int .i64 l[i].2.2) := by
  obtain ⟨h1, h2, h3⟩ := wtc_at l i hi
  obtain ⟨b, off, rfl, e1⟩ := h _ _ h1
  obtain ⟨b2, o2, k2, e2⟩ := h _ _ h2
  obtain ⟨b3, o3, k3, e3⟩ := h _ _ h3
  cases k2
  cases k3
  exact ⟨b, off, rfl, e1, by rw [Nat.add_assoc]; exact e2, by rw [Nat.add_assoc]; exact e3⟩
theorem info_wt : (Tryz.prog.info? 183).map (fun i => (i.zero, i.size, i.bytes)) = some (some (.agg #[.int .i64 0, .int .i64 0, .int .i64 0]), 3, 24) := by kernel_rfl
theorem info_i6 : (Tryz.prog.info? 2).map (fun i => (i.zero, i.size, i.bytes)) = some (some (.int .i64 0), 1, 8) := by kernel_rfl
theorem size_wt : ∀ w, (sizeOf (Tryz.prog.elem 86)).run Tryz.prog w = .ok 3 w := by
  obtain ⟨i0, hi, hz0, hz1, hz2⟩ := info_parts info_wt
  intro w
  have e : Tryz.prog.elem 86 = 183 := by kernel_rfl
  rw [e]; simp [sizeOf, typeInfo, hi, hz1]
theorem under_wt : Tryz.prog.underlying 86 = some (.slice (Tryz.prog.elem 86)) := by
  have e : Tryz.prog.elem 86 = 183 := by kernel_rfl
  rw [e]; exact Tryz.underlying86
theorem size_i6 : ∀ w, (sizeOf (Tryz.prog.elem 44)).run Tryz.prog w = .ok 1 w := by
  obtain ⟨i0, hi, hz0, hz1, hz2⟩ := info_parts info_i6
  intro w
  have e : Tryz.prog.elem 44 = 2 := by kernel_rfl
  rw [e]; simp [sizeOf, typeInfo, hi, hz1]
theorem under_i6 : Tryz.prog.underlying 44 = some (.slice (Tryz.prog.elem 44)) := by
  have e : Tryz.prog.elem 44 = 2 := by kernel_rfl
  rw [e]; exact Tryz.underlying44
def zw : Wt := (0, 0, 0)
set_option maxRecDepth 100000 in
set_option maxHeartbeats 1000000 in
/-- The eldest of those that wait. -/
theorem eldw_none {w0 w : World} {R : List Asr} {p k c : Nat} {cs : List Value} {a : Option Addr} (h : Own w0 w (CelA p cs :: R)) (hk : cs[k]? = some (.slice a 0 c)) :
    Calls Tryz.prog 196 #[.pointer (some ⟨p, k, none⟩)] w fun r w' => r = .returned (.tuple #[wv zw, .bool false]) ∧ Own w0 w' (CelA p cs :: R) ∧ Below w.heap.size w w' := by
  obtain ⟨g0, f0⟩ := h.cel 0 rfl k _ hk
  have hs : ∀ w', Below w.heap.size w w' → Own w0 w' (CelA p cs :: R) ∧ Below w.heap.size w w' := fun w' hb => ⟨h.step hb, hb⟩
  have HS := Lib.hid hs
  have hpl := World.block_lt_of_cell? w _ g0
  clear h hs hk
  go_enter Tryz.func196, Tryz.ntmps196
  go_wp2
  exact bodyPost_ret (v := .tuple #[wv zw, .bool false]) (by simp [results, Tryz.results196, go_sem, wv, zw]) rfl ⟨rfl, HS.out _ (by repeat (first | exact Below.refl _ _ | refine Below.setCell ?_ (by simp) _ | refine Below.alloc ?_ (by simp) _))⟩
set_option maxRecDepth 100000 in
set_option maxHeartbeats 1000000 in
theorem eldw_some {w0 w : World} {R : List Asr} {p k c n : Nat} {cs : List Value} {a : Option Addr} {x : Wt} {t : List Wt} (h : Own w0 w (CelA p cs :: RowGA 3 a c n (wtc (x :: t)) :: R)) (hk : cs[k]? = some (.slice a n c)) (hn : n = (x :: t).length) (hnl : n ≤ 1000000) :
    Calls Tryz.prog 196 #[.pointer (some ⟨p, k, none⟩)] w fun r w' => r = .returned (.tuple #[wv x, .bool true]) ∧ ∃ a', Own w0 w' (CelA p (cs.set k (.slice a' t.length (c - 1))) :: RowGA 3 a' (c - 1) t.length (wtc t) :: R) := by
  obtain ⟨g0, f0⟩ := h.cel 0 rfl k _ hk
  have hrow := h.rowG 1 rfl
  obtain ⟨b, off, rfl, e1, e2, e3⟩ := hrow.cells.wt 0 (by simp)
  simp only [List.getElem_cons_zero, Nat.zero_mul, Nat.add_zero] at e1 e2 e3
  obtain ⟨a', hsl, hrow', hbl⟩ := slice_fromG under_wt size_wt hrow 1 (by rw [hn]; simp)
  have hsl2 : ∀ w, (Instr.slice 86 (.slice (some ⟨b, off, none⟩) n c) (some (.int .i64 1)) none none).run Tryz.prog w = .ok (.slice a' (n - 1) (c - 1)) w := hsl
  rw [Nat.one_mul, wtc_cons] at hrow'
  simp only [List.drop_succ_cons, List.drop_zero] at hrow'
  have hn1 : n - 1 = t.length := by rw [hn]; simp
  rw [hn1] at hsl2 hrow'
  have hn0 : 0 < n := by rw [hn]; simp
  have hpl := World.block_lt_of_cell? w _ g0
  have hbp : b < w.heap.size := World.block_lt_of_cell? w _ e1
  have hne : ∀ x ∈ blk (some ⟨b, off, none⟩), x ∉ [p] := fun x hx hc => by
    obtain ⟨_, F, ⟨F1, F2, rfl, ⟨rfl, _⟩, h4, F3, F4, rfl, ⟨rfl, _⟩, _, _⟩, _⟩ := h
    simp at hc; subst hc
    exact h4 x (by simp) (by simp [hx])
  have hs : ∃ a'', Own w0 (w.setCell ⟨p, k, none⟩ (.slice a' t.length (c - 1))) (CelA p (cs.set k (.slice a'' t.length (c - 1))) :: RowGA 3 a'' (c - 1) t.length (wtc t) :: R) := by
    have h2 := h.setAt 0 rfl k (.slice a' t.length (c - 1))
    have h3 := Own.rowTurn (h2.pick 1 rfl) (hrow'.chg (F := [p]) ((Chg.refl _ _).setCell _ (.inl (by simp))) (fun x hx => hne x (by rw [← hbl]; exact hx))) (Chg.refl _ _) (fun x hx => .inl (by rw [hbl] at hx; exact hx))
    exact ⟨a', h3.pick 1 rfl⟩
  have hs := fun o1 o2 => hs.imp fun a'' h => h.step (below_alloc2 _ o1 o2)
  have HS := Lib.hid hs
  clear h hs hrow hrow' hsl hne hbl hn hn1 hk
  go_enter Tryz.func196, Tryz.ntmps196
  go_wp2
  exact bodyPost_ret (v := .tuple #[wv x, .bool true]) (by simp [results, Tryz.results196, go_sem, wv]) rfl ⟨rfl, HS.out _ _⟩
set_option maxRecDepth 100000 in
set_option maxHeartbeats 1000000 in
/-- The eldest number. -/
theorem eldi_none {w0 w : World} {R : List Asr} {p k c : Nat} {cs : List Value} {a : Option Addr} (h : Own w0 w (CelA p cs :: R)) (hk : cs[k]? = some (.slice a 0 c)) :
    Calls Tryz.prog 197 #[.pointer (some ⟨p, k, none⟩)] w fun r w' => r = .returned (.tuple #[.int .i64 0, .bool false]) ∧ w = w' := by
  obtain ⟨g0, f0⟩ := h.cel 0 rfl k _ hk
  clear h hk
  go_enter Tryz.func197, Tryz.ntmps197
  go_wp2
  go_ret2
  exact ⟨rfl, rfl⟩
set_option maxRecDepth 100000 in
set_option maxHeartbeats 1000000 in
theorem eldi_some {w0 w : World} {R : List Asr} {p k c n : Nat} {cs : List Value} {a : Option Addr} {x : Int} {t : List Int} (h : Own w0 w (CelA p cs :: RowGA 1 a c n (intc (x :: t)) :: R)) (hk : cs[k]? = some (.slice a n c)) (hn : n = (x :: t).length) (hnl : n ≤ 1000000) :
    Calls Tryz.prog 197 #[.pointer (some ⟨p, k, none⟩)] w fun r w' => r = .returned (.tuple #[.int .i64 x, .bool true]) ∧ ∃ a', Own w0 w' (CelA p (cs.set k (.slice a' t.length (c - 1))) :: RowGA 1 a' (c - 1) t.length (intc t) :: R) := by
  obtain ⟨g0, f0⟩ := h.cel 0 rfl k _ hk
  have hrow := h.rowG 1 rfl
  obtain ⟨b, off, rfl, e1⟩ := hrow.cells.int 0 (by simp)
  simp only [List.getElem_cons_zero, Nat.add_zero] at e1
  obtain ⟨a', hsl, hrow', hbl⟩ := slice_fromG under_i6 size_i6 hrow 1 (by rw [hn]; simp)
  have hsl2 : ∀ w, (Instr.slice 44 (.slice (some ⟨b, off, none⟩) n c) (some (.int .i64 1)) none none).run Tryz.prog w = .ok (.slice a' (n - 1) (c - 1)) w := hsl
  have hcd : (intc (x :: t)).drop 1 = intc t := rfl
  rw [Nat.one_mul, hcd] at hrow'
  have hn1 : n - 1 = t.length := by rw [hn]; simp
  rw [hn1] at hsl2 hrow'
  have hn0 : 0 < n := by rw [hn]; simp
  have hpl := World.block_lt_of_cell? w _ g0
  have hbp : b < w.heap.size := World.block_lt_of_cell? w _ e1
  have hne : ∀ x ∈ blk (some ⟨b, off, none⟩), x ∉ [p] := fun x hx hc => by
    obtain ⟨_, F, ⟨F1, F2, rfl, ⟨rfl, _⟩, h4, F3, F4, rfl, ⟨rfl, _⟩, _, _⟩, _⟩ := h
    simp at hc; subst hc
    exact h4 x (by simp) (by simp [hx])
  have hs : ∃ a'', Own w0 (w.setCell ⟨p, k, none⟩ (.slice a' t.length (c - 1))) (CelA p (cs.set k (.slice a'' t.length (c - 1))) :: RowGA 1 a'' (c - 1) t.length (intc t) :: R) := by
    have h2 := h.setAt 0 rfl k (.slice a' t.length (c - 1))
    have h3 := Own.rowTurn (h2.pick 1 rfl) (hrow'.chg (F := [p]) ((Chg.refl _ _).setCell _ (.inl (by simp))) (fun x hx => hne x (by rw [← hbl]; exact hx))) (Chg.refl _ _) (fun x hx => .inl (by rw [hbl] at hx; exact hx))
    exact ⟨a', h3.pick 1 rfl⟩
  have HS := Lib.hid hs
  clear h hs hrow hrow' hsl hne hbl hn hn1 hk hcd
  go_enter Tryz.func197, Tryz.ntmps197
  go_wp2
  go_ret2
  exact ⟨rfl, HS.out⟩
end Go.Proofs.YtjidcagklakjaaaGreat
/-
  Channels in memory; the walks of New, Send.
-/
open Go Go.RowKit
set_option linter.unusedVariables false
namespace Go.Proofs.YtjidcagklakjaaaGreat
/-- What is in a channel, who waits to send, to receive; is it closed. -/
structure Ch where
  buf : List Int
  S : List Wt
  R : List Wt
  cl : Bool
  deriving DecidableEq
def ccells (N : Nat) (C : Ch) (ba : Option Addr) (bc : Nat) (sa : Option Addr) (sc : Nat) (ra : Option Addr) (rc : Nat) : List Value :=
  [.int .i64 (N : Int), .slice ba C.buf.length bc, .slice sa C.S.length sc, .slice ra C.R.length rc, .bool C.cl]
def cparts (p N : Nat) (C : Ch) (ba : Option Addr) (bc : Nat) (sa : Option Addr) (sc : Nat) (ra : Option Addr) (rc : Nat) : List Asr :=
  [CelA p (ccells N C ba bc sa sc ra rc), RowGA 1 ba bc C.buf.length (intc C.buf), RowGA 3 sa sc C.S.length (wtc C.S), RowGA 3 ra rc C.R.length (wtc C.R)]
def ChanA (p N : Nat) (C : Ch) : Asr where
  at_ w F := ∃ ba bc sa sc ra rc, Sep w (cparts p N C ba bc sa sc ra rc) F
  lt := by rintro w F ⟨_, _, _, _, _, _, h⟩; exact h.lt
  chg := by
    rintro w w' F G ⟨ba, bc, sa, sc, ra, rc, h⟩ c hd
    exact ⟨ba, bc, sa, sc, ra, rc, h.chg c hd⟩
theorem Own.chan {w0 w : World} {p N : Nat} {C : Ch} {R : List Asr} (h : Own w0 w (ChanA p N C :: R)) : ∃ ba bc sa sc ra rc, Own w0 w (CelA p (ccells N C ba bc sa sc ra rc) :: RowGA 1 ba bc C.buf.length (intc C.buf) :: RowGA 3 sa sc C.S.length (wtc C.S) :: RowGA 3 ra rc C.R.length (wtc C.R) :: R) := by
  obtain ⟨As, ⟨ba, bc, sa, sc, ra, rc, rfl⟩, h1⟩ := Own.unfold h (P := fun As => ∃ ba bc sa sc ra rc, As = cparts p N C ba bc sa sc ra rc) (fun F ⟨ba, bc, sa, sc, ra, rc, h⟩ => ⟨_, ⟨ba, bc, sa, sc, ra, rc, rfl⟩, h⟩)
  exact ⟨ba, bc, sa, sc, ra, rc, h1⟩
theorem Own.chanBack {w0 w : World} {p N : Nat} {C : Ch} {R : List Asr} {ba sa ra : Option Addr} {bc sc rc : Nat} (h : Own w0 w (CelA p (ccells N C ba bc sa sc ra rc) :: RowGA 1 ba bc C.buf.length (intc C.buf) :: RowGA 3 sa sc C.S.length (wtc C.S) :: RowGA 3 ra rc C.R.length (wtc C.R) :: R)) : Own w0 w (ChanA p N C :: R) :=
  Own.fold (As := cparts p N C ba bc sa sc ra rc) h (fun F hF => ⟨ba, bc, sa, sc, ra, rc, hF⟩)
/-- The room of New. -/
def roomC (z : Int) : Nat := (min (max z 0) 16).toNat
theorem roomC_le (z : Int) : roomC z ≤ 16 := by unfold roomC; omega
set_option maxRecDepth 100000 in
set_option maxHeartbeats 1000000 in
theorem cnew_any {w0 w : World} {As : List Asr} (h : Own w0 w As) (z : Int) :
    Calls Tryz.prog 37 #[.int .i64 z] w fun r w' => ∃ p, r = .returned (.pointer (some ⟨p, 0, none⟩)) ∧ Own w0 w' (ChanA p (roomC z) ⟨[], [], [], false⟩ :: As) ∧ Below w.heap.size w w' := by
  obtain ⟨N, hN⟩ : ∃ N, N = roomC z := ⟨_, rfl⟩
  have hm : min (max z 0) 16 = (N : Int) := by rw [hN]; unfold roomC; omega
  have hV : (N : Int) = 0 ∧ z < 0 ∨ (N : Int) = z ∧ 0 ≤ z ∧ z ≤ 16 ∨ (N : Int) = 16 ∧ 16 < z := by omega
  rw [← hN]
  have hf : Own w0 (w.alloc (.cells #[.int .i64 (N : Int), .slice none 0 0, .slice none 0 0, .slice none 0 0, .bool false] 146)) (ChanA w.heap.size N ⟨[], [], [], false⟩ :: As) ∧ Below w.heap.size w (w.alloc (.cells #[.int .i64 (N : Int), .slice none 0 0, .slice none 0 0, .slice none 0 0, .bool false] 146)) := by
    have h1 := h.add (below_alloc1 w (.cells #[.int .i64 (N : Int), .slice none 0 0, .slice none 0 0, .slice none 0 0, .bool false] 146)) (A := ChanA w.heap.size N ⟨[], [], [], false⟩) (F := [w.heap.size])
      ⟨none, 0, none, 0, none, 0, [w.heap.size], [], rfl, ⟨rfl, by simp, Blk.mk w (ccells N ⟨[], [], [], false⟩ none 0 none 0 none 0) _ _ rfl⟩, by simp, [], [], rfl, ⟨rfl, RowG.nil _ _⟩, by simp, [], [], rfl, ⟨rfl, RowG.nil _ _⟩, by simp, [], [], rfl, ⟨rfl, RowG.nil _ _⟩, by simp, rfl⟩ (fun x hx => by simp at hx; omega)
    exact ⟨h1, below_alloc1 _ _⟩
  have HF := Lib.hid hf
  clear hf h hN hm
  rcases hV with ⟨hV, hz⟩ | ⟨hV, hz, hz'⟩ | ⟨hV, hz⟩
  all_goals
    rw [hV] at HF
    have HV := Lib.hid hV; clear hV
    go_enter Tryz.func37, Tryz.ntmps37
    go_wp2
    go_ret
    exact ⟨_, rfl, HF.out⟩
set_option maxRecDepth 100000 in
set_option maxHeartbeats 1000000 in
theorem chas_any {w0 w : World} {R : List Asr} {p N : Nat} {C : Ch} (h : Own w0 w (ChanA p N C :: R)) :
    Calls Tryz.prog 176 #[.pointer (some ⟨p, 0, none⟩)] w fun r w' => r = .returned (.bool (decide (C.buf.length < N))) ∧ ∃ m, w' = w.drewN m := by
  obtain ⟨ba, bc, sa, sc, ra, rc, h⟩ := h.chan
  obtain ⟨g0, -⟩ := h.cel 0 rfl 0 _ rfl
  obtain ⟨g1, -⟩ := h.cel 0 rfl 1 _ rfl
  generalize C.buf.length = n at *
  clear h
  go_enter Tryz.func176, Tryz.ntmps176
  go_wp2_with fail
  go_quiet (fail)
  go_wp2
  go_ret
  exact ⟨ret_bool (by simp), _, rfl⟩
def mSend (N : Nat) (C : Ch) (v : Int) : Ch × Wt × Bool × Int :=
  if C.cl then (C, zw, false, 10) else match C.R with
    | x :: t => (⟨C.buf, C.S, t, C.cl⟩, (x.1, x.2.1, v), true, 0)
    | [] => if C.buf.length < N then (⟨C.buf ++ [v], C.S, C.R, C.cl⟩, zw, false, 0) else (C, zw, false, 6)
theorem zw_agg : wv zw = .agg #[.int .i64 0, .int .i64 0, .int .i64 0] := rfl
theorem Own.setD {w0 w : World} {As : List Asr} {b : Nat} {cs : List Value} (h : Own w0 w (CelA b cs :: As)) : Own w0 w As := h.drop
set_option maxRecDepth 100000 in
set_option maxHeartbeats 1000000 in
theorem csend_any {w0 w : World} {R : List Asr} {p N : Nat} {C : Ch} (h : Own w0 w (ChanA p N C :: R)) (v : Int) (hb : C.buf.length ≤ 100000) (hr : C.R.length ≤ 100000) :
    Calls Tryz.prog 190 #[.pointer (some ⟨p, 0, none⟩), .int .i64 v] w fun r w' => r = .returned (.tuple #[wv (mSend N C v).2.1, .bool (mSend N C v).2.2.1, .int .i64 (mSend N C v).2.2.2]) ∧ Own w0 w' (ChanA p N (mSend N C v).1 :: R) := by
  have h0 := h
  obtain ⟨ba, bc, sa, sc, ra, rc, h⟩ := h.chan
  obtain ⟨buf, S, Rv, cl⟩ := C
  have hpl := World.block_lt_of_cell? w _ (h.cel 0 rfl 0 _ rfl).1
  obtain ⟨g4, f4⟩ := h.cel 0 rfl 4 _ rfl
  simp only [ccells] at h g4 hb hr
  cases cl with
  | true =>
    have hs : ∀ w', Below w.heap.size w w' → Own w0 w' (ChanA p N ⟨buf, S, Rv, true⟩ :: R) := fun w' hb => h0.step hb
    have HS := Lib.hid hs
    clear h h0 hs hb hr
    simp only [mSend, if_true]
    go_enter Tryz.func190, Tryz.ntmps190
    go_wp2
    exact bodyPost_ret (v := .tuple #[wv zw, .bool false, .int .i64 10]) (by simp [results, Tryz.results190, go_sem, wv, zw]) rfl ⟨rfl, HS.out _ (by repeat (first | exact Below.refl _ _ | refine Below.setCell ?_ (by simp) _ | refine Below.alloc ?_ (by simp) _))⟩
  | false =>
    have hA := h.alloc [.int .i64 0, .int .i64 0, .int .i64 0] 183 (b := w.heap.size) rfl
    clear h h0
    cases Rv with
    | cons x t =>
      have e : mSend N ⟨buf, S, x :: t, false⟩ v = (⟨buf, S, t, false⟩, (x.1, x.2.1, v), true, 0) := rfl
      rw [e]
      have hB := (hA.pick 4 rfl).pick 2 rfl
      have he := eldw_some (k := 3) (R := [CelA w.heap.size [.int .i64 0, .int .i64 0, .int .i64 0], RowGA 1 ba bc buf.length (intc buf), RowGA 3 sa sc S.length (wtc S)] ++ R) hB rfl rfl (by simp at hr ⊢; omega)
      have HE := Lib.hid he
      clear he hA hB hb hr e
      unfold wv at HE ⊢
      simp only
      go_enter Tryz.func190, Tryz.ntmps190
      go_wp2_with fail
      refine HE.out.mono ?_
      rintro r w2 ⟨rfl, a', h2⟩
      have h3 : Own w0 w2 (CelA p (ccells N ⟨buf, S, t, false⟩ ba bc sa sc a' (rc - 1)) :: RowGA 3 a' (rc - 1) t.length (wtc t) :: CelA w.heap.size [.int .i64 0, .int .i64 0, .int .i64 0] :: RowGA 1 ba bc buf.length (intc buf) :: RowGA 3 sa sc S.length (wtc S) :: R) := h2
      have hC : Own w0 w2 (CelA w.heap.size [.int .i64 0, .int .i64 0, .int .i64 0] :: ChanA p N ⟨buf, S, t, false⟩ :: R) :=
        (Own.chanBack ((((h3.pick 1 rfl).pick 4 rfl).pick 4 rfl).pick 3 rfl)).pick 1 rfl
      obtain ⟨z0, y0⟩ := hC.cel 0 rfl 0 _ rfl
      obtain ⟨z1, y1⟩ := hC.cel 0 rfl 1 _ rfl
      obtain ⟨z2, y2⟩ := hC.cel 0 rfl 2 _ rfl
      have hzl := World.block_lt_of_cell? w2 _ z0
      have HC := Lib.hid hC
      clear h2 h3 hC HE
      go_wp2
      exact bodyPost_ret (v := .tuple #[.agg #[.int .i64 x.1, .int .i64 x.2.1, .int .i64 v], .bool true, .int .i64 0]) (by simp [results, Tryz.results190, go_sem, hzl, z0, z1, z2]) rfl ⟨rfl, Own.setD (Own.step (Own.set (Own.set (Own.set HC.out 0 _) 1 _) 2 _) (below_alloc1 _ _))⟩
    | nil =>
      have e : mSend N ⟨buf, S, [], false⟩ v = if buf.length < N then (⟨buf ++ [v], S, [], false⟩, zw, false, 0) else (⟨buf, S, [], false⟩, zw, false, 6) := rfl
      rw [e]
      have he := eldw_none (k := 3) (R := [CelA w.heap.size [.int .i64 0, .int .i64 0, .int .i64 0], RowGA 1 ba bc buf.length (intc buf), RowGA 3 sa sc S.length (wtc S), RowGA 3 ra rc 0 (wtc [])] ++ R) (hA.pick 1 rfl) rfl
      have HE := Lib.hid he
      clear he hA hr e
      obtain ⟨n, hn⟩ : ∃ n, n = buf.length := ⟨_, rfl⟩
      rw [← hn] at HE hb ⊢
      have HN := Lib.hid hn
      clear hn
      unfold wv at HE ⊢
      by_cases hlt : n < N
      case' pos => rw [if_pos hlt]; have hd := Lib.hid (show decide (n < N) = true by simpa using hlt)
      case' neg => rw [if_neg hlt]; have hd := Lib.hid (show decide (n < N) = false by simpa using hlt)
      all_goals
       have HLT := Lib.hid hlt
       clear hlt
       simp only [zw] at HE ⊢
       go_enter Tryz.func190, Tryz.ntmps190
       go_wp2_with fail
       refine HE.out.mono ?_
       rintro r w2 ⟨rfl, h2, b2⟩
       have h3 : Own w0 w2 (CelA p (ccells N ⟨buf, S, [], false⟩ ba bc sa sc ra rc) :: CelA w.heap.size [.int .i64 0, .int .i64 0, .int .i64 0] :: RowGA 1 ba bc buf.length (intc buf) :: RowGA 3 sa sc S.length (wtc S) :: RowGA 3 ra rc 0 (wtc []) :: R) := by rw [HN.out] at h2; exact h2
       have h4 : Own w0 w2 (CelA w.heap.size [.int .i64 0, .int .i64 0, .int .i64 0] :: ChanA p N ⟨buf, S, [], false⟩ :: R) := (Own.chanBack (((((h3.pick 4 rfl).pick 4 rfl).pick 4 rfl).pick 3 rfl))).pick 1 rfl
       obtain ⟨z0, y0⟩ := h3.cel 1 rfl 0 _ rfl
       obtain ⟨z1, y1⟩ := h3.cel 1 rfl 1 _ rfl
       obtain ⟨z2, y2⟩ := h3.cel 1 rfl 2 _ rfl
       have hzl := World.block_lt_of_cell? w2 _ z0
       have hg := chas_any ((h4.pick 1 rfl).step (below_alloc1 w2 (.cells #[.int .i64 0, .int .i64 0, .int .i64 0] 183)))
       simp only at hg
       rw [← HN.out] at hg
       have HG := Lib.hid hg
       have H4 := Lib.hid h4
       have H3 := Lib.hid h3
       clear h2 h3 h4 hg b2 HE
       go_wp2_with fail
       refine HG.out.mono ?_
       rintro r w3 ⟨rfl, m, rfl⟩
       have hB3 : Below w2.heap.size w2 ((w2.alloc (.cells #[.int .i64 0, .int .i64 0, .int .i64 0] 183)).drewN m) := below_drewN (below_alloc1 _ _) m
       generalize (w2.alloc (.cells #[.int .i64 0, .int .i64 0, .int .i64 0] 183)).drewN m = W3 at *
       have h3 := H3.out.step hB3
       have h4 := H4.out.step hB3
       obtain ⟨p1, q1⟩ := h3.cel 0 rfl 1 _ rfl
       rw [show (Value.slice ba (Ch.buf ⟨buf, S, [], false⟩).length bc) = Value.slice ba n bc by rw [HN.out]] at p1
       obtain ⟨z0', y0'⟩ := h4.cel 0 rfl 0 _ rfl
       obtain ⟨z1', y1'⟩ := h4.cel 0 rfl 1 _ rfl
       obtain ⟨z2', y2'⟩ := h4.cel 0 rfl 2 _ rfl
       have hzl' := World.block_lt_of_cell? W3 _ z0'
       have K3 := Lib.hid h3
       have K4 := Lib.hid h4
       clear h3 h4 HG z0 y0 z1 y1 z2 y2 hzl g4 f4 H3 H4 hB3
       have hd1 := hd.out
       rw [hd1]
       clear hd hd1
      · go_wp2
        exact bodyPost_ret (v := .tuple #[.agg #[.int .i64 0, .int .i64 0, .int .i64 0], .bool false, .int .i64 6]) (by simp [results, Tryz.results190, go_sem, hzl', z0', z1', z2']) rfl ⟨rfl, Own.setD (Own.set (Own.set (Own.set K4.out 0 _) 1 _) 2 _)⟩
      · have hrow := K3.out.rowG 2 rfl
        rw [← HN.out] at hrow
        have HR := Lib.hid hrow
        obtain ⟨i0, hi0, hz0, hz1, hz2⟩ := info_parts info_i6
        have Hi := Lib.hid hi0; clear hi0
        have Hz0 := Lib.hid hz0; clear hz0
        have Hz1 := Lib.hid hz1; clear hz1
        have Hz2 := Lib.hid hz2; clear hz2
        clear hrow
        go_wp2_with (at_builtin; refine wpList_append_rowG (m := 1) (ds := intc [v]) rfl _ _ 44 rfl 2 i0 _ Tryz.underlying44 Hi.out Hz0.out Hz1.out Hz2.out rfl (by omega) (by omega) rfl rfl (HR.out.below (below_alloc1 _ _)) (CellsAt.new _ (intc [v]) _ rfl) rfl (intc_one _) (by omega) ?_)
        intro a1 c1 w4 k1 ch1 f1
        have h5 := Own.rowTurn ((K3.out.step (below_alloc1 W3 (.cells #[.int .i64 v] 2))).pick 2 rfl) k1 ch1 (fun x hx => by have := f1 x hx; simpa using this)
        obtain ⟨p1', q1'⟩ := h5.cel 1 rfl 1 _ rfl
        have h6 : Own w0 (w4.setCell ⟨p, 1, none⟩ (.slice a1 (n + 1) c1)) (RowGA 1 a1 c1 (n + 1) (intc (buf ++ [v])) :: CelA p (ccells N ⟨buf ++ [v], S, [], false⟩ a1 c1 sa sc ra rc) :: CelA w.heap.size [.int .i64 0, .int .i64 0, .int .i64 0] :: RowGA 3 sa sc S.length (wtc S) :: RowGA 3 ra rc 0 (wtc []) :: R) := by
          have h7 := h5.setAt 1 rfl 1 (.slice a1 (n + 1) c1)
          have e : n + 1 = (buf ++ [v]).length := by rw [HN.out]; simp
          rw [intc_app]
          simp only [ccells]
          rw [← e]
          exact h7
        have e : n + 1 = (buf ++ [v]).length := by rw [HN.out]; simp
        rw [e] at h6
        have hC : Own w0 (w4.setCell ⟨p, 1, none⟩ (.slice a1 (n + 1) c1)) (CelA w.heap.size [.int .i64 0, .int .i64 0, .int .i64 0] :: ChanA p N ⟨buf ++ [v], S, [], false⟩ :: R) := by
          rw [e]
          exact (Own.chanBack ((((h6.pick 4 rfl).pick 4 rfl).pick 2 rfl).pick 3 rfl)).pick 1 rfl
        obtain ⟨z0, y0⟩ := hC.cel 0 rfl 0 _ rfl
        obtain ⟨z1, y1⟩ := hC.cel 0 rfl 1 _ rfl
        obtain ⟨z2, y2⟩ := hC.cel 0 rfl 2 _ rfl
        obtain ⟨u0, v0⟩ := h5.cel 2 rfl 0 _ rfl
        obtain ⟨u1, v1⟩ := h5.cel 2 rfl 1 _ rfl
        obtain ⟨u2, v2⟩ := h5.cel 2 rfl 2 _ rfl
        have hpw : p ≠ w.heap.size := by omega
        have hpl4 := World.block_lt_of_cell? w4 _ p1'
        have hzl4 := World.block_lt_of_cell? w4 _ u0
        have HC := Lib.hid hC
        clear h5 h6 hC k1 ch1 f1 e z0' y0' z1' y1' z2' y2' hzl' p1 q1
        go_wp2
        exact bodyPost_ret (v := .tuple #[.agg #[.int .i64 0, .int .i64 0, .int .i64 0], .bool false, .int .i64 0]) (by simp [results, Tryz.results190, go_sem, hzl4, u0, u1, u2]) rfl ⟨rfl, Own.setD (Own.set (Own.set (Own.set HC.out 0 _) 1 _) 2 _)⟩
end Go.Proofs.YtjidcagklakjaaaGreat
/-
  Channels: the walks of Recv, Close.
-/
open Go Go.RowKit
set_option linter.unusedVariables false
namespace Go.Proofs.YtjidcagklakjaaaGreat
/-- What a receive came to. -/
def gotC (v : Int) (some_ : Bool) (x : Wt) (woken : Bool) : Value := .agg #[.int .i64 v, .bool some_, .int .i64 x.1, .int .i64 x.2.1, .int .i64 x.2.2, .bool woken]
theorem Own.rowTurnC {w0 w w' : World} {As : List Asr} {s : Nat} {a a' : Option Addr} {cap cap' n n' : Nat} {cs cs' : List Value} (c : Chg (blk a) w w') (hr : RowG s w' a' cap' n' cs') (hf : ∀ x ∈ blk a', x ∈ blk a ∨ w.heap.size ≤ x) (h : Own w0 w (RowGA s a cap n cs :: As)) :
    Own w0 w' (RowGA s a' cap' n' cs' :: As) := Own.rowTurn h hr c hf
def mRecvB (C : Ch) : List Int := match C.S with
  | x :: t => C.buf ++ [x.2.2]
  | [] => C.buf
def mRecv (C : Ch) : Ch × (Int × Bool × Wt × Bool) × Int := match C.S with
  | x :: t => (match C.buf ++ [x.2.2] with
    | y :: b => (⟨b, t, C.R, C.cl⟩, (y, true, x, true), 0)
    | [] => (⟨[], t, C.R, C.cl⟩, (0, false, x, true), 0))
  | [] => match C.buf with
    | y :: b => (⟨b, [], C.R, C.cl⟩, (y, true, zw, false), 0)
    | [] => (C, (0, false, zw, false), if C.cl then 0 else 5)
theorem two_allocs {w0 w : World} {As : List Asr} (h : Own w0 w As) (l m : List Value) (t u : TypeId) : Own w0 ((w.alloc (.cells l.toArray t)).alloc (.cells m.toArray u)) (CelA (w.heap.size + 1) m :: CelA w.heap.size l :: As) :=
  (h.alloc l t rfl).alloc m u (by simp)
set_option maxRecDepth 100000 in
set_option maxHeartbeats 2000000 in
theorem crecv_none {w0 w : World} {R : List Asr} {p N : Nat} {Rv : List Wt} {cl : Bool} (h : Own w0 w (ChanA p N ⟨[], [], Rv, cl⟩ :: R)) :
    Calls Tryz.prog 191 #[.pointer (some ⟨p, 0, none⟩)] w fun r w' => r = .returned (.tuple #[gotC 0 false zw false, .int .i64 (if cl then 0 else 5)]) ∧ Own w0 w' (ChanA p N ⟨[], [], Rv, cl⟩ :: R) := by
  obtain ⟨ba, bc, sa, sc, ra, rc, h1⟩ := h.chan
  have hpl := World.block_lt_of_cell? w _ (h1.cel 0 rfl 0 _ rfl).1
  have hA := two_allocs h1 [.int .i64 0, .bool false, .int .i64 0, .int .i64 0, .int .i64 0, .bool false] [.int .i64 0, .bool false, .int .i64 0, .int .i64 0, .int .i64 0, .bool false] 266 266
  have he := eldw_none (k := 2) (a := sa) (c := sc) (hA.pick 2 rfl) rfl
  have HE := Lib.hid he
  clear hA he h h1
  unfold wv at HE
  simp only [zw] at HE
  have hw : ∀ e : Int, .returned (Value.tuple #[gotC 0 false zw false, .int .i64 e]) = Ending.returned (.tuple #[.agg #[.int .i64 0, .bool false, .int .i64 0, .int .i64 0, .int .i64 0, .bool false], .int .i64 e]) := fun e => rfl
  rw [hw]
  clear hw
  go_enter Tryz.func191, Tryz.ntmps191
  go_wp2_with fail
  refine HE.out.mono ?_
  rintro r w2 ⟨rfl, h2, b2⟩
  have h3 : Own w0 w2 (CelA p (ccells N ⟨[], [], Rv, cl⟩ ba bc sa sc ra rc) :: CelA (w.heap.size + 1) [.int .i64 0, .bool false, .int .i64 0, .int .i64 0, .int .i64 0, .bool false] :: CelA w.heap.size [.int .i64 0, .bool false, .int .i64 0, .int .i64 0, .int .i64 0, .bool false] :: RowGA 1 ba bc 0 (intc []) :: RowGA 3 sa sc 0 (wtc []) :: RowGA 3 ra rc Rv.length (wtc Rv) :: R) := h2
  have h4 := (((h3.setAt 1 rfl 2 (.int .i64 0)).setAt 1 rfl 3 (.int .i64 0)).setAt 1 rfl 4 (.int .i64 0)).setAt 1 rfl 5 (.bool false)
  obtain ⟨a2, b2'⟩ := h3.cel 1 rfl 2 _ rfl
  obtain ⟨a3, b3⟩ := h3.cel 1 rfl 3 _ rfl
  obtain ⟨a4, b4⟩ := h3.cel 1 rfl 4 _ rfl
  obtain ⟨a5, b5⟩ := h3.cel 1 rfl 5 _ rfl
  have H4 := Lib.hid h4
  clear h2 h3 h4 b2 HE
  go_wp2_with fail
  refine (eldi_none (k := 1) H4.out rfl).mono ?_
  rintro r w3 ⟨rfl, rfl⟩
  generalize hW : (((w2.setCell ⟨w.heap.size + 1, 2, none⟩ (.int .i64 0)).setCell ⟨w.heap.size + 1, 3, none⟩ (.int .i64 0)).setCell ⟨w.heap.size + 1, 4, none⟩ (.int .i64 0)).setCell ⟨w.heap.size + 1, 5, none⟩ (.bool false) = W3 at *
  have h5 := H4.out
  obtain ⟨c0, d0⟩ := h5.cel 1 rfl 0 _ rfl
  obtain ⟨c1, d1⟩ := h5.cel 1 rfl 1 _ rfl
  obtain ⟨c2, d2⟩ := h5.cel 1 rfl 2 _ rfl
  obtain ⟨c3, d3⟩ := h5.cel 1 rfl 3 _ rfl
  obtain ⟨c4, d4⟩ := h5.cel 1 rfl 4 _ rfl
  obtain ⟨c5, d5⟩ := h5.cel 1 rfl 5 _ rfl
  obtain ⟨e0, f0⟩ := h5.cel 2 rfl 0 _ rfl
  obtain ⟨e1, f1⟩ := h5.cel 2 rfl 1 _ rfl
  obtain ⟨e2, f2⟩ := h5.cel 2 rfl 2 _ rfl
  obtain ⟨e3, f3⟩ := h5.cel 2 rfl 3 _ rfl
  obtain ⟨e4, f4⟩ := h5.cel 2 rfl 4 _ rfl
  obtain ⟨e5, f5⟩ := h5.cel 2 rfl 5 _ rfl
  obtain ⟨g4, k4⟩ := h5.cel 0 rfl 4 _ rfl
  have hps : p ≠ w.heap.size + 1 := by omega
  have hps2 : p ≠ w.heap.size := by omega
  have hfin : ∀ v0 v1 u0 u1 u2 u3 u4 u5, Own w0 ((((((((W3.setCell ⟨w.heap.size + 1, 0, none⟩ v0).setCell ⟨w.heap.size + 1, 1, none⟩ v1).setCell ⟨w.heap.size, 0, none⟩ u0).setCell ⟨w.heap.size, 1, none⟩ u1).setCell ⟨w.heap.size, 2, none⟩ u2).setCell ⟨w.heap.size, 3, none⟩ u3).setCell ⟨w.heap.size, 4, none⟩ u4).setCell ⟨w.heap.size, 5, none⟩ u5) (ChanA p N ⟨[], [], Rv, cl⟩ :: R) := fun v0 v1 u0 u1 u2 u3 u4 u5 => by
    have h6 := (((((((h5.setAt 1 rfl 0 v0).setAt 1 rfl 1 v1).setAt 2 rfl 0 u0).setAt 2 rfl 1 u1).setAt 2 rfl 2 u2).setAt 2 rfl 3 u3).setAt 2 rfl 4 u4).setAt 2 rfl 5 u5
    exact Own.chanBack ((h6.pick 1 rfl).drop.pick 1 rfl).drop
  have HF := Lib.hid hfin
  clear h5 hfin H4 hW a2 b2' a3 b3 a4 b4 a5 b5
  cases cl
  all_goals
    simp only [ccells] at g4
    go_wp2
  · exact bodyPost_ret (v := .tuple #[.agg #[.int .i64 0, .bool false, .int .i64 0, .int .i64 0, .int .i64 0, .bool false], .int .i64 5]) (by simp [results, Tryz.results191, go_sem, e0, e1, e2, e3, e4, e5]) rfl ⟨rfl, HF.out _ _ _ _ _ _ _ _⟩
  · exact bodyPost_ret (v := .tuple #[.agg #[.int .i64 0, .bool false, .int .i64 0, .int .i64 0, .int .i64 0, .bool false], .int .i64 0]) (by simp [results, Tryz.results191, go_sem, e0, e1, e2, e3, e4, e5]) rfl ⟨rfl, HF.out _ _ _ _ _ _ _ _⟩
set_option maxRecDepth 100000 in
set_option maxHeartbeats 2000000 in
theorem crecv_buf {w0 w : World} {R : List Asr} {p N : Nat} {Rv : List Wt} {cl : Bool} {y : Int} {b : List Int} (h : Own w0 w (ChanA p N ⟨y :: b, [], Rv, cl⟩ :: R)) (hbl : b.length ≤ 100000) :
    Calls Tryz.prog 191 #[.pointer (some ⟨p, 0, none⟩)] w fun r w' => r = .returned (.tuple #[gotC y true zw false, .int .i64 0]) ∧ Own w0 w' (ChanA p N ⟨b, [], Rv, cl⟩ :: R) := by
  obtain ⟨ba, bc, sa, sc, ra, rc, h1⟩ := h.chan
  have hpl := World.block_lt_of_cell? w _ (h1.cel 0 rfl 0 _ rfl).1
  have hA := two_allocs h1 [.int .i64 0, .bool false, .int .i64 0, .int .i64 0, .int .i64 0, .bool false] [.int .i64 0, .bool false, .int .i64 0, .int .i64 0, .int .i64 0, .bool false] 266 266
  have he := eldw_none (k := 2) (a := sa) (c := sc) (hA.pick 2 rfl) rfl
  have HE := Lib.hid he
  clear hA he h h1
  unfold wv at HE
  simp only [zw] at HE
  have hw : .returned (Value.tuple #[gotC y true zw false, .int .i64 0]) = Ending.returned (.tuple #[.agg #[.int .i64 y, .bool true, .int .i64 0, .int .i64 0, .int .i64 0, .bool false], .int .i64 0]) := rfl
  rw [hw]
  clear hw
  go_enter Tryz.func191, Tryz.ntmps191
  go_wp2_with fail
  refine HE.out.mono ?_
  rintro r w2 ⟨rfl, h2, b2⟩
  have h3 : Own w0 w2 (CelA p (ccells N ⟨y :: b, [], Rv, cl⟩ ba bc sa sc ra rc) :: CelA (w.heap.size + 1) [.int .i64 0, .bool false, .int .i64 0, .int .i64 0, .int .i64 0, .bool false] :: CelA w.heap.size [.int .i64 0, .bool false, .int .i64 0, .int .i64 0, .int .i64 0, .bool false] :: RowGA 1 ba bc (y :: b).length (intc (y :: b)) :: RowGA 3 sa sc 0 (wtc []) :: RowGA 3 ra rc Rv.length (wtc Rv) :: R) := h2
  have h4 := (((h3.setAt 1 rfl 2 (.int .i64 0)).setAt 1 rfl 3 (.int .i64 0)).setAt 1 rfl 4 (.int .i64 0)).setAt 1 rfl 5 (.bool false)
  obtain ⟨a2, b2'⟩ := h3.cel 1 rfl 2 _ rfl
  obtain ⟨a3, b3⟩ := h3.cel 1 rfl 3 _ rfl
  obtain ⟨a4, b4⟩ := h3.cel 1 rfl 4 _ rfl
  obtain ⟨a5, b5⟩ := h3.cel 1 rfl 5 _ rfl
  have H4 := Lib.hid h4
  have he := eldi_some (k := 1) (R := [CelA (w.heap.size + 1) [.int .i64 0, .bool false, .int .i64 0, .int .i64 0, .int .i64 0, .bool false], CelA w.heap.size [.int .i64 0, .bool false, .int .i64 0, .int .i64 0, .int .i64 0, .bool false], RowGA 3 sa sc 0 (wtc []), RowGA 3 ra rc Rv.length (wtc Rv)] ++ R) ((h4.pick 3 rfl).pick 1 rfl) rfl rfl (by simp; omega)
  have HE2 := Lib.hid he
  clear h2 h3 h4 b2 HE he
  go_wp2_with fail
  refine HE2.out.mono ?_
  rintro r W3 ⟨rfl, a', h5⟩
  have h5 : Own w0 W3 (CelA p (ccells N ⟨b, [], Rv, cl⟩ a' (bc - 1) sa sc ra rc) :: CelA (w.heap.size + 1) [.int .i64 0, .bool false, .int .i64 0, .int .i64 0, .int .i64 0, .bool false] :: CelA w.heap.size [.int .i64 0, .bool false, .int .i64 0, .int .i64 0, .int .i64 0, .bool false] :: RowGA 1 a' (bc - 1) b.length (intc b) :: RowGA 3 sa sc 0 (wtc []) :: RowGA 3 ra rc Rv.length (wtc Rv) :: R) := (((h5.pick 1 rfl).pick 3 rfl).pick 3 rfl).pick 3 rfl
  obtain ⟨c0, d0⟩ := h5.cel 1 rfl 0 _ rfl
  obtain ⟨c1, d1⟩ := h5.cel 1 rfl 1 _ rfl
  obtain ⟨c2, d2⟩ := h5.cel 1 rfl 2 _ rfl
  obtain ⟨c3, d3⟩ := h5.cel 1 rfl 3 _ rfl
  obtain ⟨c4, d4⟩ := h5.cel 1 rfl 4 _ rfl
  obtain ⟨c5, d5⟩ := h5.cel 1 rfl 5 _ rfl
  obtain ⟨e0, f0⟩ := h5.cel 2 rfl 0 _ rfl
  obtain ⟨e1, f1⟩ := h5.cel 2 rfl 1 _ rfl
  obtain ⟨e2, f2⟩ := h5.cel 2 rfl 2 _ rfl
  obtain ⟨e3, f3⟩ := h5.cel 2 rfl 3 _ rfl
  obtain ⟨e4, f4⟩ := h5.cel 2 rfl 4 _ rfl
  obtain ⟨e5, f5⟩ := h5.cel 2 rfl 5 _ rfl
  have hps : p ≠ w.heap.size + 1 := by omega
  have hps2 : p ≠ w.heap.size := by omega
  have hfin : ∀ v0 v1 u0 u1 u2 u3 u4 u5, Own w0 ((((((((W3.setCell ⟨w.heap.size + 1, 0, none⟩ v0).setCell ⟨w.heap.size + 1, 1, none⟩ v1).setCell ⟨w.heap.size, 0, none⟩ u0).setCell ⟨w.heap.size, 1, none⟩ u1).setCell ⟨w.heap.size, 2, none⟩ u2).setCell ⟨w.heap.size, 3, none⟩ u3).setCell ⟨w.heap.size, 4, none⟩ u4).setCell ⟨w.heap.size, 5, none⟩ u5) (ChanA p N ⟨b, [], Rv, cl⟩ :: R) := fun v0 v1 u0 u1 u2 u3 u4 u5 => by
    have h6 := (((((((h5.setAt 1 rfl 0 v0).setAt 1 rfl 1 v1).setAt 2 rfl 0 u0).setAt 2 rfl 1 u1).setAt 2 rfl 2 u2).setAt 2 rfl 3 u3).setAt 2 rfl 4 u4).setAt 2 rfl 5 u5
    exact Own.chanBack ((h6.pick 1 rfl).drop.pick 1 rfl).drop
  have HF := Lib.hid hfin
  clear h5 hfin H4 a2 b2' a3 b3 a4 b4 a5 b5
  go_wp2
  exact bodyPost_ret (v := .tuple #[.agg #[.int .i64 y, .bool true, .int .i64 0, .int .i64 0, .int .i64 0, .bool false], .int .i64 0]) (by simp [results, Tryz.results191, go_sem, e0, e1, e2, e3, e4, e5]) rfl ⟨rfl, HF.out _ _ _ _ _ _ _ _⟩
set_option maxRecDepth 100000 in
set_option maxHeartbeats 2000000 in
theorem crecv_send {w0 w : World} {R : List Asr} {p N : Nat} {Rv t : List Wt} {cl : Bool} {x : Wt} {y : Int} {buf b : List Int} (h : Own w0 w (ChanA p N ⟨buf, x :: t, Rv, cl⟩ :: R)) (hyb : buf ++ [x.2.2] = y :: b) (hbl : buf.length ≤ 100000) (htl : t.length ≤ 100000) :
    Calls Tryz.prog 191 #[.pointer (some ⟨p, 0, none⟩)] w fun r w' => r = .returned (.tuple #[gotC y true x true, .int .i64 0]) ∧ Own w0 w' (ChanA p N ⟨b, t, Rv, cl⟩ :: R) := by
  obtain ⟨ba, bc, sa, sc, ra, rc, h1⟩ := h.chan
  have hpl := World.block_lt_of_cell? w _ (h1.cel 0 rfl 0 _ rfl).1
  have hA := two_allocs h1 [.int .i64 0, .bool false, .int .i64 0, .int .i64 0, .int .i64 0, .bool false] [.int .i64 0, .bool false, .int .i64 0, .int .i64 0, .int .i64 0, .bool false] 266 266
  have he := eldw_some (k := 2) (R := [CelA (w.heap.size + 1) [.int .i64 0, .bool false, .int .i64 0, .int .i64 0, .int .i64 0, .bool false], CelA w.heap.size [.int .i64 0, .bool false, .int .i64 0, .int .i64 0, .int .i64 0, .bool false], RowGA 1 ba bc buf.length (intc buf), RowGA 3 ra rc Rv.length (wtc Rv)] ++ R) ((hA.pick 4 rfl).pick 3 rfl) rfl rfl (by simp; omega)
  have HE := Lib.hid he
  have HYB := Lib.hid hyb
  obtain ⟨n, hn⟩ : ∃ n, n = buf.length := ⟨_, rfl⟩
  rw [← hn] at hbl
  have HN := Lib.hid hn
  clear hA he h h1 hyb hn
  unfold wv at HE
  have hw : .returned (Value.tuple #[gotC y true x true, .int .i64 0]) = Ending.returned (.tuple #[.agg #[.int .i64 y, .bool true, .int .i64 x.1, .int .i64 x.2.1, .int .i64 x.2.2, .bool true], .int .i64 0]) := rfl
  rw [hw]
  clear hw
  obtain ⟨x1, x2, x3⟩ := x
  simp only at HE HYB ⊢
  go_enter Tryz.func191, Tryz.ntmps191
  go_wp2_with fail
  refine HE.out.mono ?_
  rintro r w2 ⟨rfl, sa', h2⟩
  have h3 : Own w0 w2 (CelA p (ccells N ⟨buf, t, Rv, cl⟩ ba bc sa' (sc - 1) ra rc) :: CelA (w.heap.size + 1) [.int .i64 0, .bool false, .int .i64 0, .int .i64 0, .int .i64 0, .bool false] :: CelA w.heap.size [.int .i64 0, .bool false, .int .i64 0, .int .i64 0, .int .i64 0, .bool false] :: RowGA 1 ba bc buf.length (intc buf) :: RowGA 3 sa' (sc - 1) t.length (wtc t) :: RowGA 3 ra rc Rv.length (wtc Rv) :: R) := ((((h2.pick 1 rfl).pick 4 rfl).pick 4 rfl).pick 4 rfl).pick 4 rfl
  have h4 := (((h3.setAt 1 rfl 2 (.int .i64 x1)).setAt 1 rfl 3 (.int .i64 x2)).setAt 1 rfl 4 (.int .i64 x3)).setAt 1 rfl 5 (.bool true)
  obtain ⟨a2, b2'⟩ := h3.cel 1 rfl 2 _ rfl
  obtain ⟨a3, b3⟩ := h3.cel 1 rfl 3 _ rfl
  obtain ⟨a4, b4⟩ := h3.cel 1 rfl 4 _ rfl
  obtain ⟨a5, b5⟩ := h3.cel 1 rfl 5 _ rfl
  have H4 := Lib.hid h4
  clear h2 h3 h4 HE
  go_upto_region 4 with fail
  generalize hW : (((w2.setCell ⟨w.heap.size + 1, 2, none⟩ (.int .i64 x1)).setCell ⟨w.heap.size + 1, 3, none⟩ (.int .i64 x2)).setCell ⟨w.heap.size + 1, 4, none⟩ (.int .i64 x3)).setCell ⟨w.heap.size + 1, 5, none⟩ (.bool true) = W3 at *
  clear hW a2 b2' a3 b3 a4 b4 a5 b5
  have h5 : Own w0 W3 (CelA p (ccells N ⟨buf, t, Rv, cl⟩ ba bc sa' (sc - 1) ra rc) :: CelA (w.heap.size + 1) [.int .i64 0, .bool false, .int .i64 x1, .int .i64 x2, .int .i64 x3, .bool true] :: CelA w.heap.size [.int .i64 0, .bool false, .int .i64 0, .int .i64 0, .int .i64 0, .bool false] :: RowGA 1 ba bc buf.length (intc buf) :: RowGA 3 sa' (sc - 1) t.length (wtc t) :: RowGA 3 ra rc Rv.length (wtc Rv) :: R) := H4.out
  obtain ⟨p1, q1⟩ := h5.cel 0 rfl 1 _ rfl
  have hbn : (Value.slice ba (Ch.buf ⟨buf, t, Rv, cl⟩).length bc) = .slice ba n bc := by rw [HN.out]
  rw [hbn] at p1
  obtain ⟨s14, r14⟩ := h5.cel 1 rfl 4 _ rfl
  have p1a := fun o => cell_below p1 (below_alloc1 W3 o)
  have s14a := fun o => cell_below s14 (below_alloc1 W3 o)
  have hpl3 := World.block_lt_of_cell? W3 _ p1
  have hrow := h5.rowG 3 rfl
  rw [← HN.out] at hrow
  have HR := Lib.hid hrow
  have hpb : p ∉ blk ba := fun hx => by
    obtain ⟨_, F, ⟨F1, F2, rfl, ⟨rfl, _⟩, q2, F3, F4, rfl, ⟨rfl, _⟩, _, F5, F6, rfl, ⟨rfl, _⟩, _, F7, F8, rfl, ⟨rfl, _⟩, _⟩, _⟩ := h5
    exact q2 p (by simp) (by simp [hx])
  have HPB := Lib.hid hpb
  have H5 := Lib.hid h5
  obtain ⟨i0, hi0, hz0, hz1, hz2⟩ := info_parts info_i6
  have Hi := Lib.hid hi0; clear hi0
  have Hz0 := Lib.hid hz0; clear hz0
  have Hz1 := Lib.hid hz1; clear hz1
  have Hz2 := Lib.hid hz2; clear hz2
  clear hrow h5 hbn hpb H4
  go_wp2_with fail
  go_region_law (first
    | (refine step_append_rowG (m := 1) (ds := intc [x3]) (by rfl) _ _ 44 (by rfl) 2 i0 _ Tryz.underlying44 Hi.out Hz0.out Hz1.out Hz2.out rfl (by omega) (by omega) (by rfl) (by rfl) (HR.out.below (by repeat (first | exact Below.refl _ _ | refine Below.drew ?_ | refine Below.alloc ?_ (by simp) _))) (by first | exact CellsAt.new _ (intc [x3]) _ rfl | exact (CellsAt.new _ (intc [x3]) _ rfl).below (below_drew1 _)) rfl (intc_one _) (by omega) ?_; intro a1 c1 w4 k1 ch1 f1
       have h6 := Own.rowTurnC ch1 k1 (fun x hx => by have := f1 x hx; simpa using this) ((H5.out.step (by repeat (first | exact Below.refl _ _ | refine Below.drew ?_ | refine Below.alloc ?_ (by simp) _))).pick 3 rfl)
       obtain ⟨p1', q1'⟩ := h6.cel 1 rfl 1 _ rfl))
  all_goals
    have h7 : Own w0 (w4.setCell ⟨p, 1, none⟩ (.slice a1 (n + 1) c1)) (CelA p (ccells N ⟨buf ++ [x3], t, Rv, cl⟩ a1 c1 sa' (sc - 1) ra rc) :: RowGA 1 a1 c1 (buf ++ [x3]).length (intc (buf ++ [x3])) :: CelA (w.heap.size + 1) [.int .i64 0, .bool false, .int .i64 x1, .int .i64 x2, .int .i64 x3, .bool true] :: CelA w.heap.size [.int .i64 0, .bool false, .int .i64 0, .int .i64 0, .int .i64 0, .bool false] :: RowGA 3 sa' (sc - 1) t.length (wtc t) :: RowGA 3 ra rc Rv.length (wtc Rv) :: R) := by
      have e : (buf ++ [x3]).length = n + 1 := by rw [HN.out]; simp
      have e2 : intc (buf ++ [x3]) = intc buf ++ intc [x3] := intc_app _ _
      simp only [ccells]
      rw [e, e2]
      exact (h6.setAt 1 rfl 1 (.slice a1 (n + 1) c1)).pick 1 rfl
    rw [HYB.out] at h7
    have he := eldi_some (k := 1) (R := [CelA (w.heap.size + 1) [.int .i64 0, .bool false, .int .i64 x1, .int .i64 x2, .int .i64 x3, .bool true], CelA w.heap.size [.int .i64 0, .bool false, .int .i64 0, .int .i64 0, .int .i64 0, .bool false], RowGA 3 sa' (sc - 1) t.length (wtc t), RowGA 3 ra rc Rv.length (wtc Rv)] ++ R) h7 rfl rfl (by rw [← HYB.out]; simp; have := HN.out; omega)
    have HE2 := Lib.hid he
    have hsz := World.block_lt_of_cell? w4 _ p1'
    clear h6 h7 he k1 ch1 f1 p1 q1 s14 r14 p1a s14a hpl3 H5
    go_wp2_with fail
    refine HE2.out.mono ?_
    rintro r W5 ⟨rfl, a', h5⟩
    have h5 : Own w0 W5 (CelA p (ccells N ⟨b, t, Rv, cl⟩ a' (c1 - 1) sa' (sc - 1) ra rc) :: CelA (w.heap.size + 1) [.int .i64 0, .bool false, .int .i64 x1, .int .i64 x2, .int .i64 x3, .bool true] :: CelA w.heap.size [.int .i64 0, .bool false, .int .i64 0, .int .i64 0, .int .i64 0, .bool false] :: RowGA 1 a' (c1 - 1) b.length (intc b) :: RowGA 3 sa' (sc - 1) t.length (wtc t) :: RowGA 3 ra rc Rv.length (wtc Rv) :: R) := (((h5.pick 1 rfl).pick 3 rfl).pick 3 rfl).pick 3 rfl
    obtain ⟨c0, d0⟩ := h5.cel 1 rfl 0 _ rfl
    obtain ⟨c1, d1⟩ := h5.cel 1 rfl 1 _ rfl
    obtain ⟨c2, d2⟩ := h5.cel 1 rfl 2 _ rfl
    obtain ⟨c3, d3⟩ := h5.cel 1 rfl 3 _ rfl
    obtain ⟨c4, d4⟩ := h5.cel 1 rfl 4 _ rfl
    obtain ⟨c5, d5⟩ := h5.cel 1 rfl 5 _ rfl
    obtain ⟨e0, f0⟩ := h5.cel 2 rfl 0 _ rfl
    obtain ⟨e1, f1⟩ := h5.cel 2 rfl 1 _ rfl
    obtain ⟨e2, f2⟩ := h5.cel 2 rfl 2 _ rfl
    obtain ⟨e3, f3⟩ := h5.cel 2 rfl 3 _ rfl
    obtain ⟨e4, f4⟩ := h5.cel 2 rfl 4 _ rfl
    obtain ⟨e5, f5⟩ := h5.cel 2 rfl 5 _ rfl
    have hps : p ≠ w.heap.size + 1 := by omega
    have hps2 : p ≠ w.heap.size := by omega
    have hfin : ∀ v0 v1 u0 u1 u2 u3 u4 u5, Own w0 ((((((((W5.setCell ⟨w.heap.size + 1, 0, none⟩ v0).setCell ⟨w.heap.size + 1, 1, none⟩ v1).setCell ⟨w.heap.size, 0, none⟩ u0).setCell ⟨w.heap.size, 1, none⟩ u1).setCell ⟨w.heap.size, 2, none⟩ u2).setCell ⟨w.heap.size, 3, none⟩ u3).setCell ⟨w.heap.size, 4, none⟩ u4).setCell ⟨w.heap.size, 5, none⟩ u5) (ChanA p N ⟨b, t, Rv, cl⟩ :: R) := fun v0 v1 u0 u1 u2 u3 u4 u5 => by
      have h6 := (((((((h5.setAt 1 rfl 0 v0).setAt 1 rfl 1 v1).setAt 2 rfl 0 u0).setAt 2 rfl 1 u1).setAt 2 rfl 2 u2).setAt 2 rfl 3 u3).setAt 2 rfl 4 u4).setAt 2 rfl 5 u5
      exact Own.chanBack ((h6.pick 1 rfl).drop.pick 1 rfl).drop
    have HF := Lib.hid hfin
    clear h5 hfin HE2
    go_wp2
    exact bodyPost_ret (v := .tuple #[.agg #[.int .i64 y, .bool true, .int .i64 x1, .int .i64 x2, .int .i64 x3, .bool true], .int .i64 0]) (by simp [results, Tryz.results191, go_sem, e0, e1, e2, e3, e4, e5]) rfl ⟨rfl, HF.out _ _ _ _ _ _ _ _⟩
end Go.Proofs.YtjidcagklakjaaaGreat
/-
  Channels: Recv in one, Close, who waits; awake.
-/
open Go Go.RowKit
set_option linter.unusedVariables false
namespace Go.Proofs.YtjidcagklakjaaaGreat
theorem crecv_any {w0 w : World} {R : List Asr} {p N : Nat} {C : Ch} (h : Own w0 w (ChanA p N C :: R)) (hb : C.buf.length ≤ 100000) (hs : C.S.length ≤ 100000) :
    Calls Tryz.prog 191 #[.pointer (some ⟨p, 0, none⟩)] w fun r w' => r = .returned (.tuple #[gotC (mRecv C).2.1.1 (mRecv C).2.1.2.1 (mRecv C).2.1.2.2.1 (mRecv C).2.1.2.2.2, .int .i64 (mRecv C).2.2]) ∧ Own w0 w' (ChanA p N (mRecv C).1 :: R) := by
  obtain ⟨buf, S, Rv, cl⟩ := C
  simp only at hb hs
  cases S with
  | cons x t =>
    cases hbv : buf ++ [x.2.2] with
    | nil => simp at hbv
    | cons y b =>
      have e : mRecv ⟨buf, x :: t, Rv, cl⟩ = (⟨b, t, Rv, cl⟩, (y, true, x, true), 0) := by simp only [mRecv, hbv]
      rw [e]
      exact crecv_send h hbv hb (by simp at hs; omega)
  | nil =>
    cases buf with
    | nil => exact crecv_none h
    | cons y b => exact crecv_buf h (by simp at hb; omega)
set_option maxRecDepth 100000 in
set_option maxHeartbeats 1000000 in
theorem cclose_over {w0 w : World} {R : List Asr} {p N : Nat} {buf : List Int} {S Rv : List Wt} (h : Own w0 w (ChanA p N ⟨buf, S, Rv, true⟩ :: R)) :
    Calls Tryz.prog 156 #[.pointer (some ⟨p, 0, none⟩)] w fun r w' => r = .returned (.tuple #[.slice none 0 0, .slice none 0 0, .int .i64 10]) ∧ w = w' := by
  obtain ⟨ba, bc, sa, sc, ra, rc, h1⟩ := h.chan
  obtain ⟨g4, -⟩ := h1.cel 0 rfl 4 _ rfl
  simp only at g4
  clear h h1
  go_enter Tryz.func156, Tryz.ntmps156
  go_wp2
  refine bodyPost_ret (v := .tuple #[.slice none 0 0, .slice none 0 0, .int .i64 10]) (by simp [results, Tryz.results156, go_sem]) rfl ⟨rfl, rfl⟩
set_option maxRecDepth 100000 in
set_option maxHeartbeats 1000000 in
theorem cclose_any {w0 w : World} {R : List Asr} {p N : Nat} {buf : List Int} {S Rv : List Wt} (h : Own w0 w (ChanA p N ⟨buf, S, Rv, false⟩ :: R)) :
    Calls Tryz.prog 156 #[.pointer (some ⟨p, 0, none⟩)] w fun r w' => ∃ ra rc sa sc, r = .returned (.tuple #[.slice ra Rv.length rc, .slice sa S.length sc, .int .i64 0]) ∧
      Own w0 w' (ChanA p N ⟨buf, [], [], true⟩ :: RowGA 3 ra rc Rv.length (wtc Rv) :: RowGA 3 sa sc S.length (wtc S) :: R) := by
  obtain ⟨ba, bc, sa, sc, ra, rc, h1⟩ := h.chan
  obtain ⟨g2, f2⟩ := h1.cel 0 rfl 2 _ rfl
  obtain ⟨g3, f3⟩ := h1.cel 0 rfl 3 _ rfl
  obtain ⟨g4, f4⟩ := h1.cel 0 rfl 4 _ rfl
  simp only at g2 g3 g4
  have hf : ∀ wf, Chg [] (((w.setCell ⟨p, 3, none⟩ (.slice none 0 0)).setCell ⟨p, 2, none⟩ (.slice none 0 0)).setCell ⟨p, 4, none⟩ (.bool true)) wf → Own w0 wf (ChanA p N ⟨buf, [], [], true⟩ :: RowGA 3 ra rc Rv.length (wtc Rv) :: RowGA 3 sa sc S.length (wtc S) :: R) := fun wf cf => by
    have h2 := ((h1.setAt 0 rfl 3 (.slice none 0 0)).setAt 0 rfl 2 (.slice none 0 0)).setAt 0 rfl 4 (.bool true)
    have h3 := h2.step cf.to_below0
    have h4 := (h3.add (Below.refl _ _) (A := RowGA 3 none 0 0 (wtc [])) (F := []) ⟨rfl, RowG.nil _ _⟩ (fun x hx => by simp at hx)).add (Below.refl _ _) (A := RowGA 3 none 0 0 (wtc [])) (F := []) ⟨rfl, RowG.nil _ _⟩ (fun x hx => by simp at hx)
    have h5 : Own w0 wf (RowGA 3 none 0 0 (wtc []) :: RowGA 3 none 0 0 (wtc []) :: CelA p (ccells N ⟨buf, [], [], true⟩ ba bc none 0 none 0) :: RowGA 1 ba bc buf.length (intc buf) :: RowGA 3 sa sc S.length (wtc S) :: RowGA 3 ra rc Rv.length (wtc Rv) :: R) := h4
    have h6 := (((((h5.pick 4 rfl).pick 5 rfl).pick 2 rfl).pick 3 rfl).pick 5 rfl).pick 5 rfl
    exact Own.chanBack h6
  have HF := Lib.hid hf
  clear h h1 hf
  go_enter Tryz.func156, Tryz.ntmps156
  go_wp2_with fail
  go_quiet (fail)
  go_wp2
  refine bodyPost_ret (v := .tuple #[.slice ra Rv.length rc, .slice sa S.length sc, .int .i64 0]) (by simp [results, Tryz.results156, go_sem]) rfl ⟨ra, rc, sa, sc, rfl, HF.out _ ?_⟩
  exact Chg.drewN (Chg.refl [] _) nq
set_option maxRecDepth 100000 in
set_option maxHeartbeats 2000000 in
theorem cwaits_any {w0 w : World} {R : List Asr} {p N : Nat} {buf : List Int} {S Rv : List Wt} {cl : Bool} (h : Own w0 w (ChanA p N ⟨buf, S, Rv, cl⟩ :: R)) (x : Wt) (hl : S.length ≤ 100000) :
    Calls Tryz.prog 193 #[.pointer (some ⟨p, 0, none⟩), wv x] w fun r w' => r = .returned (.tuple #[]) ∧ Own w0 w' (ChanA p N ⟨buf, S ++ [x], Rv, cl⟩ :: R) := by
  obtain ⟨ba, bc, sa, sc, ra, rc, h1⟩ := h.chan
  obtain ⟨n, hn⟩ : ∃ n, n = S.length := ⟨_, rfl⟩
  obtain ⟨x1, x2, x3⟩ := x
  have hA := h1.alloc [.int .i64 x1, .int .i64 x2, .int .i64 x3] 183 (b := w.heap.size) rfl
  have hpl : p < w.heap.size := World.block_lt_of_cell? w _ (h1.cel 0 rfl 0 _ rfl).1
  obtain ⟨p1, q1⟩ := hA.cel 1 rfl 2 _ rfl
  simp only at p1
  rw [← hn] at p1 hl
  have HN := Lib.hid hn
  obtain ⟨z0, -⟩ := hA.cel 0 rfl 0 _ rfl
  obtain ⟨z1, -⟩ := hA.cel 0 rfl 1 _ rfl
  obtain ⟨z2, -⟩ := hA.cel 0 rfl 2 _ rfl
  have hrow := hA.rowG 3 rfl
  simp only at hrow
  rw [← hn] at hrow
  have HR := Lib.hid hrow
  have H5 := Lib.hid hA
  clear hn h h1 hA hrow
  unfold wv
  simp only
  obtain ⟨i0, hi0, hz0, hz1, hz2⟩ := info_parts info_wt
  have Hi := Lib.hid hi0; clear hi0
  have Hz0 := Lib.hid hz0; clear hz0
  have Hz1 := Lib.hid hz1; clear hz1
  have Hz2 := Lib.hid hz2; clear hz2
  go_enter Tryz.func193, Tryz.ntmps193
  go_upto_region 1 with fail
  obtain ⟨s0, hs0⟩ : ∃ s0, s0 = w.heap.size := ⟨_, rfl⟩
  rw [← hs0] at z0 z1 z2 H5 ⊢
  have hps : p ≠ s0 := by omega
  clear hs0 hpl
  generalize w.alloc (.cells #[.int .i64 x1, .int .i64 x2, .int .i64 x3] 183) = W at *
  have hpl3 := World.block_lt_of_cell? W _ p1
  have hsl3 := World.block_lt_of_cell? W _ z0
  go_wp2_with fail
  go_region_law (first
    | (refine step_append_rowG (m := 1) (ds := wtc [(x1, x2, x3)]) (by rfl) _ _ 86 (by rfl) 183 i0 _ Tryz.underlying86 Hi.out Hz0.out Hz1.out Hz2.out rfl (by omega) (by omega) (by rfl) (by rfl) (HR.out.below (by repeat (first | exact Below.refl _ _ | refine Below.drew ?_ | refine Below.alloc ?_ (by simp) _))) (by first | exact CellsAt.new _ (wtc [(x1, x2, x3)]) _ rfl | exact (CellsAt.new _ (wtc [(x1, x2, x3)]) _ rfl).below (below_drew1 _)) rfl (wtc_one _) (by omega) ?_; intro a1 c1 w4 k1 ch1 f1
       have h6 := Own.rowTurnC ch1 k1 (fun x hx => by have := f1 x hx; simpa using this) ((H5.out.step (by repeat (first | exact Below.refl _ _ | refine Below.drew ?_ | refine Below.alloc ?_ (by simp) _))).pick 3 rfl)
       obtain ⟨p1', q1'⟩ := h6.cel 2 rfl 2 _ rfl))
  all_goals
    have hE : Own w0 (w4.setCell ⟨p, 2, none⟩ (.slice a1 (n + 1) c1)) (ChanA p N ⟨buf, S ++ [(x1, x2, x3)], Rv, cl⟩ :: R) := by
      have e : (S ++ [(x1, x2, x3)]).length = n + 1 := by rw [HN.out]; simp
      have e2 : wtc (S ++ [(x1, x2, x3)]) = wtc S ++ wtc [(x1, x2, x3)] := wtc_app _ _
      have h7 : Own w0 (w4.setCell ⟨p, 2, none⟩ (.slice a1 (n + 1) c1)) (RowGA 3 a1 c1 (S ++ [(x1, x2, x3)]).length (wtc (S ++ [(x1, x2, x3)])) :: CelA s0 [.int .i64 x1, .int .i64 x2, .int .i64 x3] :: CelA p (ccells N ⟨buf, S ++ [(x1, x2, x3)], Rv, cl⟩ ba bc a1 c1 ra rc) :: RowGA 1 ba bc buf.length (intc buf) :: RowGA 3 ra rc Rv.length (wtc Rv) :: R) := by
        simp only [ccells]
        rw [e, e2]
        exact h6.setAt 2 rfl 2 (.slice a1 (n + 1) c1)
      have h8 := (h7.pick 1 rfl).drop
      exact Own.chanBack ((((h8.pick 3 rfl).pick 1 rfl).pick 3 rfl).pick 3 rfl)
    have HE := Lib.hid hE
    clear hE h6 k1 ch1 f1 p1 q1 z0 z1 z2 H5
    go_wp2
    go_end0
    exact ⟨rfl, HE.out⟩
set_option maxRecDepth 100000 in
set_option maxHeartbeats 2000000 in
theorem cwaitr_any {w0 w : World} {R : List Asr} {p N : Nat} {buf : List Int} {S Rv : List Wt} {cl : Bool} (h : Own w0 w (ChanA p N ⟨buf, S, Rv, cl⟩ :: R)) (x : Wt) (hl : Rv.length ≤ 100000) :
    Calls Tryz.prog 192 #[.pointer (some ⟨p, 0, none⟩), wv x] w fun r w' => r = .returned (.tuple #[]) ∧ Own w0 w' (ChanA p N ⟨buf, S, Rv ++ [x], cl⟩ :: R) := by
  obtain ⟨ba, bc, sa, sc, ra, rc, h1⟩ := h.chan
  obtain ⟨n, hn⟩ : ∃ n, n = Rv.length := ⟨_, rfl⟩
  obtain ⟨x1, x2, x3⟩ := x
  have hA := h1.alloc [.int .i64 x1, .int .i64 x2, .int .i64 x3] 183 (b := w.heap.size) rfl
  have hpl : p < w.heap.size := World.block_lt_of_cell? w _ (h1.cel 0 rfl 0 _ rfl).1
  obtain ⟨p1, q1⟩ := hA.cel 1 rfl 3 _ rfl
  simp only at p1
  rw [← hn] at p1 hl
  have HN := Lib.hid hn
  obtain ⟨z0, -⟩ := hA.cel 0 rfl 0 _ rfl
  obtain ⟨z1, -⟩ := hA.cel 0 rfl 1 _ rfl
  obtain ⟨z2, -⟩ := hA.cel 0 rfl 2 _ rfl
  have hrow := hA.rowG 4 rfl
  simp only at hrow
  rw [← hn] at hrow
  have HR := Lib.hid hrow
  have H5 := Lib.hid hA
  clear hn h h1 hA hrow
  unfold wv
  simp only
  obtain ⟨i0, hi0, hz0, hz1, hz2⟩ := info_parts info_wt
  have Hi := Lib.hid hi0; clear hi0
  have Hz0 := Lib.hid hz0; clear hz0
  have Hz1 := Lib.hid hz1; clear hz1
  have Hz2 := Lib.hid hz2; clear hz2
  go_enter Tryz.func192, Tryz.ntmps192
  go_upto_region 1 with fail
  obtain ⟨s0, hs0⟩ : ∃ s0, s0 = w.heap.size := ⟨_, rfl⟩
  rw [← hs0] at z0 z1 z2 H5 ⊢
  have hps : p ≠ s0 := by omega
  clear hs0 hpl
  generalize w.alloc (.cells #[.int .i64 x1, .int .i64 x2, .int .i64 x3] 183) = W at *
  have hpl3 := World.block_lt_of_cell? W _ p1
  have hsl3 := World.block_lt_of_cell? W _ z0
  go_wp2_with fail
  go_region_law (first
    | (refine step_append_rowG (m := 1) (ds := wtc [(x1, x2, x3)]) (by rfl) _ _ 86 (by rfl) 183 i0 _ Tryz.underlying86 Hi.out Hz0.out Hz1.out Hz2.out rfl (by omega) (by omega) (by rfl) (by rfl) (HR.out.below (by repeat (first | exact Below.refl _ _ | refine Below.drew ?_ | refine Below.alloc ?_ (by simp) _))) (by first | exact CellsAt.new _ (wtc [(x1, x2, x3)]) _ rfl | exact (CellsAt.new _ (wtc [(x1, x2, x3)]) _ rfl).below (below_drew1 _)) rfl (wtc_one _) (by omega) ?_; intro a1 c1 w4 k1 ch1 f1
       have h6 := Own.rowTurnC ch1 k1 (fun x hx => by have := f1 x hx; simpa using this) ((H5.out.step (by repeat (first | exact Below.refl _ _ | refine Below.drew ?_ | refine Below.alloc ?_ (by simp) _))).pick 4 rfl)
       obtain ⟨p1', q1'⟩ := h6.cel 2 rfl 3 _ rfl))
  all_goals
    have hE : Own w0 (w4.setCell ⟨p, 3, none⟩ (.slice a1 (n + 1) c1)) (ChanA p N ⟨buf, S, Rv ++ [(x1, x2, x3)], cl⟩ :: R) := by
      have e : (Rv ++ [(x1, x2, x3)]).length = n + 1 := by rw [HN.out]; simp
      have e2 : wtc (Rv ++ [(x1, x2, x3)]) = wtc Rv ++ wtc [(x1, x2, x3)] := wtc_app _ _
      have h7 : Own w0 (w4.setCell ⟨p, 3, none⟩ (.slice a1 (n + 1) c1)) (RowGA 3 a1 c1 (Rv ++ [(x1, x2, x3)]).length (wtc (Rv ++ [(x1, x2, x3)])) :: CelA s0 [.int .i64 x1, .int .i64 x2, .int .i64 x3] :: CelA p (ccells N ⟨buf, S, Rv ++ [(x1, x2, x3)], cl⟩ ba bc sa sc a1 c1) :: RowGA 1 ba bc buf.length (intc buf) :: RowGA 3 sa sc S.length (wtc S) :: R) := by
        simp only [ccells]
        rw [e, e2]
        exact h6.setAt 2 rfl 3 (.slice a1 (n + 1) c1)
      have h8 := (h7.pick 1 rfl).drop
      exact Own.chanBack ((((h8.pick 3 rfl).pick 3 rfl).pick 3 rfl))
    have HE := Lib.hid hE
    clear hE h6 k1 ch1 f1 p1 q1 z0 z1 z2 H5
    go_wp2
    go_end0
    exact ⟨rfl, HE.out⟩
end Go.Proofs.YtjidcagklakjaaaGreat
/-
  Channels: State.
-/
open Go Go.RowKit
set_option linter.unusedVariables false
namespace Go.Proofs.YtjidcagklakjaaaGreat
theorem nil_of_none {w : World} {s cap n : Nat} {cs : List Value} (hs : 0 < s) (h : RowG s w none cap n cs) : cap = 0 ∧ n = 0 ∧ cs = [] := by
  obtain ⟨h1, h2, h3, h4⟩ := h
  rcases h4 with ⟨_, h0⟩ | ⟨_, _, h, _⟩
  · have hn : n = 0 := by omega
    subst hn
    exact ⟨h0, rfl, List.length_eq_zero_iff.1 (by simpa using h1)⟩
  · cases h
set_option maxRecDepth 100000 in
set_option maxHeartbeats 1000000 in
theorem clonei_any (w : World) (a : Option Addr) (n c : Nat) (cs : List Value) (h : RowG 1 w a c n cs) (hone : ∀ u ∈ cs, u.oneCell' = true) (hl : n ≤ 1000000) :
    Calls Tryz.prog 60 #[.slice a n c] w fun r w' => ∃ a' c', r = .returned (.slice a' n c') ∧ RowG 1 w' a' c' n cs ∧ (∀ x ∈ blk a', w.heap.size ≤ x) ∧ Below w.heap.size w w' := by
  cases a with
  | none =>
    obtain ⟨rfl, rfl, rfl⟩ := nil_of_none (by omega) h
    clear h hone
    have he : ∀ w : World, (binOp .eql 44 (.slice none 0 0) (.slice none 0 0)).run Tryz.prog w = .ok (.bool true) w := fun _ => rfl
    go_enter Tryz.func60, Tryz.ntmps60
    go_wp2
    go_ret
    exact ⟨none, 0, rfl, RowG.nil _ _, fun x hx => by simp [blk] at hx, Below.refl _ _⟩
  | some ad =>
    obtain ⟨i0, hi0, hz0, hz1, hz2⟩ := info_parts info_i6
    have Hi := Lib.hid hi0; clear hi0
    have Hz0 := Lib.hid hz0; clear hz0
    have Hz1 := Lib.hid hz1; clear hz1
    have Hz2 := Lib.hid hz2; clear hz2
    have H := Lib.hid h
    have HO := Lib.hid hone
    clear h hone
    have he : ∀ w : World, (binOp .eql 44 (.slice (some ad) n c) (.slice none 0 0)).run Tryz.prog w = .ok (.bool false) w := fun _ => rfl
    go_enter Tryz.func60, Tryz.ntmps60
    go_wp2_with (at_builtin; refine wpList_append_rowG (m := n) (n := 0) (cs := []) (ds := cs) rfl _ _ 44 rfl 2 i0 _ Tryz.underlying44 Hi.out Hz0.out Hz1.out Hz2.out rfl (by omega) (by omega) rfl rfl (RowG.zero (by simp)) ((H.out.below (below_alloc1 _ _)).cells) H.out.1 HO.out (by omega) ?_)
    intro a1 c1 w1 k1 ch1 f1
    have hf : RowG 1 w1 a1 c1 n cs ∧ (∀ x ∈ blk a1, w.heap.size ≤ x) ∧ Below w.heap.size w w1 := by
      refine ⟨by simpa using k1, fun x hx => ?_, Chg.below (below_alloc1 _ _) ch1 (fun x hx => by simp [blk] at hx; omega)⟩
      rcases f1 x hx with h | h
      · simp [blk] at h; omega
      · first | omega | (simp at h; omega)
    have HF := Lib.hid hf
    clear hf k1 ch1 f1
    go_wp2
    go_ret
    exact ⟨a1, c1, by simp, HF.out⟩
set_option maxRecDepth 100000 in
set_option maxHeartbeats 1000000 in
theorem clonew_any (w : World) (a : Option Addr) (n c : Nat) (cs : List Value) (h : RowG 3 w a c n cs) (hone : ∀ u ∈ cs, u.oneCell' = true) (hl : n ≤ 1000000) :
    Calls Tryz.prog 92 #[.slice a n c] w fun r w' => ∃ a' c', r = .returned (.slice a' n c') ∧ RowG 3 w' a' c' n cs ∧ (∀ x ∈ blk a', w.heap.size ≤ x) ∧ Below w.heap.size w w' := by
  cases a with
  | none =>
    obtain ⟨rfl, rfl, rfl⟩ := nil_of_none (by omega) h
    clear h hone
    have he : ∀ w : World, (binOp .eql 86 (.slice none 0 0) (.slice none 0 0)).run Tryz.prog w = .ok (.bool true) w := fun _ => rfl
    go_enter Tryz.func92, Tryz.ntmps92
    go_wp2
    go_ret
    exact ⟨none, 0, rfl, RowG.nil _ _, fun x hx => by simp [blk] at hx, Below.refl _ _⟩
  | some ad =>
    obtain ⟨i0, hi0, hz0, hz1, hz2⟩ := info_parts info_wt
    have Hi := Lib.hid hi0; clear hi0
    have Hz0 := Lib.hid hz0; clear hz0
    have Hz1 := Lib.hid hz1; clear hz1
    have Hz2 := Lib.hid hz2; clear hz2
    have H := Lib.hid h
    have HO := Lib.hid hone
    clear h hone
    have he : ∀ w : World, (binOp .eql 86 (.slice (some ad) n c) (.slice none 0 0)).run Tryz.prog w = .ok (.bool false) w := fun _ => rfl
    go_enter Tryz.func92, Tryz.ntmps92
    go_wp2_with (at_builtin; refine wpList_append_rowG (m := n) (n := 0) (cs := []) (ds := cs) rfl _ _ 86 rfl 183 i0 _ Tryz.underlying86 Hi.out Hz0.out Hz1.out Hz2.out rfl (by omega) (by omega) rfl rfl (RowG.zero (by simp)) ((H.out.below (below_alloc1 _ _)).cells) H.out.1 HO.out (by omega) ?_)
    intro a1 c1 w1 k1 ch1 f1
    have hf : RowG 3 w1 a1 c1 n cs ∧ (∀ x ∈ blk a1, w.heap.size ≤ x) ∧ Below w.heap.size w w1 := by
      refine ⟨by simpa using k1, fun x hx => ?_, Chg.below (below_alloc1 _ _) ch1 (fun x hx => by simp [blk] at hx; omega)⟩
      rcases f1 x hx with h | h
      · simp [blk] at h; omega
      · first | omega | (simp at h; omega)
    have HF := Lib.hid hf
    clear hf k1 ch1 f1
    go_wp2
    go_ret
    exact ⟨a1, c1, by simp, HF.out⟩
set_option maxRecDepth 100000 in
set_option maxHeartbeats 4000000 in
theorem cstate_any {w0 w : World} {R : List Asr} {p N : Nat} {C : Ch} (h : Own w0 w (ChanA p N C :: R)) (hb : C.buf.length ≤ 100000) (hs : C.S.length ≤ 100000) (hr : C.R.length ≤ 100000) :
    Calls Tryz.prog 65 #[.pointer (some ⟨p, 0, none⟩)] w fun r w' => ∃ ba bc sa sc ra rc, r = .returned (.agg #[.slice ba C.buf.length bc, .slice sa C.S.length sc, .slice ra C.R.length rc, .bool C.cl]) ∧
      Own w0 w' (RowGA 3 ra rc C.R.length (wtc C.R) :: RowGA 3 sa sc C.S.length (wtc C.S) :: RowGA 1 ba bc C.buf.length (intc C.buf) :: ChanA p N C :: R) ∧ Below w.heap.size w w' := by
  obtain ⟨buf, S, Rv, cl⟩ := C
  simp only at hb hs hr ⊢
  obtain ⟨n1, hn1⟩ : ∃ n, n = buf.length := ⟨_, rfl⟩
  obtain ⟨n2, hn2⟩ : ∃ n, n = S.length := ⟨_, rfl⟩
  obtain ⟨n3, hn3⟩ : ∃ n, n = Rv.length := ⟨_, rfl⟩
  rw [← hn1] at hb
  rw [← hn2] at hs
  rw [← hn3] at hr
  rw [← hn1, ← hn2, ← hn3]
  have H1 := Lib.hid hn1
  have H2 := Lib.hid hn2
  have H3 := Lib.hid hn3
  clear hn1 hn2 hn3
  obtain ⟨ba, bc, sa, sc, ra, rc, h1⟩ := h.chan
  simp only [ccells] at h1
  rw [← H1.out, ← H2.out, ← H3.out] at h1
  obtain ⟨s0, hs0⟩ : ∃ s0, s0 = w.heap.size := ⟨_, rfl⟩
  have hA := h1.alloc [.slice none 0 0, .slice none 0 0, .slice none 0 0, .bool false] 88 hs0
  have hpl : p < w.heap.size := World.block_lt_of_cell? w _ (h1.cel 0 rfl 0 _ rfl).1
  have hps : p ≠ s0 := by omega
  have hbel : Below w.heap.size w (w.alloc (.cells #[.slice none 0 0, .slice none 0 0, .slice none 0 0, .bool false] 88)) := below_alloc1 _ _
  have HBEL := Lib.hid hbel
  have HS0 := Lib.hid hs0
  go_enter Tryz.func65, Tryz.ntmps65
  go_upto_region 1 with fail
  rw [← hs0]
  clear h1 h hs0 hbel
  generalize w.alloc (.cells #[.slice none 0 0, .slice none 0 0, .slice none 0 0, .bool false] 88) = W at *
  obtain ⟨g1, -⟩ := hA.cel 1 rfl 1 _ rfl
  obtain ⟨g2, -⟩ := hA.cel 1 rfl 2 _ rfl
  obtain ⟨g3, -⟩ := hA.cel 1 rfl 3 _ rfl
  obtain ⟨g4, -⟩ := hA.cel 1 rfl 4 _ rfl
  have hrow1 := hA.rowG 2 rfl
  have hrow2 := hA.rowG 3 rfl
  have hrow3 := hA.rowG 4 rfl
  have hsl : s0 < W.heap.size := World.block_lt_of_cell? W _ (hA.cel 0 rfl 0 _ rfl).1
  have HST : Hid (CR s0 4 W W) := Lib.hid (CR.start (Room.of_blk (cs := [.slice none 0 0, .slice none 0 0, .slice none 0 0, .bool false]) (hA.cel 0 rfl) hsl))
  have HK : Hid (∀ w', CR s0 4 W w' → w'.cell? ⟨p, 1, none⟩ = some (.slice ba n1 bc) ∧ w'.cell? ⟨p, 2, none⟩ = some (.slice sa n2 sc) ∧ w'.cell? ⟨p, 3, none⟩ = some (.slice ra n3 rc) ∧ w'.cell? ⟨p, 4, none⟩ = some (.bool cl) ∧ CR s0 4 W w') := Lib.hid fun w' c =>
    ⟨cell_chg g1 c.1 (by simp; omega), cell_chg g2 c.1 (by simp; omega), cell_chg g3 c.1 (by simp; omega), cell_chg g4 c.1 (by simp; omega), c⟩
  have HR1 := Lib.hid hrow1
  have HR2 := Lib.hid hrow2
  have HR3 := Lib.hid hrow3
  have HO := Lib.hid hA
  clear g1 g2 g3 g4 hrow1 hrow2 hrow3 hA
  go_wp2_with fail
  go_region_held3 (fun w' => w'.cell? ⟨p, 1, none⟩ = some (.slice ba n1 bc) ∧ w'.cell? ⟨p, 2, none⟩ = some (.slice sa n2 sc) ∧ w'.cell? ⟨p, 3, none⟩ = some (.slice ra n3 rc) ∧ w'.cell? ⟨p, 4, none⟩ = some (.bool cl) ∧ CR s0 4 W w')
    ((refine HK.out _ ?_; repeat (first | exact HST.out | exact cr3 | exact cr2 | exact cr1 | exact lim4 (by assumption) | refine CR.drew ?_ | refine CR.drewN ?_ _ | refine CR.set ?_ _ _ | refine CR.step ?_ (below_alloc1 _ _))))
    (first
      | (go_at_call 60; refine (clonei_any _ ba n1 bc (intc buf) (HR1.out.below (by repeat (first | exact Below.refl _ _ | refine Below.drew ?_ | refine below_drewN ?_ _))) (intc_one _) (by omega)).mono ?_; rintro r w1 ⟨ba1, bc1, rfl, k1, x1, b1⟩
         have b1' : Below W.heap.size W w1 := by first | exact b1 | exact below_on (below_drew1 _) b1 | exact below_on (below_drewN (Below.refl _ _) _) b1
         have cr1 : CR s0 4 W w1 := CR.step HST.out b1'
         have o1 := HO.out.add b1' (A := RowGA 1 ba1 bc1 n1 (intc buf)) ⟨rfl, k1⟩ (fun x hx => x1 x hx)
         have b1s := b1'.size)
      | (go_at_call 92; (with_reducible refine (clonew_any _ sa n2 sc (wtc S) (HR2.out.below b1') (wtc_one _) (by omega)).mono ?_); rintro r w2 ⟨sa1, sc1, rfl, k2, x2, b2⟩
         have b2' : Below W.heap.size W w2 := below_on b1' b2
         have cr2 : CR s0 4 W w2 := CR.step cr1 b2
         have o2 := o1.add b2 (A := RowGA 3 sa1 sc1 n2 (wtc S)) ⟨rfl, k2⟩ (fun x hx => x2 x hx))
      | (go_at_call 92; (with_reducible refine (clonew_any _ ra n3 rc (wtc Rv) (HR3.out.below b2') (wtc_one _) (by omega)).mono ?_); rintro r w3 ⟨ra1, rc1, rfl, k3, x3, b3⟩
         have b3' : Below W.heap.size W w3 := below_on b2' b3
         have cr3 : CR s0 4 W w3 := CR.step cr2 b3
         have o3 := o2.add b3 (A := RowGA 3 ra1 rc1 n3 (wtc Rv)) ⟨rfl, k3⟩ (fun x hx => x3 x hx)
         obtain ⟨u0, t0⟩ := o3.cel 3 rfl 0 _ rfl
         obtain ⟨u1, t1⟩ := o3.cel 3 rfl 1 _ rfl
         obtain ⟨u2, t2⟩ := o3.cel 3 rfl 2 _ rfl
         obtain ⟨u3, t3⟩ := o3.cel 3 rfl 3 _ rfl))
  all_goals
    have hE : ∀ v0 v1 v2 v3, Own w0 ((((w3.setCell ⟨s0, 0, none⟩ v0).setCell ⟨s0, 1, none⟩ v1).setCell ⟨s0, 2, none⟩ v2).setCell ⟨s0, 3, none⟩ v3) (RowGA 3 ra1 rc1 n3 (wtc Rv) :: RowGA 3 sa1 sc1 n2 (wtc S) :: RowGA 1 ba1 bc1 n1 (intc buf) :: ChanA p N ⟨buf, S, Rv, cl⟩ :: R) ∧
        Below w.heap.size w ((((w3.setCell ⟨s0, 0, none⟩ v0).setCell ⟨s0, 1, none⟩ v1).setCell ⟨s0, 2, none⟩ v2).setCell ⟨s0, 3, none⟩ v3) := fun v0 v1 v2 v3 => by
      have o4 := (((o3.setAt 3 rfl 0 v0).setAt 3 rfl 1 v1).setAt 3 rfl 2 v2).setAt 3 rfl 3 v3
      have o5 := ((o4.pick 3 rfl).drop)
      have o6 := ((((((o5.pick 2 rfl).pick 2 rfl).pick 2 rfl).pick 6 rfl).pick 6 rfl).pick 6 rfl).pick 6 rfl
      refine ⟨?_, ((((below_on HBEL.out b3').setCell (by show w.heap.size ≤ s0; have := HS0.out; omega) _).setCell (by show w.heap.size ≤ s0; have := HS0.out; omega) _).setCell (by show w.heap.size ≤ s0; have := HS0.out; omega) _).setCell (by show w.heap.size ≤ s0; have := HS0.out; omega) _⟩
      have o7 : Own w0 ((((w3.setCell ⟨s0, 0, none⟩ v0).setCell ⟨s0, 1, none⟩ v1).setCell ⟨s0, 2, none⟩ v2).setCell ⟨s0, 3, none⟩ v3) (CelA p (ccells N ⟨buf, S, Rv, cl⟩ ba bc sa sc ra rc) :: RowGA 1 ba bc buf.length (intc buf) :: RowGA 3 sa sc S.length (wtc S) :: RowGA 3 ra rc Rv.length (wtc Rv) :: RowGA 3 ra1 rc1 n3 (wtc Rv) :: RowGA 3 sa1 sc1 n2 (wtc S) :: RowGA 1 ba1 bc1 n1 (intc buf) :: R) := by
        simp only [ccells]
        rw [← H1.out, ← H2.out, ← H3.out]
        exact o6
      exact (((Own.chanBack o7).pick 3 rfl).pick 3 rfl).pick 3 rfl
    have HE := Lib.hid hE
    rename_i hHeld
    clear hE hHeld k1 k2 k3 o1 o2 o3 b1 b1' b2 b2' b3 b3' cr1 cr2 cr3
    go_wp2
    exact bodyPost_ret (v := .agg #[.slice ba1 n1 bc1, .slice sa1 n2 sc1, .slice ra1 n3 rc1, .bool cl]) (by simp [results, Tryz.results65, go_sem, u0, u1, u2, u3]) rfl ⟨ba1, bc1, sa1, sc1, ra1, rc1, rfl, HE.out _ _ _ _⟩
end Go.Proofs.YtjidcagklakjaaaGreat
/-
  Channels: CanSend, CanRecv.
-/
open Go Go.RowKit
set_option linter.unusedVariables false
namespace Go.Proofs.YtjidcagklakjaaaGreat
def canS (N : Nat) (C : Ch) : Bool := C.cl || (decide (0 < C.R.length) || decide (C.buf.length < N))
def canR (C : Ch) : Bool := C.cl || (decide (0 < C.S.length) || decide (0 < C.buf.length))
set_option maxRecDepth 100000 in
set_option maxHeartbeats 1000000 in
theorem ccans_any {w0 w : World} {R : List Asr} {p N : Nat} {C : Ch} (h : Own w0 w (ChanA p N C :: R)) :
    Calls Tryz.prog 141 #[.pointer (some ⟨p, 0, none⟩)] w fun r w' => r = .returned (.bool (canS N C)) ∧ ∃ m, w' = w.drewN m := by
  have hh := chas_any h
  have HH := Lib.hid hh
  obtain ⟨ba, bc, sa, sc, ra, rc, h1⟩ := h.chan
  obtain ⟨g3, -⟩ := h1.cel 0 rfl 3 _ rfl
  obtain ⟨g4, -⟩ := h1.cel 0 rfl 4 _ rfl
  obtain ⟨buf, S, Rv, cl⟩ := C
  simp only [ccells] at g3 g4
  clear h h1 hh
  cases cl with
  | true =>
    unfold canS
    simp only [Bool.true_or]
    go_enter Tryz.func141, Tryz.ntmps141
    go_wp2
    go_ret
    exact ⟨rfl, 0, rfl⟩
  | false =>
    cases Rv with
    | cons x t =>
      unfold canS
      simp only [Bool.false_or, List.length_cons, Nat.zero_lt_succ, decide_true, Bool.true_or] at g3 ⊢
      have hp : 0 < t.length + 1 := by omega
      go_enter Tryz.func141, Tryz.ntmps141
      go_wp2
      go_ret
      exact ⟨rfl, 0, rfl⟩
    | nil =>
      unfold canS
      simp only [Bool.false_or, List.length_nil, Nat.lt_irrefl, decide_false] at g3 HH ⊢
      generalize decide (buf.length < N) = bb at *
      go_enter Tryz.func141, Tryz.ntmps141
      go_wp2_with fail
      refine HH.out.mono ?_
      rintro r w1 ⟨rfl, m, rfl⟩
      go_wp2
      go_ret
      exact ⟨rfl, m, rfl⟩
set_option maxRecDepth 100000 in
set_option maxHeartbeats 1000000 in
theorem ccanr_any {w0 w : World} {R : List Asr} {p N : Nat} {C : Ch} (h : Own w0 w (ChanA p N C :: R)) :
    Calls Tryz.prog 140 #[.pointer (some ⟨p, 0, none⟩)] w fun r w' => r = .returned (.bool (canR C)) ∧ w = w' := by
  obtain ⟨ba, bc, sa, sc, ra, rc, h1⟩ := h.chan
  obtain ⟨g1, -⟩ := h1.cel 0 rfl 1 _ rfl
  obtain ⟨g2, -⟩ := h1.cel 0 rfl 2 _ rfl
  obtain ⟨g4, -⟩ := h1.cel 0 rfl 4 _ rfl
  obtain ⟨buf, S, Rv, cl⟩ := C
  simp only [ccells] at g1 g2 g4
  clear h h1
  cases cl with
  | true =>
    unfold canR
    simp only [Bool.true_or]
    go_enter Tryz.func140, Tryz.ntmps140
    go_wp2
    go_ret
    exact ⟨rfl, rfl⟩
  | false =>
    cases S with
    | cons x t =>
      unfold canR
      simp only [Bool.false_or, List.length_cons, Nat.zero_lt_succ, decide_true, Bool.true_or] at g2 ⊢
      have hp : 0 < t.length + 1 := by omega
      go_enter Tryz.func140, Tryz.ntmps140
      go_wp2
      go_ret
      exact ⟨rfl, rfl⟩
    | nil =>
      cases buf with
      | cons y b =>
        unfold canR
        simp only [Bool.false_or, List.length_nil, List.length_cons, Nat.zero_lt_succ, decide_true, Nat.lt_irrefl, decide_false] at g1 g2 ⊢
        have hp : 0 < b.length + 1 := by omega
        go_enter Tryz.func140, Tryz.ntmps140
        go_wp2
        go_ret
        exact ⟨rfl, rfl⟩
      | nil =>
        unfold canR
        simp only [Bool.false_or, List.length_nil, Nat.lt_irrefl, decide_false] at g1 g2 ⊢
        go_enter Tryz.func140, Tryz.ntmps140
        go_wp2
        go_ret
        exact ⟨rfl, rfl⟩
end Go.Proofs.YtjidcagklakjaaaGreat
/-
  Channels: Drop.
-/
open Go Go.RowKit
set_option linter.unusedVariables false
namespace Go.Proofs.YtjidcagklakjaaaGreat
def dropW (g : Int) (l : List Wt) : List Wt := l.filter fun x => !(x.1 == g)
theorem dropW_snoc (g : Int) (l : List Wt) (x : Wt) : dropW g (l ++ [x]) = if x.1 = g then dropW g l else dropW g l ++ [x] := by
  unfold dropW
  rw [List.filter_append]
  by_cases h : x.1 = g <;> simp [h]
theorem dropW_len (g : Int) (l : List Wt) : (dropW g l).length ≤ l.length := List.length_filter_le _ _
theorem dropW_none (g : Int) (l : List Wt) (h : ∀ j (hj : j < l.length), l[j].1 ≠ g) : dropW g l = l := by
  unfold dropW
  rw [List.filter_eq_self]
  intro x hx
  obtain ⟨j, hj, rfl⟩ := List.getElem_of_mem hx
  simpa using h j hj
theorem take_snoc_w (l : List Wt) (k : Nat) (h : k < l.length) : l.take (k + 1) = l.take k ++ [l[k]] := by rw [List.take_add_one, List.getElem?_eq_getElem h]; rfl
theorem wtc_set (l : List Wt) : ∀ (i : Nat) (x : Wt), i < l.length → (((wtc l).set (i * 3) (.int .i64 x.1)).set (i * 3 + 1) (.int .i64 x.2.1)).set (i * 3 + 2) (.int .i64 x.2.2) = wtc (l.set i x) := by
  induction l with
  | nil => intro i y h; simp at h
  | cons x l ih =>
    intro i y h
    cases i with
    | zero => rfl
    | succ i =>
      have := ih i y (by simpa using h)
      rw [wtc_cons, List.set_cons_succ, wtc_cons, show (i + 1) * 3 = i * 3 + 1 + 1 + 1 by omega]
      simp only [List.set_cons_succ]
      rw [this]
/-- clear of a slice. -/
theorem run_clearG {P : Program} {w : World} {s : Nat} (t ty e : TypeId) (z : Value) (ht : P.underlying t = some (.slice e)) (hv : ∀ w, (zeroValue e).run P w = .ok z w) (hzs : z.cells.size = s) (h1 : ∀ u ∈ z.cells.toList, u.oneCell' = true)
    {a : Option Addr} {cap n : Nat} {cs : List Value} (h : RowG s w a cap n cs) (c : Nat) : ∃ w', (Builtin.clear_ #[t] ty #[.slice a n c]).run P w = .ok (.tuple #[]) w' ∧ Chg (blk a) w w' := by
  rcases h.2.2.2 with ⟨rfl, h0⟩ | ⟨b, off, rfl, hlt, h5, h6⟩
  · exact ⟨w, by simp [Builtin.clear_, run_underlying ht], Chg.refl _ _⟩
  · rcases Nat.eq_zero_or_pos n with hn | hn
    · subst hn
      exact ⟨w, by simp [Builtin.clear_, run_underlying ht], Chg.refl _ _⟩
    · have hms : n * s ≤ cap * s := Nat.mul_le_mul_right _ h.2.1
      have hlen : (Builtin.zeroCells z.cells n).toList.length = n * s := by rw [Array.length_toList, size_zeroCells, hzs]
      have hone : ∀ u ∈ (Builtin.zeroCells z.cells n).toList, u.oneCell' = true := fun u hu => by
        unfold Builtin.zeroCells at hu
        rw [Array.mem_toList_iff, Array.mem_map] at hu
        obtain ⟨i, hi, rfl⟩ := hu
        have hp : 0 < z.cells.size := by
          rw [Array.mem_range] at hi
          rcases Nat.eq_zero_or_pos z.cells.size with e | e
          · rw [e] at hi; omega
          · exact e
        have hlt2 := Nat.mod_lt i hp
        rw [getElem!_pos z.cells _ hlt2]
        exact h1 _ (Array.mem_toList_iff.2 (Array.getElem_mem hlt2))
      have hst := run_storeCells_cells (P := P) b off (Builtin.zeroCells z.cells n).toList 0 w (fun j hj => by rw [hlen] at hj; simpa using (h5 j (by omega)).1) (fun j hj => by rw [hlen] at hj; simpa using (h5 j (by omega)).2) hone
      simp only [Nat.add_zero] at hst
      obtain ⟨m, rfl⟩ : ∃ m, n = m + 1 := ⟨n - 1, by omega⟩
      generalize hzl : (Builtin.zeroCells z.cells (m + 1)).toList = zl at *
      exact ⟨w.setCells b off zl, by simp [Builtin.clear_, run_underlying ht, hv, hzl, hst], (Chg.refl _ _).setCells _ _ (.inl (by simp [blk]))⟩
theorem wpList_clearG {P : Program} {w : World} {ops : Array Oper} {rest : List Oper} {o : Oper} {ac : Act} {Q : Exit → Act → World → Prop} (hgd : o.guard = none) (x : Operand) (t : TypeId)
    (ho : o.op = .call { callee := .builtin .clear, args := #[x], argTypes := #[t] }) {v : Value} {w' : World} (hx : ac.eval x = v) (hr : (Builtin.clear_ #[t] o.type #[v]).run P w = .ok (.tuple #[]) w')
    (h : wpList P ops Q rest (ac.put o.dst (.tuple #[])) w') : wpList P ops Q (o :: rest) ac w := by
  refine wpList_plain hgd fun K hK => ?_
  unfold Oper.wp execOp
  simp only [ho, resolve, invoke, builtin, Sem.run_bind, Sem.run_pure, Result.andThen_ok, List.map_toArray, List.map_cons, List.map_nil, hx, hr]
  exact hK _ _ h
set_option maxRecDepth 100000 in
set_option maxHeartbeats 1000000 in
theorem pred_any (x : Wt) (q : Nat) (g : Int) (w : World) (hq : w.cell? ⟨q, 0, none⟩ = some (.int .i64 g)) :
    Calls Tryz.prog 198 #[wv x, .pointer (some ⟨q, 0, none⟩)] w fun r w' => r = .returned (.bool (x.1 == g)) ∧ Below w.heap.size w w' := by
  obtain ⟨x1, x2, x3⟩ := x
  unfold wv
  simp only
  have hql := World.block_lt_of_cell? w _ hq
  go_enter Tryz.func198, Tryz.ntmps198
  go_wp2
  go_ret
  exact ⟨rfl, below_alloc1 _ _⟩
/-- Where the first one is. -/
def IdxW (l : List Wt) (g : Int) (w : World) (r : Ending) (w' : World) : Prop := Below w.heap.size w w' ∧ ((∃ i, ∃ h : i < l.length, r = .returned (.int .i64 (i : Int)) ∧ l[i].1 = g ∧ ∀ j (hj : j < i), (l[j]'(by omega)).1 ≠ g) ∨ (r = .returned (.int .i64 (-1)) ∧ ∀ j (hj : j < l.length), l[j].1 ≠ g))
def clo (q : Nat) : Value := .func (.func 198) #[] #[.pointer (some ⟨q, 0, none⟩)]
set_option maxRecDepth 100000 in
set_option maxHeartbeats 1000000 in
theorem index_any (w : World) (a : Option Addr) (n c : Nat) (l : List Wt) (q : Nat) (g : Int) (h : CellsAt w a (wtc l)) (hn : n = l.length) (hl : n ≤ 100000) (hq : w.cell? ⟨q, 0, none⟩ = some (.int .i64 g)) :
    Calls Tryz.prog 200 #[.slice a n c, clo q] w fun r w' => IdxW l g w r w' := by
  have H := Lib.hid h
  have HN := Lib.hid hn
  have HQ := Lib.hid hq
  clear h hn hq
  unfold clo
  go_enter Tryz.func200, Tryz.ntmps200
  go_wp2_with fail
  go_loopw [8] (fun s wr => ∃ i : Nat, i ≤ n ∧ s = .int .i64 i ∧ Hid (Below w.heap.size w wr ∧ ∀ j (hj : j < i) (hj2 : j < l.length), l[j].1 ≠ g)) (fun s _ => n - (intOf s).toNat)
  case atStart => exact ⟨0, by omega, rfl, Lib.hid ⟨Below.refl _ _, fun j hj => by omega⟩⟩
  case round =>
    obtain ⟨i, hi, rfl, hr⟩ := hrel
    by_cases hlt : i < n
    · have hil : i < l.length := by have := HN.out; omega
      obtain ⟨b, off, rfl, e1, e2, e3⟩ := (H.out.below hr.out.1).wt i hil
      have hp := pred_any l[i] q g wr (cell_below HQ.out hr.out.1)
      have HP := Lib.hid hp
      have hli : (i : Int) < (n : Int) := by omega
      have HI : Hid (l[i]'hil = l[i]'hil) := Lib.hid rfl
      clear hp
      obtain ⟨y, hy⟩ : ∃ y, y = l[i]'hil := ⟨_, rfl⟩
      rw [← hy] at e1 e2 e3 HP
      have HY := Lib.hid hy
      clear hy HI
      obtain ⟨y1, y2, y3⟩ := y
      unfold wv at HP
      simp only at e1 e2 e3 HP
      by_cases hyg : y1 = g
      · have hb : (y1 == g) = true := by rw [beq_iff_eq]; exact hyg
        rw [hb] at HP
        have HF : Hid (∀ w', Below wr.heap.size wr w' → IdxW l g w (.returned (.int .i64 (i : Int))) w') := Lib.hid fun w' hb => ⟨below_on hr.out.1 hb, .inl ⟨i, hil, rfl, by rw [← HY.out]; exact hyg, fun j hj => hr.out.2 j hj (by omega)⟩⟩
        clear hb hyg hr
        go_wp2_with fail
        refine HP.out.mono ?_
        rintro r w3 ⟨rfl, b3⟩
        have HZ := Lib.hid (HF.out _ b3)
        clear b3
        go_wp2
        go_ret
        exact HZ.out
      · have hb : (y1 == g) = false := by rw [beq_eq_false_iff_ne]; exact hyg
        rw [hb] at HP
        have HF : Hid (∀ w', Below wr.heap.size wr w' → Below w.heap.size w w' ∧ ∀ j (hj : j < i + 1) (hj2 : j < l.length), l[j].1 ≠ g) := Lib.hid fun w' hb => ⟨below_on hr.out.1 hb, fun j hj hj2 => by
          by_cases e : j = i
          · subst e; rw [← HY.out]; exact hyg
          · exact hr.out.2 j (by omega) hj2⟩
        clear hb hyg hr
        go_wp2_with fail
        refine HP.out.mono ?_
        rintro r w3 ⟨rfl, b3⟩
        have HZ := Lib.hid (HF.out _ b3)
        clear b3
        go_wp2
        exact ⟨⟨i + 1, by omega, by go_num, HZ⟩, by simp [intOf]; omega⟩
    · have hge : ¬ (i : Int) < (n : Int) := by omega
      have HF : Hid (IdxW l g w (.returned (.int .i64 (-1))) wr) := Lib.hid ⟨hr.out.1, .inr ⟨rfl, fun j hj => hr.out.2 j (by have := HN.out; omega) hj⟩⟩
      clear hr
      go_wp2
      go_ret
      exact HF.out
end Go.Proofs.YtjidcagklakjaaaGreat
