/-
  The walk of what the law SegmentScans hands to Scan.
-/
import Derived.Test.YtklpnkfhcaepiaaW5Scans1
import Derived.Deep.RegionWith
import Derived.Deep.RegionLaw
open Go Go.RowKit
set_option linter.unusedVariables false
namespace Go.Proofs.Ytklpnkfhcaepiaa.segmentScans
/-- Two boxes with a row in each: texts, numbers. -/
def Pair (w0 W : World) (pg pe : Nat) (v u : Value) (n k : Nat) (l : List ByteArray) (m : List Nat) : Prop :=
  Blk W pg [v] ∧ Blk W pe [u] ∧ W.ownsRow w0.heap.size 9 1 v n (strc l) ∧ W.ownsRow w0.heap.size 3 1 u k (i64c m) ∧ pg ≠ pe ∧ v.ownBlock ≠ some pg ∧ v.ownBlock ≠ some pe ∧ u.ownBlock ≠ some pg ∧ u.ownBlock ≠ some pe ∧
    (∀ g, v.ownBlock = some g → u.ownBlock ≠ some g) ∧ w0.heap.size ≤ pg ∧ w0.heap.size ≤ pe ∧ Below w0.heap.size w0 W
def Two (w0 W : World) (pg pe : Nat) (l : List ByteArray) (m : List Nat) : Prop := ∃ v u, Pair w0 W pg pe v u l.length m.length l m
theorem Two.below {w0 W W' : World} {pg pe : Nat} {l : List ByteArray} {m : List Nat} (h : Two w0 W pg pe l m) (hb : Below W.heap.size W W') : Two w0 W' pg pe l m := by
  obtain ⟨v, u, h1, h2, h3, h4, h5, h6, h7, h8, h9, h10, h11, h12, h13⟩ := h
  exact ⟨v, u, h1.below hb, h2.below hb, owns_below h3 hb, owns_below h4 hb, h5, h6, h7, h8, h9, h10, h11, h12, below_on h13 hb⟩
theorem mem_own {v : Value} {g : Nat} : g ∈ v.ownBlock.toList ↔ v.ownBlock = some g := by cases h : v.ownBlock <;> simp [eq_comm]
theorem grow_chg {W Wa w1 : World} {v : Value} (h : Below W.heap.size W Wa) (hg : Wa.grownBy w1 v.ownBlock) : Chg v.ownBlock.toList W w1 :=
  (Chg.of_below h).grown hg (fun x hx => .inl (mem_own.2 hx))
theorem grow_blk {Wa w1 : World} {v x : Value} {g : Nat} (hg : Wa.grownBy w1 v.ownBlock) (hp : Blk Wa g [x]) (hv : v.ownBlock ≠ some g) : Blk w1 g [x] :=
  hp.chg (grow_chg (Below.refl _ _) hg) (fun hx => hv (mem_own.1 hx))
theorem grow_chg' {Wa w1 : World} {v : Value} (hg : Wa.grownBy w1 v.ownBlock) : Chg v.ownBlock.toList Wa w1 := grow_chg (Below.refl _ _) hg
theorem keep_below {W Wa w1 : World} {v : Value} (hg : Wa.grownBy w1 v.ownBlock) (a1 : Below W.heap.size W Wa) : Below W.heap.size W Wa := a1
theorem one_at {W : World} {x : Value} {g : Nat} (h : Blk W g [x]) : ∀ j u, [x][j]? = some u → W.cell? ((⟨g, 0, none⟩ : Addr).add j) = some u := fun j u hj => by
  match j, hj with
  | 0, hj => simp at hj; subst hj; simpa [Addr.add] using (h.at 0 (by simp)).1
theorem Pair.mid {w0 W Wa w1 : World} {pg pe n k : Nat} {l : List ByteArray} {m : List Nat} {v u : Value} (h : Pair w0 W pg pe v u n k l m) (a1 : Below W.heap.size W Wa) (a2 : Wa.grownBy w1 v.ownBlock) :
    Blk w1 pg [v] ∧ Blk w1 pe [u] ∧ w1.ownsRow w0.heap.size 3 1 u k (i64c m) ∧ W.heap.size ≤ w1.heap.size := by
  obtain ⟨h1, h2, h3, h4, h5, h6, h7, h8, h9, h10, h11, h12, h13⟩ := h
  have c := grow_chg a1 a2
  exact ⟨h1.chg c (fun hx => h6 (mem_own.1 hx)), h2.chg c (fun hx => h7 (mem_own.1 hx)), owns_chg h4 c (fun g hg hx => h10 g (mem_own.1 hx) hg), c.size⟩
theorem Pair.mid2 {w0 W Wa w1 Wb w2 : World} {pg pe n k : Nat} {l : List ByteArray} {m : List Nat} {v u : Value} (h : Pair w0 W pg pe v u n k l m) (a1 : Below W.heap.size W Wa) (a2 : Wa.grownBy w1 v.ownBlock) (b1 : Below w1.heap.size w1 Wb) (b2 : Wb.grownBy w2 u.ownBlock) :
    Blk w2 pg [v] ∧ Blk w2 pe [u] := by
  obtain ⟨k1, k2, _⟩ := h.mid a1 a2
  obtain ⟨h1, h2, h3, h4, h5, h6, h7, h8, h9, h10, h11, h12, h13⟩ := h
  have c := grow_chg b1 b2
  exact ⟨k1.chg c (fun hx => h8 (mem_own.1 hx)), k2.chg c (fun hx => h9 (mem_own.1 hx))⟩
theorem Two.fin {w0 W Wa w1 Wb w2 : World} {pg pe g1 c1 n1 g2 c2 n2 n k : Nat} {l l2 : List ByteArray} {m m2 : List Nat} {v u : Value} (h : Pair w0 W pg pe v u n k l m)
    (a1 : Below W.heap.size W Wa) (a2 : Wa.grownBy w1 v.ownBlock) (a3 : w1.ownsRow w0.heap.size 9 1 (.slice (some ⟨g1, 0, none⟩) n1 c1) n1 (strc l2)) (a4 : v.ownBlock = some g1 ∨ g1 = Wa.heap.size) (a5 : n1 = l2.length)
    (b1 : Below w1.heap.size w1 Wb) (b2 : Wb.grownBy w2 u.ownBlock) (b3 : w2.ownsRow w0.heap.size 3 1 (.slice (some ⟨g2, 0, none⟩) n2 c2) n2 (i64c m2)) (b4 : u.ownBlock = some g2 ∨ g2 = Wb.heap.size) (b5 : n2 = m2.length) :
    Two w0 ((w2.setCell ⟨pg, 0, none⟩ (.slice (some ⟨g1, 0, none⟩) n1 c1)).setCell ⟨pe, 0, none⟩ (.slice (some ⟨g2, 0, none⟩) n2 c2)) pg pe l2 m2 := by
  obtain ⟨h1, h2, h3, h4, h5, h6, h7, h8, h9, h10, h11, h12, h13⟩ := h
  subst a5 b5
  have lg := h1.lt (by simp)
  have le := h2.lt (by simp)
  have sa := a1.size
  have sg := a2.size
  have sb := b1.size
  have s13 := h13.size
  have e1 : (Value.slice (some ⟨g1, 0, none⟩) l2.length c1).ownBlock = some g1 := rfl
  have e2 : (Value.slice (some ⟨g2, 0, none⟩) m2.length c2).ownBlock = some g2 := rfl
  have lg1 := (a3.lt g1 rfl)
  have n1 : g1 ≠ pg := by rcases a4 with h | h; · intro e; subst e; exact h6 h
                          · omega
  have n2 : g1 ≠ pe := by rcases a4 with h | h; · intro e; subst e; exact h7 h
                          · omega
  have n3 : u.ownBlock ≠ some g1 := by
    rcases a4 with h | h
    · exact h10 _ h
    · intro hu; have := (h4.lt g1 hu).2; omega
  have n4 : g2 ≠ pg := by rcases b4 with h | h; · intro e; subst e; exact h8 h
                          · omega
  have n5 : g2 ≠ pe := by rcases b4 with h | h; · intro e; subst e; exact h9 h
                          · omega
  have n6 : g1 ≠ g2 := by
    rcases b4 with h | h
    · intro e; subst e; exact n3 h
    · omega
  have c1' := grow_chg a1 a2
  have c2' := grow_chg b1 b2
  have k1 := (h1.chg c1' (fun hx => h6 (mem_own.1 hx))).chg c2' (fun hx => h8 (mem_own.1 hx))
  have k2 := (h2.chg c1' (fun hx => h7 (mem_own.1 hx))).chg c2' (fun hx => h9 (mem_own.1 hx))
  have k3 := owns_chg a3 c2' (fun g hg hx => by rw [e1] at hg; cases hg; exact n3 (mem_own.1 hx))
  have cset : Chg [pg, pe] w2 ((w2.setCell ⟨pg, 0, none⟩ (.slice (some ⟨g1, 0, none⟩) l2.length c1)).setCell ⟨pe, 0, none⟩ (.slice (some ⟨g2, 0, none⟩) m2.length c2)) := ((Chg.refl _ _).setCell _ (.inl (by simp))).setCell _ (.inl (by simp))
  refine ⟨_, _, (k1.set 0 (.slice (some ⟨g1, 0, none⟩) l2.length c1)).setFar h5, (k2.setFar (fun e => h5 e.symm)).set 0 (.slice (some ⟨g2, 0, none⟩) m2.length c2), ?_, ?_, h5, ?_, ?_, ?_, ?_, ?_, h11, h12, ?_⟩
  · exact owns_chg k3 cset (fun g hg => by rw [e1] at hg; cases hg; simp [n1, n2])
  · exact owns_chg b3 cset (fun g hg => by rw [e2] at hg; cases hg; simp [n4, n5])
  · rw [e1]; simpa using n1
  · rw [e1]; simpa using n2
  · rw [e2]; simpa using n4
  · rw [e2]; simpa using n5
  · intro g hg; rw [e1] at hg; cases hg; rw [e2]; simp; omega
  · have q1 := Chg.below h13 c1' (fun x hx => (h3.lt x (mem_own.1 hx)).1)
    have q2 := Chg.below q1 c2' (fun x hx => (h4.lt x (mem_own.1 hx)).1)
    exact Chg.below q2 cset (fun x hx => by simp at hx; omega)
theorem info_int : (Try.prog.info? 3).map (fun i => (i.zero, i.size, i.bytes)) = some (some (.int .i64 0), 1, 8) := by kernel_rfl
/-- What it answers, and leaves. -/
def SeeP (w0 : World) (pg pe : Nat) (l : List ByteArray) (m : List Nat) (stop : Int) (b : ByteArray) (e : Nat) (r : Ending) (W' : World) : Prop :=
  (r = .returned (.bool true) ∧ stop ≠ (l.length : Int) ∧ Two w0 W' pg pe (l ++ [b]) (m ++ [e])) ∨ (r = .returned (.bool false) ∧ stop = (l.length : Int) ∧ Two w0 W' pg pe l m)
/-- What see_any says (W5Scans4). -/
def SeeAny : Prop := ∀ (w0 W : World) (pg pe ps : Nat) (l : List ByteArray) (m : List Nat) (stop : Int) (b : ByteArray) (e : Nat), Two w0 W pg pe l m → l.length ≤ 1000000 → m.length ≤ 1000001 → W.cell? ⟨ps, 0, none⟩ = some (.int .i64 stop) →
    Calls Try.prog 20 #[.string b, .int .i64 (e : Int), .pointer (some ⟨pg, 0, none⟩), .pointer (some ⟨ps, 0, none⟩), .pointer (some ⟨pe, 0, none⟩)] W (SeeP w0 pg pe l m stop b e)
end Go.Proofs.Ytklpnkfhcaepiaa.segmentScans
