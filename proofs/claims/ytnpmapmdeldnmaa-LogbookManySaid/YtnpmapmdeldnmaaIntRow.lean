/-
  Rows of numbers in memory. No program is named here.
-/
import Derived.Test.YtnpmapmdeldnmaaFrame
open Go Go.RowKit
set_option linter.unusedVariables false
namespace Go.Proofs.Ytnpmapmdeldnmaa
def i64c (l : List Nat) : List Value := l.map fun (n : Nat) => .int .i64 (n : Int)
theorem i64c_len (l : List Nat) : (i64c l).length = l.length := by unfold i64c; rw [List.length_map]
theorem i64c_app (l m : List Nat) : i64c (l ++ m) = i64c l ++ i64c m := by unfold i64c; rw [List.map_append]
theorem i64c_at (l : List Nat) (i : Nat) (h : i < l.length) : (i64c l)[i]? = some (.int .i64 (l[i] : Int)) := by unfold i64c; rw [List.getElem?_map, List.getElem?_eq_getElem h]; rfl
/-- Numbers in memory, behind one another, from a on. -/
def NatsAt (w : World) (a : Option Addr) (l : List Nat) : Prop := ∀ i (h : i < l.length), ∃ b off, a = some ⟨b, off, none⟩ ∧ w.cell? ⟨b, off + i, none⟩ = some (.int .i64 (l[i] : Int))
theorem NatsAt.below {w w' : World} {a : Option Addr} {l : List Nat} (h : NatsAt w a l) (hb : Below w.heap.size w w') : NatsAt w' a l := fun i hi => by
  obtain ⟨b, off, h1, h2⟩ := h i hi
  exact ⟨b, off, h1, cell_below h2 hb⟩
theorem NatsAt.of_own {w : World} {base n : Nat} {e : TypeId} {v : Value} {l : List Nat} (h : w.ownsRow base e 1 v n (i64c l)) (hn : n = l.length) :
    ∃ a cap, v = .slice a l.length cap ∧ l.length ≤ cap ∧ cap ≤ maxLen ∧ NatsAt w a l := by
  subst hn
  rcases h.2 with ⟨rfl, h0⟩ | ⟨g, cap, cur, rfl, _, hg, hn, hm, hs, hx⟩
  · have : l = [] := List.length_eq_zero_iff.1 h0
    subst this
    exact ⟨none, 0, rfl, Nat.le_refl _, Nat.zero_le _, fun i h => by simp at h⟩
  · refine ⟨_, cap, rfl, hn, hm, fun i hi => ⟨g, 0, rfl, ?_⟩⟩
    have := i64c_at l i hi
    rw [← hx, List.getElem?_take_of_lt (by omega)] at this
    simp [World.cell?, hg]; simpa using this
theorem StrsAt.chg {F : List Nat} {w w' : World} {a : Option Addr} {l : List ByteArray} (h : StrsAt w a l) (c : Chg F w w') (hb : ∀ x ∈ F, ∀ b off, a = some ⟨b, off, none⟩ → b ≠ x) : StrsAt w' a l := fun i hi => by
  obtain ⟨b, off, h1, h2⟩ := h i hi
  exact ⟨b, off, h1, cell_chg h2 c (fun hx => hb b hx b off h1 rfl)⟩
theorem one_new (W : World) (x : Value) (t : TypeId) {b : Nat} (hb : b = W.heap.size) : ∀ j u, [x][j]? = some u → (W.alloc (.cells #[x] t)).cell? ((⟨b, 0, none⟩ : Addr).add j) = some u := fun j u hj => by
  subst hb
  match j, hj with
  | 0, hj => simp at hj; subst hj; simp [Addr.add]
theorem one_one (x : Value) (h : x.oneCell' = true) : ∀ u ∈ [x], u.oneCell' = true := fun u hu => by simp at hu; subst hu; exact h
/-- A box at block p, and in it a row of the call's own. -/
def BoxRow (w : World) (base p : Nat) (e : TypeId) (size n : Nat) (xs : List Value) : Prop := ∃ v, v.ownBlock ≠ some p ∧ Blk w p [v] ∧ w.ownsRow base e size v n xs
theorem owns_below {w w' : World} {base n size : Nat} {e : TypeId} {v : Value} {xs : List Value} (h : w.ownsRow base e size v n xs) (hb : Below w.heap.size w w') : w'.ownsRow base e size v n xs :=
  owns_chg (F := []) h (Chg.of_below hb) (fun g _ hx => by simp at hx)
theorem BoxRow.below {w w' : World} {base p n size : Nat} {e : TypeId} {xs : List Value} (h : BoxRow w base p e size n xs) (hb : Below w.heap.size w w') : BoxRow w' base p e size n xs := by
  obtain ⟨v, h1, h2, h3⟩ := h
  exact ⟨v, h1, h2.below hb, owns_below h3 hb⟩
theorem BoxRow.push {w0 w1 w2 w3 : World} {p n n' size g' cap' H base : Nat} {e : TypeId} {xs ys : List Value} {v : Value} (hB : Below w0.heap.size w0 w2) (hbase : w0.heap.size ≤ base) (hp0 : w0.heap.size ≤ p) (hv : v.ownBlock ≠ some p) (hblk : Blk w2 p [v]) (hown : w2.ownsRow base e size v n xs)
    (hb1 : Below w2.heap.size w2 w1) (hgrow : w1.grownBy w3 v.ownBlock) (hown' : w3.ownsRow base e size (.slice (some ⟨g', 0, none⟩) n' cap') n' ys) (hg' : v.ownBlock = some g' ∨ g' = H) (hH : w1.heap.size ≤ H) :
    (w3.cell? ⟨p, 0, none⟩ = some v ∧ w3.frozen? ⟨p, 0, none⟩ = false) ∧ BoxRow (w3.setCell ⟨p, 0, none⟩ (.slice (some ⟨g', 0, none⟩) n' cap')) base p e size n' ys ∧
      Below w0.heap.size w0 (w3.setCell ⟨p, 0, none⟩ (.slice (some ⟨g', 0, none⟩) n' cap')) ∧ Chg (p :: v.ownBlock.toList) w2 (w3.setCell ⟨p, 0, none⟩ (.slice (some ⟨g', 0, none⟩) n' cap')) := by
  have hpl : p < w2.heap.size := hblk.lt (by simp)
  have hs1 := hb1.size
  have hgp : g' ≠ p := by
    rcases hg' with h | h
    · intro hc; subst hc; exact hv h
    · omega
  have c1 : Chg v.ownBlock.toList w2 w1 := Chg.of_below hb1
  have c2 : Chg v.ownBlock.toList w2 w3 := c1.grown hgrow (fun x hx => .inl (by rw [hx]; simp))
  have hpn : p ∉ v.ownBlock.toList := by
    intro hx
    cases hvb : v.ownBlock with
    | none => rw [hvb] at hx; simp at hx
    | some g => rw [hvb] at hx; simp at hx; subst hx; exact hv hvb
  have hblk3 := hblk.chg c2 hpn
  have hset := hblk3.set 0 (.slice (some ⟨g', 0, none⟩) n' cap')
  have c3 : Chg (p :: v.ownBlock.toList) w2 (w3.setCell ⟨p, 0, none⟩ (.slice (some ⟨g', 0, none⟩) n' cap')) := (c2.mono (fun x hx => by simp; right; simpa using hx)).setCell _ (.inl (by simp))
  refine ⟨hblk3.at 0 (by simp), ⟨_, ?_, hset, ?_⟩, ?_, c3⟩
  · simpa [Value.ownBlock] using hgp
  · exact owns_chg hown' ((Chg.refl [p] w3).setCell _ (.inl (by simp))) (fun g hg => by simp [Value.ownBlock] at hg; simp; omega)
  · refine Chg.below hB c3 (fun x hx => ?_)
    simp at hx
    rcases hx with rfl | hx
    · exact hp0
    · exact Nat.le_trans hbase (hown.lt x hx).1
end Go.Proofs.Ytnpmapmdeldnmaa
