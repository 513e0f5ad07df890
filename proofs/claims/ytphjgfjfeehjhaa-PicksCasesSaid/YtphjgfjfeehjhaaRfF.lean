/-
  The document's channels in a row.
-/
import Derived.Test.YtphjgfjfeehjhaaPkF
import Derived.Test.YtphjgfjfeehjhaaWDoes
open Go Go.RowKit
set_option linter.unusedVariables false
namespace Go.Proofs.Ytphjgfjfeehjhaa
/-- A channel of the document's, as it lies. -/
structure Rf where
  N : Nat
  C : Ch
  ba : Option Addr
  bc : Nat
  sa : Option Addr
  sc : Nat
  ra : Option Addr
  rc : Nat
def rfc (x : Rf) : List Value := [.int .i64 (x.N : Int), .slice x.ba x.C.buf.length x.bc, .slice x.sa x.C.S.length x.sc, .slice x.ra x.C.R.length x.rc, .bool x.C.cl]
def Rf.At (w : World) (x : Rf) : Prop := RefAt w x.ba x.bc x.sa x.sc x.ra x.rc x.C
def Rf.In (rs : List Rw) (x : Rf) : Prop := RefIn rs x.ba x.bc x.sa x.sc x.ra x.rc x.C
theorem Rf.In.mono {rs rs' : List Rw} {x : Rf} (h : x.In rs) (hm : ∀ q ∈ rs, q ∈ rs') : x.In rs' := ⟨hm _ h.1, hm _ h.2.1, hm _ h.2.2⟩
def rfs (xs : List Rf) : List Value := xs.flatMap rfc
theorem rfs_len (xs : List Rf) : (rfs xs).length = xs.length * 5 := flat_len rfc 5 (fun _ => rfl) xs
theorem rfs_one (xs : List Rf) : ∀ v ∈ rfs xs, v.oneCell' = true := fun v hv => by
  unfold rfs rfc at hv
  rw [List.mem_flatMap] at hv
  obtain ⟨x, _, hx⟩ := hv
  simp at hx
  rcases hx with rfl | rfl | rfl | rfl | rfl <;> rfl
/-- They are the program's: the same rooms, the same in them. -/
def Alike (ps : List Pl) (Cs : List Ch) (xs : List Rf) : Prop := xs.map (·.N) = ps.map (·.2) ∧ xs.map (·.C) = Cs
theorem Alike.len {ps : List Pl} {Cs : List Ch} {xs : List Rf} (h : Alike ps Cs xs) : xs.length = ps.length ∧ xs.length = Cs.length := by
  constructor
  · have := congrArg List.length h.1; simpa using this
  · have := congrArg List.length h.2; simpa using this
theorem Alike.at {ps : List Pl} {Cs : List Ch} {xs : List Rf} (h : Alike ps Cs xs) {i : Nat} {x : Rf} (hx : xs[i]? = some x) : Cs[i]? = some x.C ∧ ∃ p, ps[i]? = some (p, x.N) := by
  constructor
  · rw [← h.2, List.getElem?_map, hx]; rfl
  · have h1 : (ps.map (·.2))[i]? = some x.N := by rw [← h.1, List.getElem?_map, hx]; rfl
    rw [List.getElem?_map] at h1
    cases hp : ps[i]? with
    | none => rw [hp] at h1; cases h1
    | some p => rw [hp] at h1; obtain ⟨a, b⟩ := p; simp at h1; subst h1; exact ⟨a, rfl⟩
theorem Alike.set {ps : List Pl} {Cs : List Ch} {xs : List Rf} (h : Alike ps Cs xs) {i : Nat} {x y : Rf} (hx : xs[i]? = some x) (hN : y.N = x.N) : Alike ps (Cs.set i y.C) (xs.set i y) := by
  refine ⟨?_, by rw [List.map_set, h.2]⟩
  rw [List.map_set, h.1, set_same]
  rw [← h.1, List.getElem?_map, hx, hN]; rfl
/-- The goes of one. -/
theorem goesB_ref {ps : List Pl} {Cs : List Ch} {xs : List Rf} (h : Alike ps Cs xs) {i : Nat} {x : Rf} (hx : xs[i]? = some x) (k1 k3 : Int) : goesB ps Cs (k1, (i : Int), k3) = if k1 = 0 then canR x.C else if k1 = 1 then canS x.N x.C else false := by
  obtain ⟨h1, p, h2⟩ := h.at hx
  unfold goesB; simp [h1, h2]
/-- A channel of the row, read. -/
theorem CellsAt.rf {w : World} {a : Option Addr} {xs : List Rf} (h : CellsAt w a (rfs xs)) {i : Nat} {x : Rf} (hx : xs[i]? = some x) : ∃ b off, a = some ⟨b, off, none⟩ ∧ w.cell? ⟨b, off + i * 5, none⟩ = some (.int .i64 (x.N : Int)) ∧ w.cell? ⟨b, off + i * 5 + 1, none⟩ = some (.slice x.ba x.C.buf.length x.bc) ∧ w.cell? ⟨b, off + i * 5 + 2, none⟩ = some (.slice x.sa x.C.S.length x.sc) ∧ w.cell? ⟨b, off + i * 5 + 3, none⟩ = some (.slice x.ra x.C.R.length x.rc) ∧ w.cell? ⟨b, off + i * 5 + 4, none⟩ = some (.bool x.C.cl) := by
  obtain ⟨hi, rfl⟩ := List.getElem?_eq_some_iff.1 hx
  obtain ⟨b, off, rfl, e⟩ := CellsAt.rec (f := rfc) (s := 5) (fun _ => rfl) h i hi (by omega)
  exact ⟨b, off, rfl, e 0 _ rfl, e 1 _ rfl, e 2 _ rfl, e 3 _ rfl, e 4 _ rfl⟩
theorem Own.pool {w0 w : World} {As : List Asr} {rs : List Rw} (h : Own w0 w As) (i : Nat) (hi : As[i]? = some (PoolR rs)) {x : Rf} (hx : x.In rs) : x.At w := h.refGet i hi hx
/-- A row's record is another one. -/
theorem Own.rfSet {w0 w : World} {As : List Asr} {b off cap n : Nat} {xs : List Rf} (h : Own w0 w (RowGA 5 (some ⟨b, off, none⟩) cap n (rfs xs) :: As)) (i : Nat) (y : Rf) (hi : i < xs.length) :
    Own w0 (((((w.setCell ⟨b, off + i * 5, none⟩ (.int .i64 (y.N : Int))).setCell ⟨b, off + i * 5 + 1, none⟩ (.slice y.ba y.C.buf.length y.bc)).setCell ⟨b, off + i * 5 + 2, none⟩ (.slice y.sa y.C.S.length y.sc)).setCell ⟨b, off + i * 5 + 3, none⟩ (.slice y.ra y.C.R.length y.rc)).setCell ⟨b, off + i * 5 + 4, none⟩ (.bool y.C.cl)) (RowGA 5 (some ⟨b, off, none⟩) cap n (rfs (xs.set i y)) :: As) := by
  have hl := rfs_len xs
  have e := flat_set rfc 5 (fun _ => rfl) xs i y hi
  have h1 := h.rowSet (i * 5) (.int .i64 (y.N : Int)) (by omega)
  have h2 := h1.rowSet (i * 5 + 1) (.slice y.ba y.C.buf.length y.bc) (by simp; omega)
  have h3 := h2.rowSet (i * 5 + 2) (.slice y.sa y.C.S.length y.sc) (by simp; omega)
  have h4 := h3.rowSet (i * 5 + 3) (.slice y.ra y.C.R.length y.rc) (by simp; omega)
  have h5 := h4.rowSet (i * 5 + 4) (.bool y.C.cl) (by simp; omega)
  simp only [← Nat.add_assoc] at h5
  have e2 : rfs (xs.set i y) = (((((rfs xs).set (i * 5) (.int .i64 (y.N : Int))).set (i * 5 + 1) (.slice y.ba y.C.buf.length y.bc)).set (i * 5 + 2) (.slice y.sa y.C.S.length y.sc)).set (i * 5 + 3) (.slice y.ra y.C.R.length y.rc)).set (i * 5 + 4) (.bool y.C.cl) := by
    unfold rfs; rw [← e]; rfl
  rw [e2]
  exact h5
end Go.Proofs.Ytphjgfjfeehjhaa
