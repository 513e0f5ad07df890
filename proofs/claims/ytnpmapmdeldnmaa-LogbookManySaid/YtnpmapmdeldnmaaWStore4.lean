/-
  The store's calls as the laws see them: one store beside what was there ahead; the laws' awake.
-/
import Derived.Test.YtnpmapmdeldnmaaWStore3
import Derived.Deep.RegionHeld3
import Derived.Deep.DrawnRows
open Go Go.RowKit
set_option linter.unusedVariables false
namespace Go.Proofs.Ytnpmapmdeldnmaa
attribute [local go_sem ↓] Go.wp_at_zero Go.wp_at_succ
/-- A store at p, all of it made behind w0. -/
def Inv (w0 w : World) (p : Nat) (s : SSt) : Prop := ∃ F, StoreAt w p s F ∧ (∀ x ∈ F, w0.heap.size ≤ x) ∧ Below w0.heap.size w0 w
theorem Inv.step {w0 w w' : World} {p : Nat} {s : SSt} (h : Inv w0 w p s) (hb : Below w.heap.size w w') : Inv w0 w' p s := by
  obtain ⟨F, h1, h2, h3⟩ := h
  exact ⟨F, h1.chg (Chg.of_below (F := []) hb) (fun _ _ => by simp), h2, below_on h3 hb⟩
theorem Inv.chg {w0 w w' : World} {p : Nat} {s s' : SSt} (h : Inv w0 w p s) (hx : ∀ F, StoreAt w p s F → StoreAt w' p s' F ∧ Chg F w w') : Inv w0 w' p s' := by
  obtain ⟨F, h1, h2, h3⟩ := h
  obtain ⟨g1, g2⟩ := hx F h1
  exact ⟨F, g1, h2, Chg.below h3 g2 h2⟩
theorem Inv.bel {w0 w : World} {p : Nat} {s : SSt} (h : Inv w0 w p s) : Below w0.heap.size w0 w := by obtain ⟨F, h1, h2, h3⟩ := h; exact h3
theorem inv_new (r : Int) (w0 w : World) (h0 : Below w0.heap.size w0 w) (h1 : -9223372036854775808 ≤ r) (h2 : r ≤ 9223372036854775807) :
    Calls Try.prog 5 #[.int .i64 r] w fun e w' => e = .returned (.pointer (some ⟨w.heap.size, 0, none⟩)) ∧ Inv w0 w' w.heap.size (SSt.new r) :=
  (snew_any r w h1 h2).mono fun e w' ⟨he, hs, hc⟩ => ⟨he, _, hs, fun x hx => by simp at hx; rw [hx]; exact h0.size, below_on h0 hc.to_below0⟩
theorem inv_append {w0 w : World} {p : Nat} {s : SSt} (h : Inv w0 w p s) (t : ByteArray) (ht : s.bs.length + t.size ≤ 140737488355328) :
    Calls Try.prog 13 #[.pointer (some ⟨p, 0, none⟩), .string t] w fun e w' => e = .returned (.int .i64 (s.appendE t.data.toList)) ∧ Inv w0 w' p (s.append t.data.toList) := by
  obtain ⟨F, h1, h2, h3⟩ := h
  refine (sapp_any p s F t w h1 ht).mono ?_
  rintro e w' ⟨he, hc, F', hs, hF⟩
  refine ⟨he, F', hs, fun x hx => ?_, Chg.below h3 hc h2⟩
  rcases hF x hx with h4 | h4
  · exact h2 x h4
  · exact Nat.le_trans h3.size h4
theorem inv_sync {w0 w : World} {p : Nat} {s : SSt} (h : Inv w0 w p s) :
    Calls Try.prog 22 #[.pointer (some ⟨p, 0, none⟩)] w fun e w' => e = .returned (.int .i64 s.syncE) ∧ Inv w0 w' p s.sync := by
  obtain ⟨F, h1, h2, h3⟩ := h
  exact (sync_any p s F w h1).mono fun e w' ⟨he, hs, hc⟩ => ⟨he, F, hs, h2, Chg.below h3 hc h2⟩
theorem inv_bytes {w0 w : World} {p : Nat} {s : SSt} (h : Inv w0 w p s) :
    Calls Try.prog 16 #[.pointer (some ⟨p, 0, none⟩)] w fun e w' => e = .returned (.string ⟨s.bs.toArray⟩) ∧ w = w' := by
  obtain ⟨F, h1, h2, h3⟩ := h; exact sbytes_any p s F w h1
theorem inv_len {w0 w : World} {p : Nat} {s : SSt} (h : Inv w0 w p s) :
    Calls Try.prog 17 #[.pointer (some ⟨p, 0, none⟩)] w fun e w' => e = .returned (.int .i64 (s.bs.length : Int)) ∧ w = w' := by
  obtain ⟨F, h1, h2, h3⟩ := h; exact slen_any p s F w h1

def aw1 : SSt := (SSt.new 20).append [97, 98]
def aw2 : SSt := aw1.sync
def aw3 : SSt := aw2.append [99, 100, 101]
def aw4 : SSt := aw3.crash 2 [120]
theorem aw1_e : (SSt.new 20).appendE [97, 98] = 0 := by decide +kernel
theorem aw2_e : aw1.syncE = 0 := by decide +kernel
theorem aw3_e : aw2.appendE [99, 100, 101] = 0 := by decide +kernel
theorem aw4_b : aw4.bs = [97, 98, 120, 100] := by decide +kernel
theorem aw4_s : aw4.safe = 4 := by decide +kernel
end Go.Proofs.Ytnpmapmdeldnmaa
