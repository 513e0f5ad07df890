/-
  Sources in memory; the walks of Left, Draw.
-/
import Derived.Test.YtkjhaofodlpnmaaWSrc2
import Derived.Test.YtkjhaofodlpnmaaSegP
import Derived.Test.YtkjhaofodlpnmaaSegY
open Go Go.RowKit
set_option linter.unusedVariables false
namespace Go.Proofs.Ytkjhaofodlpnmaa
/-- Who draws: of an oracle, a tape, a chain. -/
def drawer (k : Nat) : Nat := if k = 0 then 18 else 20
def recv (k : Nat) (t n : Value) : Value := if k = 0 then n else if k = 1 then t else .agg #[t, n]
/-- An oracle has no decisions, a tape no numbers. -/
def Src.fits (S : Src) (k : Nat) : Prop := (k = 0 → S.tape = []) ∧ (k = 1 → S.nums = []) ∧ k ≤ 1
theorem drawer_enter (k : Nat) (args : Array Value) (w : World) : (callFunc (drawer k) args).run Try.prog w = .ok (.enter (drawer k) args) w := by
  unfold drawer
  split
  · kernel_rfl
  · first
      | kernel_rfl
      | (split <;> kernel_rfl)
def scells (k : Nat) (S : Src) (ta : Option Addr) (tc : Nat) (na : Option Addr) (nc : Nat) (ka : Option Addr) (kc : Nat) (see : Value) : List Value :=
  [.func (.func (drawer k)) #[recv k (.slice ta S.tape.length tc) (.slice na S.nums.length nc)] #[], .int .i64 (S.many : Int), .slice ka S.taken.length kc, see]
def sparts (p k : Nat) (S : Src) (see : Value) (ta : Option Addr) (tc : Nat) (na : Option Addr) (nc : Nat) (ka : Option Addr) (kc : Nat) : List Asr :=
  [CelA p (scells k S ta tc na nc ka kc see), RowGA 2 ka kc S.taken.length (recCells S.taken), RowGA 2 ta tc S.tape.length (recCells S.tape), RowGA 1 na nc S.nums.length (numc S.nums)]
def SrcA (p k : Nat) (S : Src) (see : Value) : Asr where
  at_ w F := ∃ ta tc na nc ka kc, Sep w (sparts p k S see ta tc na nc ka kc) F
  lt := by rintro w F ⟨_, _, _, _, _, _, h⟩; exact h.lt
  chg := by
    rintro w w' F G ⟨ta, tc, na, nc, ka, kc, h⟩ c hd
    exact ⟨ta, tc, na, nc, ka, kc, h.chg c hd⟩
theorem Own.src {w0 w : World} {p k : Nat} {S : Src} {see : Value} {R : List Asr} (h : Own w0 w (SrcA p k S see :: R)) : ∃ ta tc na nc ka kc, Own w0 w (CelA p (scells k S ta tc na nc ka kc see) :: RowGA 2 ka kc S.taken.length (recCells S.taken) :: RowGA 2 ta tc S.tape.length (recCells S.tape) :: RowGA 1 na nc S.nums.length (numc S.nums) :: R) := by
  obtain ⟨As, ⟨ta, tc, na, nc, ka, kc, rfl⟩, h1⟩ := Own.unfold h (P := fun As => ∃ ta tc na nc ka kc, As = sparts p k S see ta tc na nc ka kc) (fun F ⟨ta, tc, na, nc, ka, kc, h⟩ => ⟨_, ⟨ta, tc, na, nc, ka, kc, rfl⟩, h⟩)
  exact ⟨ta, tc, na, nc, ka, kc, h1⟩
theorem Own.srcBack {w0 w : World} {p k : Nat} {S : Src} {see : Value} {R : List Asr} {ta na ka : Option Addr} {tc nc kc : Nat} (h : Own w0 w (CelA p (scells k S ta tc na nc ka kc see) :: RowGA 2 ka kc S.taken.length (recCells S.taken) :: RowGA 2 ta tc S.tape.length (recCells S.tape) :: RowGA 1 na nc S.nums.length (numc S.nums) :: R)) : Own w0 w (SrcA p k S see :: R) :=
  Own.fold (As := sparts p k S see ta tc na nc ka kc) h (fun F hF => ⟨ta, tc, na, nc, ka, kc, hF⟩)
set_option maxRecDepth 100000 in
set_option maxHeartbeats 1000000 in
theorem sleft_any {w0 w : World} {R : List Asr} {p k : Nat} {S : Src} {see : Value} (h : Own w0 w (SrcA p k S see :: R)) (hm : S.many < 9223372036854775808) (ht : S.taken.length ≤ S.many) :
    Calls Try.prog 16 #[.pointer (some ⟨p, 0, none⟩)] w fun r w' => r = .returned (.int .i64 ((S.many - S.taken.length : Nat) : Int)) ∧ ∃ m, w' = w.drewN m := by
  obtain ⟨ta, tc, na, nc, ka, kc, h⟩ := h.src
  obtain ⟨g1, -⟩ := h.cel 0 rfl 1 _ rfl
  obtain ⟨g2, -⟩ := h.cel 0 rfl 2 _ rfl
  generalize S.taken.length = n at *
  generalize S.many = m at *
  have hs : (m : Int) - (n : Int) = ((m - n : Nat) : Int) := by omega
  have hw : IntKind.i64.wrap ((m - n : Nat) : Int) = ((m - n : Nat) : Int) := by rw [IntKind.wrap_i64]; omega
  generalize m - n = d at *
  clear h hm ht
  go_enter Try.func16, Try.ntmps16
  go_wp2_with fail
  go_quiet (fail)
  go_wp2
  go_ret
  exact ⟨ret_int (by simp), _, rfl⟩
theorem draw_any {w : World} {k : Nat} {S : Src} (hS : S.ok) (hf : S.fits k) (ta na : Option Addr) (tc nc : Nat) (ht : CellsAt w ta (recCells S.tape)) (hn : CellsAt w na (numc S.nums)) (i : Nat) (hi : i < S.many) (kind : Int) (n : Nat) (hn1 : 1 ≤ n) (hn2 : n < 9223372036854775808) (hm : S.many < 9223372036854775808) :
    Calls Try.prog (drawer k) #[recv k (.slice ta S.tape.length tc) (.slice na S.nums.length nc), .int .i64 (i : Int), .int .i64 kind, .int .i64 (n : Int)] w (Drawn w S i kind n) := by
  unfold drawer recv
  by_cases h0 : k = 0
  · rw [if_pos h0, if_pos h0]
    have e := hf.1 h0
    unfold Src.many at hi
    rw [e] at hi
    simp only [List.length_nil, Nat.zero_add] at hi
    refine (oracle_any w na nc S.nums hn hS.2 i hi kind n hn1 hn2).mono (fun r w2 h2 => ?_)
    obtain ⟨h2, rfl⟩ := h2
    exact Drawn.num (by rw [e]; simp) (by rw [e]; simpa using hi) (Below.refl _ _) (by rw [h2]; simp [e])
  · rw [if_neg h0, if_neg h0]
    by_cases h1 : k = 1
    · rw [if_pos h1]
      have e := hf.2.1 h1
      unfold Src.many at hi
      rw [e] at hi
      simp only [List.length_nil, Nat.add_zero] at hi
      exact (tape_any w ta tc S.tape ht hS.1 i hi kind n hn1 hn2).mono (fun r w2 h2 => h2.drawn hi)
    · have := hf.2.2; omega
end Go.Proofs.Ytkjhaofodlpnmaa
