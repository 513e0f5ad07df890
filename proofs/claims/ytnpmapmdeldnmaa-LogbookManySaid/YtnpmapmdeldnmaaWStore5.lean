/-
  The walk of a store's Cut.
-/
import Derived.Test.YtnpmapmdeldnmaaWStore3
open Go Go.RowKit
set_option linter.unusedVariables false
namespace Go.Proofs.Ytnpmapmdeldnmaa
theorem ownBlock_any (a : Option Addr) (n m c d : Nat) : Value.ownBlock (.slice a n c) = Value.ownBlock (.slice a m d) := by cases a <;> rfl
def SSt.cut (s : SSt) (n : Nat) : SSt := if s.may then { s.call with bs := s.bs.take n, safe := min s.safe n } else s.call
def SSt.cutE (s : SSt) : Int := if s.may then 0 else 8
set_option maxRecDepth 100000 in
set_option maxHeartbeats 1000000 in
theorem scut_any (p : Nat) (s : SSt) (F : List Nat) (n : Nat) (w : World) (h : StoreAt w p s F) (hn : n ≤ s.bs.length) :
    Calls Try.prog 18 #[.pointer (some ⟨p, 0, none⟩), .int .i64 (n : Int)] w fun e w' => e = .returned (.int .i64 s.cutE) ∧ StoreAt w' p (s.cut n) F ∧ Chg F w w' := by
  have hlet := let_any p s F w h
  obtain ⟨a0, cap0, _, _, hb0, _, hok0, hc0, _⟩ := h.open
  obtain ⟨⟨g0, _, _, _, _, _⟩, _⟩ := s.at hb0
  have hl47 := hok0.2.2.2.2
  clear hok0 hb0 hc0
  cases hm : s.may
  · have e1 : s.cutE = 8 := by simp [SSt.cutE, hm]
    have e2 : s.cut n = s.call := by simp [SSt.cut, hm]
    rw [hm] at hlet
    have E1 := Lib.hid e1; clear e1
    have E2 := Lib.hid e2; clear e2 hm
    have HL := Lib.hid hlet; clear hlet h
    go_enter Try.func18, Try.ntmps18
    go_wp2_with fail
    refine HL.out.mono ?_
    rintro e w1 ⟨rfl, h1, c1⟩
    have H1 := Lib.hid h1; clear h1
    have C1 := Lib.hid c1; clear c1
    go_wp2
    go_ret
    exact ⟨ret_int E1.out.symm, by rw [E2.out]; exact H1.out, C1.out⟩
  · have e1 : s.cutE = 0 := by simp [SSt.cutE, hm]
    have e2 : s.cut n = { s.call with bs := s.bs.take n, safe := min s.safe n } := by simp [SSt.cut, hm]
    rw [hm] at hlet
    have E1 := Lib.hid e1; clear e1
    have E2 := Lib.hid e2; clear e2 hm
    have HL := Lib.hid hlet; clear hlet h
    obtain ⟨cb1, cb2, cb3⟩ := s.call_bs
    have CB := Lib.hid (And.intro cb1 (And.intro cb2 cb3)); clear cb1 cb2 cb3
    by_cases hsn : s.safe ≤ n
    all_goals
      go_enter Try.func18, Try.ntmps18
      go_wp2_with fail
      refine HL.out.mono ?_
      rintro e w1 ⟨rfl, h1, c1⟩
      obtain ⟨a, cap, hF, hne, hblk, hown, hok, hcap, hnil⟩ := h1.open
      rw [CB.out.1] at hblk hown hcap hne hF
      obtain ⟨⟨k0, k1, k2, k3, k4, k5⟩, f0, f1, f3, f4, f5⟩ := s.call.at hblk
      rw [CB.out.2.1] at k1
      have hsl : ∀ w', (Instr.slice 48 (.slice a s.bs.length cap) none (some (.int .i64 (n : Int))) none).run Try.prog w' = .ok (.slice a n cap) w' := fun w' => slice_head w' Try.underlying48 size_u8 a s.bs.length cap n (by omega)
      have C1 := Lib.hid c1; clear c1
      have hpF : p ∈ F := by rw [hF]; simp
      have HF := Lib.hid hF; clear hF
      have HB := Lib.hid hblk; clear hblk
      have HO := Lib.hid hown; clear hown
      have HN := Lib.hid hne; clear hne
      have OK := Lib.hid hok; clear hok h1 hnil
      go_wp2
      go_ret
      refine ⟨ret_int E1.out.symm, ?_, (C1.out.setCell _ (.inl hpF)).setCell _ (.inl hpF)⟩
      rw [E2.out]
      refine ⟨?_, .slice a n cap, by rw [HF.out, ownBlock_any a s.bs.length n cap cap], by rw [ownBlock_any a n s.bs.length cap cap]; exact HN.out, ?_, ?_⟩
      · obtain ⟨o1, o2, o3, o4, o5⟩ := OK.out
        rw [CB.out.1] at o1 o2 o5
        rw [CB.out.2.1] at o1
        refine ⟨by simp only [List.length_take]; omega, by simp only [List.length_take]; omega, o3, o4, by simp only [List.length_take]; omega⟩
      · have := (HB.out.set 0 (.slice a n cap)).set 1 (.int .i64 ((min s.safe n : Nat) : Int))
        first
          | (rw [show min s.safe n = s.safe by omega] at this ⊢; exact this)
          | (rw [show min s.safe n = n by omega] at this ⊢; exact this)
      · have h1 := owns_take HO.out n hn
        rw [← u8c_take] at h1
        have hln : (s.bs.take n).length = n := by rw [List.length_take]; omega
        simp only [hln]
        exact owns_chg h1 (((Chg.refl [p] w1).setCell _ (.inl (by simp))).setCell _ (.inl (by simp))) (fun g hg => by simp; intro e; subst e; rw [ownBlock_any a n s.bs.length cap cap] at hg; exact HN.out hg)
end Go.Proofs.Ytnpmapmdeldnmaa
