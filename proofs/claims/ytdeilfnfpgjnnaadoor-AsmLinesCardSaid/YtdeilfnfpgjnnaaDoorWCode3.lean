/-
  Programs in memory; the walks of the program's check of its parts, of a function, of all.
-/
import Derived.Test.YtdeilfnfpgjnnaaDoorWCode2
open Go Go.RowKit
set_option linter.unusedVariables false
namespace Go.Proofs.YtdeilfnfpgjnnaaDoor
/-- A row of instructions. -/
def InsAt (w : World) (a : Option Addr) (l : List In4) : Prop := ∀ i (h : i < l.length), ∃ b off, a = some ⟨b, off, none⟩ ∧ w.cell? ⟨b, off + i * 4, none⟩ = some (.int .i64 l[i].1) ∧ w.cell? ⟨b, off + i * 4 + 1, none⟩ = some (.int .i64 l[i].2.1) ∧ w.cell? ⟨b, off + i * 4 + 2, none⟩ = some (.int .i64 l[i].2.2.1) ∧ w.cell? ⟨b, off + i * 4 + 3, none⟩ = some (.int .i64 l[i].2.2.2)
theorem InsAt.below {w w' : World} {a : Option Addr} {l : List In4} (h : InsAt w a l) (hb : Below w.heap.size w w') : InsAt w' a l := fun i hi => by
  obtain ⟨b, off, h1, h2, h3, h4, h5⟩ := h i hi
  exact ⟨b, off, h1, cell_below h2 hb, cell_below h3 hb, cell_below h4 hb, cell_below h5 hb⟩
/-- A row of cases. -/
def CasAt (w : World) (a : Option Addr) (l : List Ca3) : Prop := ∀ i (h : i < l.length), ∃ b off, a = some ⟨b, off, none⟩ ∧ w.cell? ⟨b, off + i * 3, none⟩ = some (.int .i64 l[i].1) ∧ w.cell? ⟨b, off + i * 3 + 1, none⟩ = some (.int .i64 l[i].2.1) ∧ w.cell? ⟨b, off + i * 3 + 2, none⟩ = some (.int .i64 l[i].2.2)
theorem CasAt.below {w w' : World} {a : Option Addr} {l : List Ca3} (h : CasAt w a l) (hb : Below w.heap.size w w') : CasAt w' a l := fun i hi => by
  obtain ⟨b, off, h1, h2, h3, h4⟩ := h i hi
  exact ⟨b, off, h1, cell_below h2 hb, cell_below h3 hb, cell_below h4 hb⟩
/-- A row of rows of instructions. -/
def FunAt (w : World) (a : Option Addr) (l : List (List In4)) : Prop := ∀ i (h : i < l.length), ∃ b off a' c', a = some ⟨b, off, none⟩ ∧ w.cell? ⟨b, off + i, none⟩ = some (.slice a' l[i].length c') ∧ InsAt w a' l[i]
theorem FunAt.below {w w' : World} {a : Option Addr} {l : List (List In4)} (h : FunAt w a l) (hb : Below w.heap.size w w') : FunAt w' a l := fun i hi => by
  obtain ⟨b, off, a', c', h1, h2, h3⟩ := h i hi
  exact ⟨b, off, a', c', h1, cell_below h2 hb, h3.below hb⟩
/-- The first that may not be: where, the error's number. -/
def insF (nf nc nk : Nat) (lk : Int) (n : Nat) : Nat → List In4 → Int × Int
  | _, [] => (0, 0)
  | i, x :: l => if insI nf nc nk lk n x = 0 then insF nf nc nk lk n (i + 1) l else (i, insI nf nc nk lk n x)
/-- A function. -/
def funI (nf nc nk : Nat) (lk : Int) (f : List In4) : Int × Int := if wit (f.length : Int) 1 64 then insF nf nc nk lk f.length 0 f else (-1, 3)
theorem insF_drop {nf nc nk : Nat} {lk : Int} {n : Nat} (l : List In4) (i : Nat) (h : i < l.length) : insF nf nc nk lk n i (l.drop i) = if insI nf nc nk lk n l[i] = 0 then insF nf nc nk lk n (i + 1) (l.drop (i + 1)) else ((i : Int), insI nf nc nk lk n l[i]) := by
  rw [List.drop_eq_getElem_cons h]; rfl
set_option maxRecDepth 100000 in
set_option maxHeartbeats 4000000 in
theorem checkFunc_any (fa : Option Addr) (nf fc : Nat) (ca : Option Addr) (nc cc : Nat) (lk : Int) (ka : Option Addr) (nk kc : Nat) (a : Option Addr) (cap : Nat) (l : List In4) (w : World) (hg : ShAt w) (hl : InsAt w a l) (h1 : nf ≤ 1000) (h2 : nc ≤ 1000) (h3 : nk ≤ 1000) (h4 : 0 ≤ lk ∧ lk ≤ 1000) :
    Calls Tryd.prog 34 #[pv fa nf fc ca nc cc lk ka nk kc, .slice a l.length cap] w
      fun e w' => e = .returned (.tuple #[.int .i64 (funI nf nc nk lk l).1, .int .i64 (funI nf nc nk lk l).2]) ∧ Below w.heap.size w w' := by
  have hi : funI nf nc nk lk l = if wit (l.length : Int) 1 64 then insF nf nc nk lk l.length 0 l else (-1, 3) := rfl
  generalize funI nf nc nk lk l = r at hi ⊢
  have HB := fun o a b c n W hg h5 => checkIns_any fa nf fc ca nc cc lk ka nk kc o a b c n W hg h1 h2 h3 h4 h5
  unfold pv at *
  obtain ⟨n, hn⟩ : ∃ n, l.length = n := ⟨_, rfl⟩
  rw [hn] at hi ⊢
  by_cases ho : wit (n : Int) 1 64 = true
  · rw [if_pos ho] at hi
    have ho2 : n ≤ 64 := by unfold wit at ho; simp at ho; omega
    have HO := Lib.hid ho
    have HB := Lib.hid HB
    obtain ⟨s0, hs0⟩ : ∃ s0, s0 = w.heap.size := ⟨_, rfl⟩
    have HW := Lib.hid hs0
    have hS : r = insF nf nc nk lk n 0 (l.drop 0) ∧ ShAt (w.alloc (.cells #[.slice fa nf fc, .slice ca nc cc, .int .i64 lk, .slice ka nk kc] 33)) ∧ InsAt (w.alloc (.cells #[.slice fa nf fc, .slice ca nc cc, .int .i64 lk, .slice ka nk kc] 33)) a l ∧ Blk (w.alloc (.cells #[.slice fa nf fc, .slice ca nc cc, .int .i64 lk, .slice ka nk kc] 33)) s0 [.slice fa nf fc, .slice ca nc cc, .int .i64 lk, .slice ka nk kc] ∧ Below s0 w (w.alloc (.cells #[.slice fa nf fc, .slice ca nc cc, .int .i64 lk, .slice ka nk kc] 33)) :=
      ⟨hi, hg.below (below_alloc1 _ _), hl.below (below_alloc1 _ _), Blk.mk _ _ _ _ hs0, hs0 ▸ below_alloc1 _ _⟩
    have HS := Lib.hid hS
    have HN := Lib.hid hn
    clear hi ho hs0 hS hg hl hn
    go_enter Tryd.func34, Tryd.ntmps34
    go_wp2_with fail
    refine (within_any _ _ _ _).mono ?_
    rintro e w1 ⟨rfl, rfl⟩
    rw [HO.out]
    go_wp2_with fail
    rw [← HW.out]
    go_loopw [15] (fun s wr => ∃ i : Nat, i ≤ n ∧ s = .int .i64 (i : Int) ∧ Hid (r = insF nf nc nk lk n i (l.drop i) ∧ ShAt wr ∧ InsAt wr a l ∧ Blk wr s0 [.slice fa nf fc, .slice ca nc cc, .int .i64 lk, .slice ka nk kc] ∧ Below s0 w wr)) (fun s _ => n - (intOf s).toNat)
    case atStart => exact ⟨0, by omega, rfl, HS⟩
    case round =>
      obtain ⟨i, hi3, rfl, hr⟩ := hrel
      obtain ⟨hr1, hr2, hr3, hr4, hr5⟩ := hr.out
      by_cases hin : i < n
      · have hin' : (i : Int) < (n : Int) := by omega
        have hil : i < l.length := by rw [HN.out]; exact hin
        rw [insF_drop l i hil] at hr1
        obtain ⟨b, off, rfl, c0, c1, c2, c3⟩ := hr3 i hil
        obtain ⟨x0, hx0⟩ : ∃ x, l[i] = x := ⟨_, rfl⟩
        rw [hx0] at hr1 c0 c1 c2 c3
        obtain ⟨o, xa, xb, xc⟩ := x0
        simp only at c0 c1 c2 c3
        have HR := Lib.hid hr1
        have p0 := (hr4 0 _ rfl).1
        have p1 := (hr4 1 _ rfl).1
        have p2 := (hr4 2 _ rfl).1
        have p3 := (hr4 3 _ rfl).1
        have hsz := Nat.le_of_lt (hr4.lt (by simp))
        have HX : Hid (∀ w', Below wr.heap.size wr w' → ShAt w' ∧ InsAt w' (some ⟨b, off, none⟩) l ∧ Blk w' s0 [.slice fa nf fc, .slice ca nc cc, .int .i64 lk, .slice ka nk kc] ∧ Below s0 w w') := Lib.hid fun w' hb => ⟨hr2.below hb, hr3.below hb, hr4.below hb, hr5.trans (hb.mono hsz)⟩
        have hsn : s0 < wr.heap.size := hr4.lt (by simp)
        clear hr hr1 hr2 hr3 hr4 hr5 hx0 hil
        go_wp2_with fail
        refine (HB.out o xa xb xc n _ (HX.out _ (below_alloc1 _ _)).1 (by omega)).mono ?_
        rintro e w5 ⟨rfl, hb5⟩
        have HF := Lib.hid (HX.out _ (below_on (below_alloc1 _ _) hb5))
        have HR := HR.out
        clear hb5
        obtain ⟨e0, he0⟩ : ∃ e0, insI nf nc nk lk n (o, xa, xb, xc) = e0 := ⟨_, rfl⟩
        rw [he0] at HR ⊢
        by_cases h0 : e0 = 0
        · rw [if_pos h0] at HR
          subst h0
          have HR := Lib.hid HR
          clear he0
          go_wp2_with fail
          exact ⟨⟨i + 1, by omega, by go_num, Lib.hid ⟨HR.out, HF.out⟩⟩, by simp [intOf]; omega⟩
        · rw [if_neg h0] at HR
          subst HR
          clear he0
          go_wp2_with fail
          go_ret2
          exact ⟨rfl, HW.out ▸ HF.out.2.2.2⟩
      · have hin2 : i = n := by omega
        subst hin2
        have hr1' : r = (0, 0) := by rw [hr1, ← HN.out, List.drop_length]; rfl
        subst hr1'
        have HF := Lib.hid hr5
        clear hr hr1 hr2 hr3 hr4 hr5
        go_wp2_with fail
        go_ret2
        exact ⟨rfl, HW.out ▸ HF.out⟩
  · have ho' : wit (n : Int) 1 64 = false := by simpa using ho
    rw [if_neg ho] at hi
    subst hi
    have HO := Lib.hid ho'
    clear ho ho' hn hl HB
    go_enter Tryd.func34, Tryd.ntmps34
    go_wp2_with fail
    refine (within_any _ _ _ _).mono ?_
    rintro e w1 ⟨rfl, rfl⟩
    rw [HO.out]
    go_wp2_with fail
    go_ret2
    exact ⟨rfl, below_alloc1 _ _⟩
end Go.Proofs.YtdeilfnfpgjnnaaDoor
