/-
  The seventeenth law's draw of a source that may be seen.
-/
import Derived.Test.YtkjhaofodlpnmaaWSrcE2
import Derived.Test.YtkjhaofodlpnmaaWGrd3
open Go Go.RowKit
set_option linter.unusedVariables false
namespace Go.Proofs.Ytkjhaofodlpnmaa
/-- Who sees: nobody, or the law's closure. -/
def eyeV (on : Bool) (bs : Nat) : Value := if on then .func (.func 10) #[] #[.pointer (some ⟨bs, 0, none⟩)] else .nilFunc
def seenBy (on : Bool) (seen : List Rec) (S S' : Src) : List Rec := if on then seen ++ S'.taken.drop S.taken.length else seen
theorem sdrawe_any {w0 w : World} {Z : List Asr} {on : Bool} {p k bs : Nat} {seen : List Rec} {S : Src} (h : Own w0 w (SrcA p k S (eyeV on bs) :: EyeA bs seen :: Z)) (hS : S.ok) (hf : S.fits k) (hm : S.many < 9223372036854775808) (ht : S.taken.length ≤ S.many) (hk : S.taken.length ≤ 1000) (hsl : seen.length ≤ 1000) (kind n : Int) (hn : n < 9223372036854775808) :
    Calls Try.prog 23 #[.pointer (some ⟨p, 0, none⟩), .int .i64 kind, .int .i64 n] w fun r w' => ∃ S', SDraw S kind n r S' ∧ Own w0 w' (SrcA p k S' (eyeV on bs) :: EyeA bs (seenBy on seen S S') :: Z) := by
  cases on with
  | true => exact sdraw_see h hS hf hm ht hk hsl kind n hn
  | false => exact sdraw_any h hS hf hm ht hk kind n hn
set_option maxRecDepth 100000 in
set_option maxHeartbeats 2000000 in
theorem draw1e_any {w0 w : World} {R : List Asr} {on : Bool} {be : Nat} {seen : List Rec} {bs bk bn bv p k : Nat} {S : Src} {kind n : Int} (h : Own w0 w (CelA bs [.pointer (some ⟨p, 0, none⟩)] :: CelA bk [.int .i64 kind] :: CelA bn [.int .i64 n] :: CelA bv [.int .i64 0] :: SrcA p k S (eyeV on be) :: EyeA be seen :: R)) (hS : S.fine k) (hsl : seen.length ≤ 1000) (hn : n < 9223372036854775808) :
    Calls Try.prog 22 #[.pointer (some ⟨bs, 0, none⟩), .pointer (some ⟨bk, 0, none⟩), .pointer (some ⟨bn, 0, none⟩), .pointer (some ⟨bv, 0, none⟩)] w fun r w' => ∃ S' v, RDraw S kind n r S' v ∧
      Own w0 w' (CelA bs [.pointer (some ⟨p, 0, none⟩)] :: CelA bk [.int .i64 kind] :: CelA bn [.int .i64 n] :: CelA bv [.int .i64 v] :: SrcA p k S' (eyeV on be) :: EyeA be (seenBy on seen S S') :: R) := by
  obtain ⟨h1, h2, h3, h4, h5⟩ := hS
  obtain ⟨g0, -⟩ := h.cel 0 rfl 0 _ rfl
  obtain ⟨g1, -⟩ := h.cel 1 rfl 0 _ rfl
  obtain ⟨g2, -⟩ := h.cel 2 rfl 0 _ rfl
  have hd := sdrawe_any ((h.pick 5 rfl).pick 5 rfl) h1 h2 h3 h4 h5 hsl kind n hn
  have HD := Lib.hid hd
  clear hd h h1 h2 h3 h4 h5
  go_enter Try.func22, Try.ntmps22
  go_wp2_with fail
  refine HD.out.mono ?_
  rintro r w2 ⟨S', hs, h2⟩
  have h3 : Own w0 w2 (CelA bs [.pointer (some ⟨p, 0, none⟩)] :: CelA bk [.int .i64 kind] :: CelA bn [.int .i64 n] :: CelA bv [.int .i64 0] :: SrcA p k S' (eyeV on be) :: EyeA be (seenBy on seen S S') :: R) := (((h2.pick 5 rfl).pick 5 rfl).pick 5 rfl).pick 5 rfl
  clear HD h2
  rcases hs with ⟨h1, rfl, rfl⟩ | ⟨h1, h2, rfl, rfl⟩ | ⟨h1, x, h2, rfl, rfl⟩
  · exact ⟨rfl, S', 0, .inl ⟨h1, rfl, rfl, rfl⟩, h3⟩
  · exact ⟨rfl, S', 0, .inr (.inl ⟨h1, h2, rfl, rfl, rfl⟩), h3⟩
  · obtain ⟨q0, f0⟩ := h3.cel 3 rfl 0 _ rfl
    have h4 := h3.setAt 3 rfl 0 (.int .i64 (x : Int))
    have HR : Hid (∃ S' v, RDraw S kind n (.returned (.tuple #[])) S' v ∧
      Own w0 (w2.setCell ⟨bv, 0, none⟩ (.int .i64 (x : Int))) (CelA bs [.pointer (some ⟨p, 0, none⟩)] :: CelA bk [.int .i64 kind] :: CelA bn [.int .i64 n] :: CelA bv [.int .i64 v] :: SrcA p k S' (eyeV on be) :: EyeA be (seenBy on seen S S') :: R)) := Lib.hid ⟨_, _, .inr (.inr ⟨h1, x, h2, rfl, rfl, rfl⟩), h4⟩
    clear h1 h2 h3 h4 g0 g1 g2
    go_wp2
    go_end0
    exact HR.out
set_option maxRecDepth 100000 in
set_option maxHeartbeats 2000000 in
theorem ldrawe_any {w0 w : World} {R : List Asr} {on : Bool} {be : Nat} {seen : List Rec} {p k : Nat} {S : Src} (h : Own w0 w (SrcA p k S (eyeV on be) :: EyeA be seen :: R)) (hS : S.fine k) (hsl : seen.length ≤ 1000) (kind n : Int) (hn : n < 9223372036854775808) :
    Calls Try.prog 12 #[.pointer (some ⟨p, 0, none⟩), .int .i64 kind, .int .i64 n] w fun r w' => ∃ S' v e u, LDraw S kind n S' v e u ∧ r = .returned (.tuple #[.int .i64 v, .int .i64 e, .agg u.toArray]) ∧ Own w0 w' (SrcA p k S' (eyeV on be) :: EyeA be (seenBy on seen S S') :: R) := by
  have hmf : ∀ (fn : Fn) (first cap : Array Value) (w : World), (Instr.makeFunc fn first cap).run Try.prog w = .ok (.func fn first cap) w := fun _ _ _ _ => rfl
  have en : ∀ (args : Array Value) (w : World), (callFunc 22 args).run Try.prog w = .ok (.enter 22 args) w := by intro args w; kernel_rfl
  have hw := fun w1 b (h : Own w0 w1 (CelA b [.pointer (some ⟨p, 0, none⟩)] :: CelA (b + 1) [.int .i64 kind] :: CelA (b + 1 + 1) [.int .i64 n] :: CelA (b + 1 + 1 + 1 + 1) [.int .i64 0] :: SrcA p k S (eyeV on be) :: EyeA be seen :: CelA (b + 1 + 1 + 1) uz :: R)) =>
    guard_any h 22 #[.pointer (some ⟨b, 0, none⟩), .pointer (some ⟨b + 1, 0, none⟩), .pointer (some ⟨b + 1 + 1, 0, none⟩), .pointer (some ⟨b + 1 + 1 + 1 + 1, 0, none⟩)] en (fun r R' => ∃ S' v, R' = (CelA b [.pointer (some ⟨p, 0, none⟩)] :: CelA (b + 1) [.int .i64 kind] :: CelA (b + 1 + 1) [.int .i64 n] :: CelA (b + 1 + 1 + 1 + 1) [.int .i64 v] :: SrcA p k S' (eyeV on be) :: EyeA be (seenBy on seen S S') :: CelA (b + 1 + 1 + 1) uz :: R) ∧ RDraw S kind n r S' v)
      (fun w1 g hg => by
        have h1 := (((((hg.pick 7 rfl).pick 7 rfl).pick 7 rfl).pick 7 rfl).pick 7 rfl).pick 7 rfl
        refine (draw1e_any h1 hS hsl hn).mono ?_
        rintro r w2 ⟨S', v, hr, ho⟩
        obtain ⟨e, u, he⟩ := hr.ended
        exact ⟨_, e, u, (ho.pick 7 rfl).pick 7 rfl, ⟨S', v, rfl, hr⟩, he⟩)
  have hb0 : ∀ b, b = w.heap.size → Own w0 (((((w.alloc (.cells #[.pointer (some ⟨p, 0, none⟩)] 28)).alloc (.cells #[.int .i64 kind] 3)).alloc (.cells #[.int .i64 n] 3)).alloc (.cells uz.toArray 44)).alloc (.cells #[.int .i64 0] 3)) (CelA b [.pointer (some ⟨p, 0, none⟩)] :: CelA (b + 1) [.int .i64 kind] :: CelA (b + 1 + 1) [.int .i64 n] :: CelA (b + 1 + 1 + 1 + 1) [.int .i64 0] :: SrcA p k S (eyeV on be) :: EyeA be seen :: CelA (b + 1 + 1 + 1) uz :: R) := fun b hb => by
    have a0 := h.alloc [.pointer (some ⟨p, 0, none⟩)] 28 (b := b) hb
    have a1 := a0.alloc [.int .i64 kind] 3 (b := b + 1) (by simp [hb])
    have a2 := a1.alloc [.int .i64 n] 3 (b := b + 1 + 1) (by simp [hb])
    have a3 := a2.alloc uz 44 (b := b + 1 + 1 + 1) (by simp [hb])
    have a4 := a3.alloc [.int .i64 0] 3 (b := b + 1 + 1 + 1 + 1) (by simp [hb])
    exact (((((a4.pick 6 rfl).pick 6 rfl).pick 2 rfl).pick 4 rfl).pick 5 rfl).pick 6 rfl
  have hc := hw _ _ (hb0 _ rfl)
  have HC := Lib.hid hc
  clear hw hb0 hc h
  unfold uz at HC
  go_enter Try.func12, Try.ntmps12
  go_wp2_with fail
  refine HC.out.mono ?_
  rintro r w2 ⟨r', R', k', u, ho, ⟨S', v, rfl, hr⟩, he, rfl⟩
  clear HC
  generalize w.heap.size = b at *
  have hl := hr.told he
  obtain ⟨a0, a1, a2, a3, a4, rfl⟩ := len5 he
  have hg : Own w0 (w2.alloc (.cells (uv a0 a1 a2 a3 a4).toArray 44)) (CelA w2.heap.size (uv a0 a1 a2 a3 a4) :: CelA (b + 1 + 1 + 1) uz :: CelA (b + 1 + 1 + 1 + 1) [.int .i64 v] :: SrcA p k S' (eyeV on be) :: EyeA be (seenBy on seen S S') :: R) :=
    ((ho.drop.drop.drop).pick 3 rfl).alloc (uv a0 a1 a2 a3 a4) 44 (b := w2.heap.size) rfl
  have HL := Lib.hid hl
  have HG := Lib.hid hg
  clear hl hr he ho hg
  unfold uz uv at HG
  unfold uv
  go_wp2_with fail
  generalize w2.alloc (.cells #[.int .i64 a0, .int .i64 a1, .int .i64 a2, .int .i64 a3, .int .u64 a4] 44) = W3 at *
  generalize w2.heap.size = g at *
  obtain ⟨x0, -⟩ := HG.out.cel 0 rfl 0 _ rfl
  obtain ⟨x1, -⟩ := HG.out.cel 0 rfl 1 _ rfl
  obtain ⟨x2, -⟩ := HG.out.cel 0 rfl 2 _ rfl
  obtain ⟨x3, -⟩ := HG.out.cel 0 rfl 3 _ rfl
  obtain ⟨x4, -⟩ := HG.out.cel 0 rfl 4 _ rfl
  obtain ⟨q0, e0⟩ := HG.out.cel 1 rfl 0 _ rfl
  obtain ⟨q1, e1⟩ := HG.out.cel 1 rfl 1 _ rfl
  obtain ⟨q2, e2⟩ := HG.out.cel 1 rfl 2 _ rfl
  obtain ⟨q3, e3⟩ := HG.out.cel 1 rfl 3 _ rfl
  obtain ⟨q4, e4⟩ := HG.out.cel 1 rfl 4 _ rfl
  obtain ⟨v0, -⟩ := HG.out.cel 2 rfl 0 _ rfl
  have hne := sep_ne HG.out
  have hne2 := sep_ne (HG.out.drop)
  have hne3 := hne2.symm
  have H5 := Lib.hid (((((((HG.out.pick 1 rfl).set 0 (.int .i64 a0)).set 1 (.int .i64 a1)).set 2 (.int .i64 a2)).set 3 (.int .i64 a3)).set 4 (.int .u64 a4)).step (below_drew1 _))
  clear HG
  generalize b + 1 + 1 + 1 + 1 = b4 at *
  generalize b + 1 + 1 + 1 = b3 at *
  go_region
  obtain ⟨W5, hW5⟩ : ∃ W5, W5 = (((((W3.setCell ⟨b3, 0, none⟩ (.int .i64 a0)).setCell ⟨b3, 1, none⟩ (.int .i64 a1)).setCell ⟨b3, 2, none⟩ (.int .i64 a2)).setCell ⟨b3, 3, none⟩ (.int .i64 a3)).setCell ⟨b3, 4, none⟩ (.int .u64 a4)).drew := ⟨_, rfl⟩
  rw [← hW5] at H5 ⊢
  clear hW5 q0 q1 q2 q3 q4
  obtain ⟨q0, -⟩ := H5.out.cel 0 rfl 0 _ rfl
  obtain ⟨q1, -⟩ := H5.out.cel 0 rfl 1 _ rfl
  obtain ⟨q2, -⟩ := H5.out.cel 0 rfl 2 _ rfl
  obtain ⟨q3, -⟩ := H5.out.cel 0 rfl 3 _ rfl
  obtain ⟨q4, -⟩ := H5.out.cel 0 rfl 4 _ rfl
  go_wp2
  exact bodyPost_ret (v := .tuple #[.int .i64 v, .int .i64 k', .agg #[.int .i64 a0, .int .i64 a1, .int .i64 a2, .int .i64 a3, .int .u64 a4]]) (by simp [results, Try.results12, go_sem, asAddr, q0, q1, q2, q3, q4]) rfl ⟨S', v, k', _, HL.out, rfl, H5.out.drop.drop.drop⟩
end Go.Proofs.Ytkjhaofodlpnmaa
