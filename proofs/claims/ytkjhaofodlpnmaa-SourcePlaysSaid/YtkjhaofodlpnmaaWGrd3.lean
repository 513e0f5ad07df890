/-
  The seventeenth law's draw: one, or how it ended.
-/
import Derived.Test.YtkjhaofodlpnmaaWGrd2
open Go Go.RowKit
set_option linter.unusedVariables false
namespace Go.Proofs.Ytkjhaofodlpnmaa
/-- A draw, told: its number, how it ended, what stood there. -/
def LDraw (S : Src) (kind n : Int) (S' : Src) (v e : Int) (u : List Value) : Prop :=
  (S.taken.length = S.many ∧ S' = S ∧ v = 0 ∧ e = 1 ∧ u = uz) ∨
  (S.taken.length < S.many ∧ drawAt S S.taken.length kind (cnt n) = none ∧ S' = S ∧ v = 0 ∧ e = 2 ∧ u = uv (S.taken.length : Int) kind (cnt n : Int) (S.tape.getD S.taken.length (0, 0)).1 ((S.tape.getD S.taken.length (0, 0)).2 : Int)) ∨
  (S.taken.length < S.many ∧ ∃ x : Nat, drawAt S S.taken.length kind (cnt n) = some x ∧ S' = S.take kind x ∧ v = (x : Int) ∧ e = 0 ∧ u = uz)
/-- How what is guarded ended. -/
def RDraw (S : Src) (kind n : Int) (r : Ending) (S' : Src) (v : Int) : Prop :=
  (S.taken.length = S.many ∧ r = dry ∧ S' = S ∧ v = 0) ∨
  (S.taken.length < S.many ∧ drawAt S S.taken.length kind (cnt n) = none ∧ r = strayed S.taken.length kind (cnt n) (S.tape.getD S.taken.length (0, 0)) ∧ S' = S ∧ v = 0) ∨
  (S.taken.length < S.many ∧ ∃ x : Nat, drawAt S S.taken.length kind (cnt n) = some x ∧ r = .returned (.tuple #[]) ∧ S' = S.take kind x ∧ v = (x : Int))
theorem strayed_inj {i i' : Nat} {kd kd' : Int} {n n' : Nat} {x x' : Rec} (h : strayed i kd n x = strayed i' kd' n' x') : uv (i : Int) kd (n : Int) x.1 (x.2 : Int) = uv (i' : Int) kd' (n' : Int) x'.1 (x'.2 : Int) := by
  unfold strayed strayV at h
  simp at h
  unfold uv
  obtain ⟨h1, h2, h3, h4, h5⟩ := h
  rw [h1, h2, h3, h4, h5]
theorem RDraw.told {S S' : Src} {kind n : Int} {r : Ending} {v e : Int} {u : List Value} (h : RDraw S kind n r S' v) (he : Ended r e u) : LDraw S kind n S' v e u := by
  rcases h with ⟨h1, rfl, rfl, rfl⟩ | ⟨h1, h2, rfl, rfl, rfl⟩ | ⟨h1, x, h2, rfl, rfl, rfl⟩
  · rcases he with ⟨h, _, _⟩ | ⟨_, rfl, rfl⟩ | ⟨i, kd, n', y, h, _, _⟩
    · cases h
    · exact .inl ⟨h1, rfl, rfl, rfl, rfl⟩
    · simp [dry, strayed] at h
  · rcases he with ⟨h, _, _⟩ | ⟨h, _, _⟩ | ⟨i, kd, n', y, h, rfl, rfl⟩
    · cases h
    · simp [dry, strayed] at h
    · exact .inr (.inl ⟨h1, h2, rfl, rfl, rfl, (strayed_inj h).symm⟩)
  · rcases he with ⟨_, rfl, rfl⟩ | ⟨h, _, _⟩ | ⟨i, kd, n', y, h, _, _⟩
    · exact .inr (.inr ⟨h1, x, h2, rfl, rfl, rfl, rfl⟩)
    · cases h
    · cases h
theorem RDraw.ended {S S' : Src} {kind n : Int} {r : Ending} {v : Int} (h : RDraw S kind n r S' v) : ∃ e u, Ended r e u := by
  rcases h with ⟨h1, rfl, rfl, rfl⟩ | ⟨h1, h2, rfl, rfl, rfl⟩ | ⟨h1, x, h2, rfl, rfl, rfl⟩
  · exact ⟨_, _, .inr (.inl ⟨rfl, rfl, rfl⟩)⟩
  · exact ⟨_, _, .inr (.inr ⟨_, _, _, _, rfl, rfl, rfl⟩)⟩
  · exact ⟨_, _, .inl ⟨rfl, rfl, rfl⟩⟩
/-- What a draw asks of its source. -/
def Src.fine (S : Src) (k : Nat) : Prop := S.ok ∧ S.fits k ∧ S.many < 9223372036854775808 ∧ S.taken.length ≤ S.many ∧ S.taken.length ≤ 1000
set_option maxRecDepth 100000 in
set_option maxHeartbeats 2000000 in
theorem draw1_any {w0 w : World} {R : List Asr} {bs bk bn bv p k : Nat} {S : Src} {kind n : Int} (h : Own w0 w (CelA bs [.pointer (some ⟨p, 0, none⟩)] :: CelA bk [.int .i64 kind] :: CelA bn [.int .i64 n] :: CelA bv [.int .i64 0] :: SrcA p k S .nilFunc :: R)) (hS : S.fine k) (hn : n < 9223372036854775808) :
    Calls Try.prog 22 #[.pointer (some ⟨bs, 0, none⟩), .pointer (some ⟨bk, 0, none⟩), .pointer (some ⟨bn, 0, none⟩), .pointer (some ⟨bv, 0, none⟩)] w fun r w' => ∃ S' v, RDraw S kind n r S' v ∧
      Own w0 w' (CelA bs [.pointer (some ⟨p, 0, none⟩)] :: CelA bk [.int .i64 kind] :: CelA bn [.int .i64 n] :: CelA bv [.int .i64 v] :: SrcA p k S' .nilFunc :: R) := by
  obtain ⟨h1, h2, h3, h4, h5⟩ := hS
  obtain ⟨g0, -⟩ := h.cel 0 rfl 0 _ rfl
  obtain ⟨g1, -⟩ := h.cel 1 rfl 0 _ rfl
  obtain ⟨g2, -⟩ := h.cel 2 rfl 0 _ rfl
  have hd := sdraw_any (h.pick 4 rfl) h1 h2 h3 h4 h5 kind n hn
  have HD := Lib.hid hd
  clear hd h h1 h2 h3 h4 h5
  go_enter Try.func22, Try.ntmps22
  go_wp2_with fail
  refine HD.out.mono ?_
  rintro r w2 ⟨S', hs, h2⟩
  have h3 : Own w0 w2 (CelA bs [.pointer (some ⟨p, 0, none⟩)] :: CelA bk [.int .i64 kind] :: CelA bn [.int .i64 n] :: CelA bv [.int .i64 0] :: SrcA p k S' .nilFunc :: R) := (((h2.pick 4 rfl).pick 4 rfl).pick 4 rfl).pick 4 rfl
  clear HD h2
  rcases hs with ⟨h1, rfl, rfl⟩ | ⟨h1, h2, rfl, rfl⟩ | ⟨h1, x, h2, rfl, rfl⟩
  · exact ⟨rfl, S', 0, .inl ⟨h1, rfl, rfl, rfl⟩, h3⟩
  · exact ⟨rfl, S', 0, .inr (.inl ⟨h1, h2, rfl, rfl, rfl⟩), h3⟩
  · obtain ⟨q0, f0⟩ := h3.cel 3 rfl 0 _ rfl
    have h4 := h3.setAt 3 rfl 0 (.int .i64 (x : Int))
    have HR : Hid (∃ S' v, RDraw S kind n (.returned (.tuple #[])) S' v ∧
      Own w0 (w2.setCell ⟨bv, 0, none⟩ (.int .i64 (x : Int))) (CelA bs [.pointer (some ⟨p, 0, none⟩)] :: CelA bk [.int .i64 kind] :: CelA bn [.int .i64 n] :: CelA bv [.int .i64 v] :: SrcA p k S' .nilFunc :: R)) := Lib.hid ⟨_, _, .inr (.inr ⟨h1, x, h2, rfl, rfl, rfl⟩), h4⟩
    clear h1 h2 h3 h4 g0 g1 g2
    go_wp2
    go_end0
    exact HR.out
set_option maxRecDepth 100000 in
set_option maxHeartbeats 2000000 in
theorem ldraw_any {w0 w : World} {R : List Asr} {p k : Nat} {S : Src} (h : Own w0 w (SrcA p k S .nilFunc :: R)) (hS : S.fine k) (kind n : Int) (hn : n < 9223372036854775808) :
    Calls Try.prog 12 #[.pointer (some ⟨p, 0, none⟩), .int .i64 kind, .int .i64 n] w fun r w' => ∃ S' v e u, LDraw S kind n S' v e u ∧ r = .returned (.tuple #[.int .i64 v, .int .i64 e, .agg u.toArray]) ∧ Own w0 w' (SrcA p k S' .nilFunc :: R) := by
  have hmf : ∀ (fn : Fn) (first cap : Array Value) (w : World), (Instr.makeFunc fn first cap).run Try.prog w = .ok (.func fn first cap) w := fun _ _ _ _ => rfl
  have en : ∀ (args : Array Value) (w : World), (callFunc 22 args).run Try.prog w = .ok (.enter 22 args) w := by intro args w; kernel_rfl
  have hw := fun w1 b (h : Own w0 w1 (CelA b [.pointer (some ⟨p, 0, none⟩)] :: CelA (b + 1) [.int .i64 kind] :: CelA (b + 1 + 1) [.int .i64 n] :: CelA (b + 1 + 1 + 1 + 1) [.int .i64 0] :: SrcA p k S .nilFunc :: CelA (b + 1 + 1 + 1) uz :: R)) =>
    guard_any h 22 #[.pointer (some ⟨b, 0, none⟩), .pointer (some ⟨b + 1, 0, none⟩), .pointer (some ⟨b + 1 + 1, 0, none⟩), .pointer (some ⟨b + 1 + 1 + 1 + 1, 0, none⟩)] en (fun r R' => ∃ S' v, R' = (CelA b [.pointer (some ⟨p, 0, none⟩)] :: CelA (b + 1) [.int .i64 kind] :: CelA (b + 1 + 1) [.int .i64 n] :: CelA (b + 1 + 1 + 1 + 1) [.int .i64 v] :: SrcA p k S' .nilFunc :: CelA (b + 1 + 1 + 1) uz :: R) ∧ RDraw S kind n r S' v)
      (fun w1 g hg => by
        have h1 := ((((hg.pick 6 rfl).pick 6 rfl).pick 6 rfl).pick 6 rfl).pick 6 rfl
        refine (draw1_any h1 hS hn).mono ?_
        rintro r w2 ⟨S', v, hr, ho⟩
        obtain ⟨e, u, he⟩ := hr.ended
        exact ⟨_, e, u, (ho.pick 6 rfl).pick 6 rfl, ⟨S', v, rfl, hr⟩, he⟩)
  have hb0 : ∀ b, b = w.heap.size → Own w0 (((((w.alloc (.cells #[.pointer (some ⟨p, 0, none⟩)] 28)).alloc (.cells #[.int .i64 kind] 3)).alloc (.cells #[.int .i64 n] 3)).alloc (.cells uz.toArray 44)).alloc (.cells #[.int .i64 0] 3)) (CelA b [.pointer (some ⟨p, 0, none⟩)] :: CelA (b + 1) [.int .i64 kind] :: CelA (b + 1 + 1) [.int .i64 n] :: CelA (b + 1 + 1 + 1 + 1) [.int .i64 0] :: SrcA p k S .nilFunc :: CelA (b + 1 + 1 + 1) uz :: R) := fun b hb => by
    have a0 := h.alloc [.pointer (some ⟨p, 0, none⟩)] 28 (b := b) hb
    have a1 := a0.alloc [.int .i64 kind] 3 (b := b + 1) (by simp [hb])
    have a2 := a1.alloc [.int .i64 n] 3 (b := b + 1 + 1) (by simp [hb])
    have a3 := a2.alloc uz 44 (b := b + 1 + 1 + 1) (by simp [hb])
    have a4 := a3.alloc [.int .i64 0] 3 (b := b + 1 + 1 + 1 + 1) (by simp [hb])
    exact ((((a4.pick 5 rfl).pick 1 rfl).pick 3 rfl).pick 4 rfl).pick 5 rfl
  have hc := hw _ _ (hb0 _ rfl)
  have HC := Lib.hid hc
  clear hw hb0 hc h
  unfold uz at HC
  go_enter Try.func12, Try.ntmps12
  go_wp2_with fail
  refine HC.out.mono ?_
  rintro r w2 ⟨r', R', k', u, ho, ⟨S', v, rfl, hr⟩, he, rfl⟩
  clear HC
  generalize w.heap.size = b at *
  have hl := hr.told he
  obtain ⟨a0, a1, a2, a3, a4, rfl⟩ := len5 he
  have hg : Own w0 (w2.alloc (.cells (uv a0 a1 a2 a3 a4).toArray 44)) (CelA w2.heap.size (uv a0 a1 a2 a3 a4) :: CelA (b + 1 + 1 + 1) uz :: CelA (b + 1 + 1 + 1 + 1) [.int .i64 v] :: SrcA p k S' .nilFunc :: R) :=
    ((ho.drop.drop.drop).pick 2 rfl).alloc (uv a0 a1 a2 a3 a4) 44 (b := w2.heap.size) rfl
  have HL := Lib.hid hl
  have HG := Lib.hid hg
  clear hl hr he ho hg
  unfold uz uv at HG
  unfold uv
  go_wp2_with fail
  generalize w2.alloc (.cells #[.int .i64 a0, .int .i64 a1, .int .i64 a2, .int .i64 a3, .int .u64 a4] 44) = W3 at *
  generalize w2.heap.size = g at *
  obtain ⟨x0, -⟩ := HG.out.cel 0 rfl 0 _ rfl
  obtain ⟨x1, -⟩ := HG.out.cel 0 rfl 1 _ rfl
  obtain ⟨x2, -⟩ := HG.out.cel 0 rfl 2 _ rfl
  obtain ⟨x3, -⟩ := HG.out.cel 0 rfl 3 _ rfl
  obtain ⟨x4, -⟩ := HG.out.cel 0 rfl 4 _ rfl
  obtain ⟨q0, e0⟩ := HG.out.cel 1 rfl 0 _ rfl
  obtain ⟨q1, e1⟩ := HG.out.cel 1 rfl 1 _ rfl
  obtain ⟨q2, e2⟩ := HG.out.cel 1 rfl 2 _ rfl
  obtain ⟨q3, e3⟩ := HG.out.cel 1 rfl 3 _ rfl
  obtain ⟨q4, e4⟩ := HG.out.cel 1 rfl 4 _ rfl
  obtain ⟨v0, -⟩ := HG.out.cel 2 rfl 0 _ rfl
  have hne := sep_ne HG.out
  have hne2 := sep_ne (HG.out.drop)
  have hne3 := hne2.symm
  have H5 := Lib.hid (((((((HG.out.pick 1 rfl).set 0 (.int .i64 a0)).set 1 (.int .i64 a1)).set 2 (.int .i64 a2)).set 3 (.int .i64 a3)).set 4 (.int .u64 a4)).step (below_drew1 _))
  clear HG
  generalize b + 1 + 1 + 1 + 1 = b4 at *
  generalize b + 1 + 1 + 1 = b3 at *
  go_region
  obtain ⟨W5, hW5⟩ : ∃ W5, W5 = (((((W3.setCell ⟨b3, 0, none⟩ (.int .i64 a0)).setCell ⟨b3, 1, none⟩ (.int .i64 a1)).setCell ⟨b3, 2, none⟩ (.int .i64 a2)).setCell ⟨b3, 3, none⟩ (.int .i64 a3)).setCell ⟨b3, 4, none⟩ (.int .u64 a4)).drew := ⟨_, rfl⟩
  rw [← hW5] at H5 ⊢
  clear hW5 q0 q1 q2 q3 q4
  obtain ⟨q0, -⟩ := H5.out.cel 0 rfl 0 _ rfl
  obtain ⟨q1, -⟩ := H5.out.cel 0 rfl 1 _ rfl
  obtain ⟨q2, -⟩ := H5.out.cel 0 rfl 2 _ rfl
  obtain ⟨q3, -⟩ := H5.out.cel 0 rfl 3 _ rfl
  obtain ⟨q4, -⟩ := H5.out.cel 0 rfl 4 _ rfl
  go_wp2
  exact bodyPost_ret (v := .tuple #[.int .i64 v, .int .i64 k', .agg #[.int .i64 a0, .int .i64 a1, .int .i64 a2, .int .i64 a3, .int .u64 a4]]) (by simp [results, Try.results12, go_sem, asAddr, q0, q1, q2, q3, q4]) rfl ⟨S', v, k', _, HL.out, rfl, H5.out.drop.drop.drop⟩
end Go.Proofs.Ytkjhaofodlpnmaa
