/-
  What is read so far, as pieces of memory; a function's line.
-/
import Derived.Test.YtdeilfnfpgjnnaaDoorAsW3
import Derived.Test.YtdeilfnfpgjnnaaDoorCodeR
import Derived.Deep.AppendLies
import Derived.OwnWalk
open Go Go.RowKit
set_option linter.unusedVariables false
set_option linter.unusedSimpArgs false
namespace Go.Proofs.YtdeilfnfpgjnnaaDoor
/-- Where what was read lies. -/
structure RM where
  fa : Option Addr
  fc : Nat
  ca : Option Addr
  cc : Nat
  ka : Option Addr
  kc : Nat
  rs : List Fr
def rcl (r : Rd) (D : RM) : List Value := [.slice D.fa r.fs.length D.fc, .slice D.ca r.cs.length D.cc, .int .i64 r.lk, .slice D.ka r.ks.length D.kc, .bool r.told]
def rdp (b : Nat) (r : Rd) (D : RM) : List Asr := CelA b (rcl r D) :: RowGA 1 D.fa D.fc r.fs.length (frs D.rs) :: RowGA 1 D.ca D.cc r.cs.length (intc r.cs) :: RowGA 3 D.ka D.kc r.ks.length (cac r.ks) :: fns D.rs
def RdAt (w0 w : World) (b : Nat) (r : Rd) (R : List Asr) : Prop := ∃ D, D.rs.map (·.l) = r.fs ∧ Own w0 w (rdp b r D ++ R)
theorem RdAt.bel {w0 w : World} {b : Nat} {r : Rd} {R : List Asr} (h : RdAt w0 w b r R) : Below w0.heap.size w0 w := by obtain ⟨D, _, h⟩ := h; exact h.bel
theorem RdAt.step {w0 w w' : World} {b : Nat} {r : Rd} {R : List Asr} (h : RdAt w0 w b r R) (hb : Below w.heap.size w w') : RdAt w0 w' b r R := by obtain ⟨D, e, h⟩ := h; exact ⟨D, e, h.step hb⟩
theorem info_fu : (Tryd.prog.info? 45).map (fun i => (i.zero, i.size, i.bytes)) = some (some (.slice none 0 0), 1, 24) := by kernel_rfl
theorem info_in : (Tryd.prog.info? 3).map (fun i => (i.zero, i.size, i.bytes)) = some (some (.int .i64 0), 1, 8) := by kernel_rfl
theorem info_ca : (Tryd.prog.info? 55).map (fun i => (i.zero, i.size, i.bytes)) = some (some (.agg #[.int .i64 0, .int .i64 0, .int .i64 0]), 3, 24) := by kernel_rfl
theorem info_ins : (Tryd.prog.info? 62).map (fun i => (i.zero, i.size, i.bytes)) = some (some (.agg #[.int .i64 0, .int .i64 0, .int .i64 0, .int .i64 0]), 4, 32) := by kernel_rfl
theorem Own.nilFn {w0 w : World} {As R : List Asr} (h : Own w0 w (As ++ R)) : Own w0 w (As ++ RowGA 4 none 0 0 [] :: R) :=
  (h.add (Below.refl _ _) (A := RowGA 4 none 0 0 []) (F := []) ⟨rfl, RowG.nil 4 w⟩ (fun x hx => by simp at hx)).perm List.perm_middle.symm
set_option maxRecDepth 100000 in
set_option maxHeartbeats 2000000 in
theorem func_any (b : Nat) (r : Rd) (R : List Asr) (a : Option Addr) (cap : Nat) (ws : List By) (w0 w : World) (hl : ws.length ≤ 100000) (hs : ∀ x ∈ ws, x.length ≤ 100000) (hg : GlA w0) (h : RdAt w0 w b r R) (hat : CellsAt w a (strs ws)) (hr : r.fs.length ≤ 100000) :
    Calls Tryd.prog 28 #[.pointer (some ⟨b, 0, none⟩), .slice a ws.length cap] w fun e w' =>
      e = .returned (.int .i64 (withN r (numsM ws 0) fun _ => { r with fs := r.fs ++ [[]] }).2) ∧ RdAt w0 w' b (withN r (numsM ws 0) fun _ => { r with fs := r.fs ++ [[]] }).1 R := by
  have HC := Lib.hid (numbers_any ws 0 a cap w (by omega) hl hs (hg.below h.bel) hat)
  obtain ⟨i0, hi, hz0, hz1, hz2⟩ := info_parts info_fu
  have Hi := Lib.hid hi
  have Hz0 := Lib.hid hz0
  have Hz1 := Lib.hid hz1
  have Hz2 := Lib.hid hz2
  obtain ⟨D, hD, ho⟩ := h
  have HO := Lib.hid ho
  have HD := Lib.hid hD
  have HL := Lib.hid hr
  obtain ⟨c1, c2, c3, hv⟩ : ∃ c1 c2 c3, numsV ws 0 = .agg #[.int .i64 c1, .int .i64 c2, .int .i64 c3] := by unfold numsV; split <;> exact ⟨_, _, _, rfl⟩
  rw [hv] at HC
  unfold withN
  generalize numsM ws 0 = q at *
  obtain ⟨q1, q2⟩ := q
  generalize ws.length = m at *
  simp only at HC ⊢
  clear hat hs hg hi hz0 hz1 hz2 ho hD hv hr
  by_cases hq : q2 = 0
  · rw [if_pos hq]
    subst hq
    go_enter Tryd.func28, Tryd.ntmps28
    go_wp2_with fail
    refine HC.out.mono ?_
    rintro e w1 ⟨rfl, hb⟩
    have o1 := HO.out.step hb
    have o2 := o1.step (below_alloc1 _ (.cells #[.int .i64 c1, .int .i64 c2, .int .i64 c3] 64))
    have HO2 := Lib.hid o2
    clear o1 o2 hb HC
    go_upto_region 3 with fail
    generalize w1.alloc (.cells #[.int .i64 c1, .int .i64 c2, .int .i64 c3] 64) = w2 at *
    obtain ⟨z0, f0⟩ := HO2.out.cel 0 rfl 0 _ rfl
    have o3 := HO2.out.step (below_alloc1 _ (.cells #[.slice none 0 0] 45))
    have hrow := o3.rowG 1 rfl
    have HO3 := Lib.hid o3
    have Hrow := Lib.hid hrow
    have HFL := Lib.hid (rfl : r.fs.length = r.fs.length)
    obtain ⟨n, hn⟩ : ∃ n, r.fs.length = n := ⟨_, rfl⟩
    rw [hn] at z0 Hrow HL
    have HN := Lib.hid hn
    have hl2 := HL.out
    clear o3 hrow hn
    go_wp2_with (at_builtin; go_loud (refine wpList_append_rowG rfl _ _ 30 rfl 45 i0 _ Tryd.underlying30 Hi.out Hz0.out Hz1.out Hz2.out rfl (by decide) (by decide) (n := n) (m := 1) (cs := frs D.rs) (ds := [.slice none 0 0]) (by rfl) (by rfl) Hrow.out (CellsAt.new _ [.slice none 0 0] _ rfl) rfl (by simp [Value.oneCell']) (by omega) ?_))
    intro a9 c9 w9 k9 ch9 q9
    have o4 := (Own.rowTurn (HO3.out.pick 1 rfl) k9 ch9 (fun x hx => by simpa using q9 x hx)).back (i := 1) (As := rdp b r D ++ R) (by simp [rdp])
    obtain ⟨z1, f1⟩ := o4.cel 0 rfl 0 _ rfl
    have o5 := o4.setAt 0 rfl 0 (.slice a9 (n + 1) c9)
    have HR : Hid (RdAt w0 (w9.setCell ⟨b, 0, none⟩ (.slice a9 (n + 1) c9)) b { r with fs := r.fs ++ [[]] } R) := Lib.hid ⟨{ D with fa := a9, fc := c9, rs := D.rs ++ [⟨none, 0, []⟩] }, by simp [HD.out], by
      have e1 : (r.fs ++ [[]]).length = n + 1 := by rw [List.length_append, HN.out]; rfl
      have e2 : rdp b { r with fs := r.fs ++ [[]] } { D with fa := a9, fc := c9, rs := D.rs ++ [⟨none, 0, []⟩] } = (CelA b ((rcl r D).set 0 (.slice a9 (n + 1) c9)) :: RowGA 1 a9 c9 (n + 1) (frs D.rs ++ [.slice none 0 0]) :: RowGA 1 D.ca D.cc r.cs.length (intc r.cs) :: RowGA 3 D.ka D.kc r.ks.length (cac r.ks) :: fns D.rs) ++ [RowGA 4 none 0 0 []] := by
        unfold rdp rcl frs fns
        rw [List.map_append, List.map_append, e1]
        rfl
      rw [e2, List.append_assoc]
      exact Own.nilFn o5⟩
    have hz1 := z1
    clear o4 o5 k9 ch9 q9 HO HO2 HO3 z0 f0
    go_wp2_with fail
    go_ret
    exact ⟨rfl, HR.out⟩
  · rw [if_neg hq]
    have hqb : (q2 == 0) = false := by simpa using hq
    go_enter Tryd.func28, Tryd.ntmps28
    go_wp2_with fail
    refine HC.out.mono ?_
    rintro e w1 ⟨rfl, hb⟩
    have HR : Hid (RdAt w0 ((w1.alloc (.cells #[.int .i64 c1, .int .i64 c2, .int .i64 c3] 64))) b r R) := Lib.hid (RdAt.step ⟨D, HD.out, HO.out⟩ (hb.alloc (by have := hb.size; omega) _))
    go_wp2_with fail
    go_ret
    exact ⟨rfl, HR.out⟩
end Go.Proofs.YtdeilfnfpgjnnaaDoor
