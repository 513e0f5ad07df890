/-
  Texts put together: WdExec, WdEmit, WdRand, WdLock, WdCall, WdRet, WdSpawn, WdChan, WdSlp, WdDoes, WdEx2, WdWF.
-/
import Derived.Test.YtodjgipiomnnfaaGreatMv4
import Derived.Test.YtodjgipiomnnfaaGreatMv3
import Derived.Test.YtodjgipiomnnfaaGreatMv1
set_option maxRecDepth 100000
set_option maxHeartbeats 16000000
open Go Go.RowKit
set_option linter.unusedVariables false
namespace Go.Proofs.YtodjgipiomnnfaaGreat
theorem DrawOk.more {w0 : World} {p : Nat} {T : List Value} {W : Wd} {F : Nat} {fst cap : Array Value} {kind n : Int} {R : List Asr} {Qd : Int → List Asr → Prop} {Qp : Ending → List Asr → Prop} (h : DrawOk w0 p T W F fst cap kind n R Qd Qp) (A : Asr) :
  DrawOk w0 p T W F fst cap kind n (A :: R) (fun v R2 => ∃ R1, R2 = A :: R1 ∧ Qd v R1) (fun r R2 => ∃ R1, R2 = A :: R1 ∧ Qp r R1) := by
 intro Z d w' hD
 have e : ∀ X : List Asr, Z ++ (A :: X) = (Z ++ [A]) ++ X := fun X => by simp
 rw [e] at hD
 refine (h (Z ++ [A]) d w' hD).mono (fun r w2 hh => ?_)
 rcases hh with ⟨v, R', h1, h2, h3⟩ | ⟨ch, R', h1, h2, h3⟩
 ·exact .inl ⟨v, _, h1, ⟨R', rfl, h2⟩, by rw [e]; exact h3⟩
 ·exact .inr ⟨ch, _, h1, ⟨R', rfl, h2⟩, by rw [e]; exact h3⟩
theorem DAt.mk {w0 w : World} {p : Nat} {T : List Value} {W : Wd} {D : Wa} {R : List Asr} {q : Nat} {A : Asr} {g : Nat} {x : In4} {th : Bool} (h : Own w0 w (CelA q (dcells p (g : Int) x th 0 false none 0 0) :: A :: (wparts p W D T ++ R))) (hf : D.fits W) :
  DAt w0 w p T ⟨q, g, x, th, 0, false⟩ W [] (A :: R) := by
 refine ⟨D, none, 0, hf, ?_⟩
 have h1 : Own w0 w (RowGA 1 none 0 0 [] :: (CelA q (dcells p (g : Int) x th 0 false none 0 0) :: A :: (wparts p W D T ++ R))) :=
  h.add (Below.refl _ _) (A := RowGA 1 none 0 0 []) (F := []) ⟨rfl, RowG.nil 1 w⟩ (fun x hx => by simp at hx)
 refine h1.perm ?_
 have e : List.Perm ([RowGA 1 none 0 0 [], CelA q (dcells p (g : Int) x th 0 false none 0 0), A] ++ (wparts p W D T ++ R)) (wparts p W D T ++ ([CelA q (dcells p (g : Int) x th 0 false none 0 0), RowGA 1 none 0 0 [], A] ++ R)) := by
  rw [← List.append_assoc, ← List.append_assoc]
  refine List.Perm.append_right R ((List.perm_append_comm).trans (List.Perm.append_left _ ?_))
  exact List.Perm.swap _ _ _
 simpa [intc] using e
theorem eff_get {w : World} {b : Nat} {k : Bool} {a : Option Addr} {n c : Nat} (e0 : w.cell? ⟨b, 0, none⟩ = some (.bool k)) (e1 : w.cell? ⟨b, 1, none⟩ = some (.slice a n c)) : (loadVar 163 ⟨b, 0, none⟩).run Tryz.prog w = .ok (.agg #[.bool k, .slice a n c]) w := by
 simp [go_sem, e0, e1]
theorem exec_no {w0 w : World} {p : Nat} {T : List Value} {W : Wd} {D : Wa} {R : List Asr} (h : Own w0 w (wparts p W D T ++ R)) (hf : D.fits W) (g : Int) (hl : ¬ W.lets g) (draw : Value) :
  Calls Tryz.prog 72 #[.pointer (some ⟨p, 0, none⟩), .int .i64 g, draw] w fun r w' => r = .returned (.agg #[.bool false, .slice none 0 0]) ∧ Own w0 w' (wparts p W D T ++ R) := by
 have HL : Hid (∀ (wx : World) (Y : List Asr), Own w0 wx (wparts p W D T ++ Y) → Calls Tryz.prog 93 #[.pointer (some ⟨p, 0, none⟩), .int .i64 g] wx fun r w' => r = .returned (.bool false) ∧ w' = wx) := Lib.hid (fun wx Y ho => by
  refine (lets_any ho hf g).mono (fun r w' hh => ?_)
  rw [decide_eq_false hl] at hh
  exact hh)
 have o1 := (h.alloc [.bool false, .slice none 0 0] 163 (b := w.heap.size) rfl)
 have H1 := Lib.hid o1
 clear h hf hl o1
 go_enter Tryz.func72, Tryz.ntmps72
 go_wp2_with fail
 refine (HL.out _ _ H1.out.mid).mono ?_
 rintro r w2 ⟨rfl, rfl⟩
 go_wp2
 exact bodyPost_ret (results_cell Tryz.results72 _ ⟨w.heap.size, 0, none⟩ rfl (eff_get (H1.out.cel 0 rfl 0 _ rfl).1 (H1.out.cel 0 rfl 1 _ rfl).1)) rfl ⟨rfl, H1.out.drop⟩
theorem Own.mid2 {w0 w : World} {A B : Asr} {L R : List Asr} (h : Own w0 w (A :: B :: (L ++ R))) : Own w0 w (L ++ (A :: B :: R)) := h.perm (by
 have e : List.Perm ([A, B] ++ (L ++ R)) (L ++ ([A, B] ++ R)) := by
  rw [← List.append_assoc, ← List.append_assoc]
  exact List.Perm.append_right R List.perm_append_comm
 simpa using e)
theorem DAt.end_ {w0 w : World} {p : Nat} {T : List Value} {d : Dq} {W : Wd} {rd : List Int} {A : Asr} {R : List Asr} (h : DAt w0 w p T d W rd (A :: R)) : ∃ D ra rc, D.fits W ∧ Own w0 w (RowGA 1 ra rc rd.length (intc rd) :: (wparts p W D T ++ R)) := by
 obtain ⟨D, ra, rc, hf, h⟩ := h
 exact ⟨D, ra, rc, hf, Own.unmid ((((h.pick 10 rfl).drop).pick 11 rfl).drop)⟩
def boxM (W : Wd) (q g : Nat) : Dq := ⟨q, g, (W.ins g).getD (0, 0, 0, 0), (W.ins g).isSome, 0, false⟩
def ExecPost (w0 : World) (p : Nat) (T : List Value) (W : Wd) (g : Nat) (Qa : Int → Bool → List Asr → Prop) (Qp : Ending → List Asr → Prop) (r : Ending) (w' : World) : Prop :=
 (∃ v go R' D' ra rc, let m := doM W g (W.ins g) v go
  r = .returned (.agg #[.bool (keepsM m.end_ g ((W.ins g).getD (0, 0, 0, 0))), .slice ra m.rd.length rc]) ∧ Qa v go R' ∧ D'.fits m.end_ ∧ Own w0 w' (RowGA 1 ra rc m.rd.length (intc m.rd) :: (wparts p m.end_ D' T ++ R'))) ∨
 (∃ D' chain R', r = .panicked chain ∧ Qp r R' ∧ D'.fits W ∧ Own w0 w' (wparts p W D' T ++ R'))
theorem exec_any {w0 w : World} {p : Nat} {T : List Value} {W : Wd} {D : Wa} {R : List Asr} (h : Own w0 w (wparts p W D T ++ R)) (hf : D.fits W) (g : Nat) (hl : W.lets (g : Int)) (ok : NextOk W g) (draw : Value) {Qa : Int → Bool → List Asr → Prop} {Qp : Ending → List Asr → Prop}
  (ha : ∀ q b w1, DAt w0 w1 p T (boxM W q g) W [] (CelA b [.bool false, .slice none 0 0] :: R) → Calls Tryz.prog 95 #[.pointer (some ⟨q, 0, none⟩), draw] w1 fun r w' =>
   (∃ v go R', r = .returned (.tuple #[]) ∧ Qa v go R' ∧ DAt w0 w' p T ((boxM W q g).ask v go) W [] (CelA b [.bool false, .slice none 0 0] :: R')) ∨ (∃ chain R', r = .panicked chain ∧ Qp r R' ∧ DAt w0 w' p T (boxM W q g) W [] (CelA b [.bool false, .slice none 0 0] :: R')))
  (hd : ∀ q v go R' R2 w1, Qa v go R' → DAt w0 w1 p T ((boxM W q g).ask v go) W [] R2 → Calls Tryz.prog 96 #[.pointer (some ⟨q, 0, none⟩)] w1 fun r w' =>
   r = .returned (.tuple #[]) ∧ DAt w0 w' p T ((boxM W q g).ask v go) (doM W g (W.ins g) v go).end_ (doM W g (W.ins g) v go).rd R2)
  (hk : ∀ v go R', Qa v go R' → g < (doM W g (W.ins g) v go).end_.gs.length ∧ 1 ≤ ((doM W g (W.ins g) v go).end_.g g).n ∧ ((doM W g (W.ins g) v go).end_.g g).n ≤ 16) :
  Calls Tryz.prog 72 #[.pointer (some ⟨p, 0, none⟩), .int .i64 (g : Int), draw] w fun r w' => ExecPost w0 p T W g Qa Qp r w' := by
 have HL : Hid (∀ (wx : World) (D' : Wa) (Y : List Asr), D'.fits W → Own w0 wx (wparts p W D' T ++ Y) → Calls Tryz.prog 93 #[.pointer (some ⟨p, 0, none⟩), .int .i64 (g : Int)] wx fun r w' => r = .returned (.bool true) ∧ w' = wx) := Lib.hid (fun wx D' Y hf' ho => by
  refine (lets_any ho hf' (g : Int)).mono (fun r w' hh => ?_)
  rw [decide_eq_true hl] at hh
  exact hh)
 have HN := Lib.hid (fun wx Y (ho : Own w0 wx (wparts p W D T ++ Y)) => next_any ho hf g ok)
 have HA := Lib.hid ha
 have HD := Lib.hid hd
 have HK := Lib.hid hk
 have HF := Lib.hid hf
 have H1 := Lib.hid (h.alloc [.bool false, .slice none 0 0] 163 (b := w.heap.size) rfl)
 have B1 : Hid ((w.alloc (.cells #[.bool false, .slice none 0 0] 163)).heap.size = w.heap.size + 1) := Lib.hid (by simp)
 clear h hf hl ok ha hd hk
 go_enter Tryz.func72, Tryz.ntmps72
 go_wp2_with fail
 refine (HL.out _ _ _ HF.out H1.out.mid).mono ?_
 rintro r w2 ⟨rfl, rfl⟩
 go_upto_region 4 with fail
 have H2 := Lib.hid (H1.out.alloc [.pointer (some ⟨p, 0, none⟩), .int .i64 (g : Int), .int .i64 0, .int .i64 0, .int .i64 0, .int .i64 0, .bool false, .int .i64 0, .bool false, .slice none 0 0] 187 (b := w.heap.size + 1) B1.out.symm)
 clear H1 B1
 generalize ((w.alloc (.cells #[.bool false, .slice none 0 0] 163)).alloc (.cells #[.pointer (some ⟨p, 0, none⟩), .int .i64 (g : Int), .int .i64 0, .int .i64 0, .int .i64 0, .int .i64 0, .bool false, .int .i64 0, .bool false, .slice none 0 0] 187)) = w2 at *
 generalize w.heap.size + 1 = q at *
 generalize w.heap.size = b6 at *
 obtain ⟨x0, x1, x2, x3, th, hI1, hI2, hBx⟩ : ∃ x0 x1 x2 x3 th, insV (W.ins g) = .agg #[.int .i64 x0, .int .i64 x1, .int .i64 x2, .int .i64 x3] ∧ (W.ins g).isSome = th ∧ ∀ q, boxM W q g = ⟨q, g, (x0, x1, x2, x3), th, 0, false⟩ := by
  unfold boxM insV
  cases hI : W.ins g with
  | none => exact ⟨0, 0, 0, 0, false, rfl, rfl, fun _ => rfl⟩
  | some x => exact ⟨x.1, x.2.1, x.2.2.1, x.2.2.2, true, rfl, rfl, fun _ => rfl⟩
 have HBx := Lib.hid hBx
 clear hBx
 have HN2 := Lib.hid (HN.out _ _ H2.out.mid2)
 rw [hI1, hI2] at HN2
 clear HN hI1 hI2
 go_wp2_with fail
 refine HN2.out.mono ?_
 rintro r w3 ⟨rfl, b3⟩
 have o3 := H2.out.step b3
 clear H2 HN2 b3
 obtain ⟨z2, y2⟩ := o3.cel 0 rfl 2 _ rfl
 obtain ⟨z3, y3⟩ := o3.cel 0 rfl 3 _ rfl
 obtain ⟨z4, y4⟩ := o3.cel 0 rfl 4 _ rfl
 obtain ⟨z5, y5⟩ := o3.cel 0 rfl 5 _ rfl
 obtain ⟨z6, y6⟩ := o3.cel 0 rfl 6 _ rfl
 have HA2 := Lib.hid (HA.out q b6 _ (by rw [HBx.out q]; exact DAt.mk (x := (x0, x1, x2, x3)) (th := th) (((((o3.set 2 (.int .i64 x0)).set 3 (.int .i64 x1)).set 4 (.int .i64 x2)).set 5 (.int .i64 x3)).set 6 (.bool th)) HF.out))
 clear HA o3
 go_wp2_with fail
 refine HA2.out.mono ?_
 clear z2 y2 z3 y3 z4 y4 z5 y5 z6 y6 HA2
 intro r w4 hp
 rcases hp with ⟨v, go, R', rfl, hq, h4⟩ | ⟨ch, R', rfl, hq, h4⟩
 ·have HQ := Lib.hid hq
  have HDo := Lib.hid (HD.out q v go R' _ w4 hq h4)
  have HKo := Lib.hid (HK.out v go R' hq)
  have HLo : Hid (Calls Tryz.prog 93 #[.pointer (some ⟨p, 0, none⟩), .int .i64 (g : Int)] w4 fun r w' => r = .returned (.bool true) ∧ w' = w4) := Lib.hid (by
   obtain ⟨D4, ra4, rc4, hf4, o4⟩ := h4
   exact HL.out _ _ _ hf4 o4)
  clear hq h4 HD HK HL
  go_wp2_with fail
  refine HLo.out.mono ?_
  rintro r w5 ⟨rfl, rfl⟩
  clear HLo
  go_wp2_with fail
  refine HDo.out.mono ?_
  rintro r w6 ⟨rfl, h6⟩
  clear HDo
  obtain ⟨m, hm⟩ : ∃ m, m = doM W g (W.ins g) v go := ⟨_, rfl⟩
  have HM := Lib.hid hm
  rw [← hm] at h6 HKo
  clear hm
  have h7 := h6.step (below_drew1 w6)
  have HKp := Lib.hid (keeps_any h7 HKo.out.1 HKo.out.2)
  obtain ⟨D6, ra, rc, hf6, o6⟩ := h6
  have SB : ∀ (wx : World) (Z : List Asr), Own w0 wx (wparts p m.end_ D6 T ++ (CelA q (dcells p (g : Int) (boxM W q g).x (boxM W q g).th v go ra m.rd.length rc) :: Z)) → wx.cell? ⟨q, 9, none⟩ = some (.slice ra m.rd.length rc) := by
   intro wx Z ho
   exact (ho.cel 10 rfl 9 _ rfl).1
  have HSB := Lib.hid SB
  have H6 := Lib.hid o6
  have HF6 := Lib.hid hf6
  clear h7 o6 hf6 SB HKo
  go_upto_region 9 with fail
  have o7 := H6.out.step (below_drew1 w6)
  refine wp_region_lexH (fun wx => wx.cell? ⟨q, 9, none⟩ = some (.slice ra m.rd.length rc)) 8 (Array.replicate 8 false) (by kernel_rfl) (by kernel_rfl) ?_
  refine wpAnyH_seg 0 1 _ #[true, false, false, false, false, false, false, false] 7 (by kernel_rfl) noPanic_put (HSB.out _ _ o7) (by kernel_rfl) ?_
  simp only [List.take_succ_cons, List.take_zero, List.drop_zero]
  repeat ((first | refine wpSegH_no (by rfl) ?_ | (refine wpSegH_yes (by rfl) ?_; apply Exists.intro; apply And.intro; (· (intro wx hS; (try dsimp only at hS); go_simp; first | done | with_reducible rfl)))); simp only [Act.put, List.setIfInBounds_toArray, List.set_cons_zero, List.set_cons_succ])
  refine wpSegH_nil ?_
  refine wpAnyH_seg 2 4 _ #[true, false, true, true, true, true, false, false] 3 (by kernel_rfl) noPanic_put (HSB.out _ _ o7) (by kernel_rfl) ?_
  simp only [List.take_succ_cons, List.take_zero, List.drop_succ_cons, List.drop_zero]
  repeat ((first | refine wpSegH_no (by rfl) ?_ | (refine wpSegH_yes (by rfl) ?_; apply Exists.intro; apply And.intro; (· (intro wx hS; (try dsimp only at hS); go_simp; first | done | with_reducible rfl)))); simp only [Act.put, List.setIfInBounds_toArray, List.set_cons_zero, List.set_cons_succ])
  refine wpSegH_nil ?_
  refine wpAnyH_one 1 _ #[true, true, true, true, true, true, false, false] 2 (by kernel_rfl) (fun K hK => ?_)
  have HKK := Lib.hid hK
  clear hK
  simp only [List.drop_succ_cons, List.drop_zero]
  refine headH_mk (by rfl) ?_
  go_simp
  refine HKp.out.mono ?_
  rintro r w8 ⟨rfl, k8, hw8⟩
  have o8 := o7.q1 hw8
  clear hw8 HKp
  refine HKK.out _ _ (HSB.out _ _ o8) ?_
  clear HKK K
  refine wpAnyH_seg 6 1 _ #[true, true, true, true, true, true, true, false] 1 (by kernel_rfl) noPanic_put (HSB.out _ _ o8) (by kernel_rfl) ?_
  simp only [List.take_succ_cons, List.take_zero, List.drop_succ_cons, List.drop_zero]
  repeat ((first | refine wpSegH_no (by rfl) ?_ | (refine wpSegH_yes (by rfl) ?_; apply Exists.intro; apply And.intro; (· (intro wx hS; (try dsimp only at hS); go_simp; first | done | with_reducible rfl)))); simp only [Act.put, List.setIfInBounds_toArray, List.set_cons_zero, List.set_cons_succ])
  refine wpSegH_nil ?_
  obtain ⟨e0, f0⟩ := o8.cel 12 rfl 0 _ rfl
  obtain ⟨e1, f1⟩ := o8.cel 12 rfl 1 _ rfl
  have o9 := ((o8.pick 12 rfl).set 0 (.bool (keepsM m.end_ g (boxM W q g).x))).set 1 (.slice ra m.rd.length rc)
  have H9 := Lib.hid o9
  refine wpAnyH_one 7 _ #[true, true, true, true, true, true, true, true] 0 (by kernel_rfl) (fun K hK => ?_)
  have HKK := Lib.hid hK
  clear hK
  simp only [List.drop_succ_cons, List.drop_zero]
  refine headH_mk (by rfl) ?_
  go_simp
  refine HKK.out _ _ ((H9.out.cel 11 rfl 9 _ rfl).1) ?_
  clear HKK K
  refine wpAnyH_done (by kernel_rfl) (NoPanic.normal ?_) _
  clear o7 o8 o9 H6 HSB
  go_wp2_with fail
  refine bodyPost_ret (results_cell Tryz.results72 _ ⟨b6, 0, none⟩ rfl (eff_get (k := keepsM m.end_ g (boxM W q g).x) (H9.out.cel 0 rfl 0 _ rfl).1 (H9.out.cel 0 rfl 1 _ rfl).1)) rfl (.inl ⟨v, go, R', D6, ra, rc, ?_⟩)
  have HM2 := HM.out
  clear HM
  subst HM2
  exact ⟨rfl, HQ.out, HF6.out, Own.unmid ((H9.out.drop.pick 10 rfl).drop)⟩
 ·obtain ⟨D5, ra5, rc5, hf5, h5⟩ := h4.end_
  exact ⟨rfl, .inr ⟨D5, ch, R', rfl, hq, hf5, h5.drop⟩⟩
theorem demit_any {w0 w : World} {p : Nat} {T : List Value} {d : Dq} {W : Wd} {R : List Asr} (h : DAt w0 w p T d W [] R) (hg : d.g < W.gs.length) (hm : 1 ≤ (W.g d.g).n ∧ (W.g d.g).n ≤ 16) (ha : 0 ≤ d.x.2.1 ∧ d.x.2.1 < 8) (ho : W.out.length ≤ 1000) :
  Calls Tryz.prog 142 #[.pointer (some ⟨d.q, 0, none⟩)] w fun r w' => DPost w0 p T d R (emitM W [] d.g d.x) r w' := by
 obtain ⟨D, ra, rc, hf, h⟩ := h
 obtain ⟨a, hA, ha8⟩ := nat_of (n := 8) ha
 obtain ⟨b, off, s, cap, F⟩ := opF_of hf h hg hm
 have q0 := F.top.d0
 have q3 := (h.cel 10 rfl 3 _ rfl).1
 have p8 := (h.cel 0 rfl 8 _ rfl).1
 rw [hA] at q3
 by_cases hl : 1000 ≤ W.out.length
 ·have e : emitM W [] d.g d.x = ⟨W, [], some (-6)⟩ := by unfold emitM; rw [if_pos hl]
  rw [e]
  have hd : decide ((1000 : Int) ≤ (W.out.length : Int)) = true := by simpa using (by omega : (1000 : Int) ≤ (W.out.length : Int))
  have H := Lib.hid (show DAt w0 w p T d W [] R from ⟨D, ra, rc, hf, h⟩)
  generalize W.out.length = n at *
  clear h hf F q3 hl ho e
  go_enter Tryz.func142, Tryz.ntmps142
  go_wp2
  exact ⟨rfl, rfl, H.out⟩
 ·have e : emitM W [] d.g d.x = ⟨{ W with out := W.out ++ [(W.g d.g).rg d.x.2.1] }, [], none⟩ := by unfold emitM; rw [if_neg hl]
  rw [e]
  have hd : decide ((1000 : Int) ≤ (W.out.length : Int)) = false := by simpa using (by omega : ¬ (1000 : Int) ≤ (W.out.length : Int))
  have hone : d.x.2.1 = (a : Int) := hA
  rw [hA]
  generalize hv : (W.g d.g).rg (a : Int) = v
  have hreg := (reg_at F.stk hm.1 a ha8).1
  rw [hv] at hreg
  have a0 : (0 : Int) ≤ (a : Int) := by omega
  have a8 : (a : Int) < 8 := by omega
  have SCB : ∀ (wx : World) (A9 : Asr), Own w0 wx ((wparts p W D T ++ (CelA d.q (dcells p (d.g : Int) d.x d.th d.dr d.go ra 0 rc) :: RowGA 1 ra rc 0 (intc []) :: R)).set 9 A9) →
    wx.cell? ⟨d.q, 0, none⟩ = some (.pointer (some ⟨p, 0, none⟩)) ∧ wx.cell? ⟨p, 8, none⟩ = some (.slice D.oa W.out.length D.oc) ∧ wx.cell? ⟨d.q, 3, none⟩ = some (.int .i64 (a : Int)) ∧ wx.cell? ⟨s, ((W.g d.g).n - 1) * 11 + 2 + a, none⟩ = some (.int .i64 v) := by
   intro wx A9 ho
   obtain ⟨Fx, ⟨_, hk⟩, -⟩ := (ho.pick 3 rfl).lstFact (stks_at F.sk (Wd.g_at hg))
   have h3 := (ho.cel 10 rfl 3 _ rfl).1
   rw [hA] at h3
   have hr := (reg_at hk hm.1 a ha8).1
   rw [hv] at hr
   exact ⟨(ho.cel 10 rfl 0 _ rfl).1, (ho.cel 0 rfl 8 _ rfl).1, h3, hr⟩
  have htop := dtop_any (F.top.drewN 1)
  have H := Lib.hid h
  have HF := Lib.hid hf
  obtain ⟨i0, hi0, hz0, hz1, hz2⟩ := info_parts info_i6
  have Hi := Lib.hid hi0; clear hi0
  have Hz0 := Lib.hid hz0; clear hz0
  have Hz1 := Lib.hid hz1; clear hz1
  have Hz2 := Lib.hid hz2; clear hz2
  have HL := Lib.hid (show W.out.length ≤ 1000 from ho)
  obtain ⟨n, hn⟩ : ∃ n, n = W.out.length := ⟨_, rfl⟩
  rw [← hn] at SCB hd p8 HL
  obtain ⟨m, hmm⟩ : ∃ m, m = (W.g d.g).n - 1 := ⟨_, rfl⟩
  rw [← hmm] at SCB hreg htop
  have HT := Lib.hid htop
  have HN := Lib.hid hn
  clear hn hl ho e hone F hf hA hv ha hm htop hmm
  have h0 := H.out
  clear h
  go_enter Tryz.func142, Tryz.ntmps142
  go_upto_region 2 with fail
  have o1 := h0.step (below_drew1 w)
  refine wp_region_lexY (fun wx => wx.cell? ⟨d.q, 0, none⟩ = some (.pointer (some ⟨p, 0, none⟩)) ∧ wx.cell? ⟨p, 8, none⟩ = some (.slice D.oa n D.oc) ∧ wx.cell? ⟨d.q, 3, none⟩ = some (.int .i64 (a : Int)) ∧ wx.cell? ⟨s, m * 11 + 2 + a, none⟩ = some (.int .i64 v)) 26 27 (Array.replicate 27 false) (by kernel_rfl) (by kernel_rfl) ?_
  refine wpAnyY_seg 0 12 _ #[true, true, true, true, true, true, true, true, true, true, true, true, false, false, false, false, false, false, false, false, false, false, false, false, false, false, false] 15 (by kernel_rfl) noPanic_put (SCB _ _ o1) (by kernel_rfl) ?_
  simp only [List.take_succ_cons, List.take_zero, List.drop_zero]
  repeat ((first | refine wpSegH_no (by rfl) ?_ | (refine wpSegH_yes (by rfl) ?_; apply Exists.intro; apply And.intro; (· (intro wx hS; (try dsimp only at hS); go_simp; first | done | with_reducible rfl)))); simp only [Act.put, List.setIfInBounds_toArray, List.set_cons_zero, List.set_cons_succ])
  refine wpSegH_nil ?_
  refine wpAnyY_seg 13 5 _ #[true, true, true, true, true, true, true, true, true, true, true, true, false, true, true, true, true, true, false, false, false, false, false, false, false, false, false] 10 (by kernel_rfl) noPanic_put (SCB _ _ o1) (by kernel_rfl) ?_
  simp only [List.take_succ_cons, List.take_zero, List.drop_succ_cons, List.drop_zero]
  repeat ((first | refine wpSegH_no (by rfl) ?_ | (refine wpSegH_yes (by rfl) ?_; apply Exists.intro; apply And.intro; (· (intro wx hS; (try dsimp only at hS); go_simp; first | done | with_reducible rfl)))); simp only [Act.put, List.setIfInBounds_toArray, List.set_cons_zero, List.set_cons_succ])
  refine wpSegH_nil ?_
  refine wpAnyY_one 12 _ #[true, true, true, true, true, true, true, true, true, true, true, true, true, true, true, true, true, true, false, false, false, false, false, false, false, false, false] 9 (by kernel_rfl) (fun K hK => ?_)
  have HKK := Lib.hid hK
  clear hK
  simp only [List.drop_succ_cons, List.drop_zero]
  refine headH_mk (by rfl) ?_
  go_simp
  refine HT.out.mono ?_
  rintro r w1 ⟨rfl, k1, hw1⟩
  have o2 := h0.q2 hw1
  clear hw1
  refine HKK.out _ _ (SCB _ _ o2) ?_
  clear HKK K
  refine wpAnyY_seg 18 4 _ #[true, true, true, true, true, true, true, true, true, true, true, true, true, true, true, true, true, true, true, true, true, true, false, false, false, false, false] 5 (by kernel_rfl) noPanic_put (SCB _ _ o2) (by kernel_rfl) ?_
  simp only [List.take_succ_cons, List.take_zero, List.drop_succ_cons, List.drop_zero]
  repeat ((first | refine wpSegH_no (by rfl) ?_ | (refine wpSegH_yes (by rfl) ?_; apply Exists.intro; apply And.intro; (· (intro wx hS; (try dsimp only at hS); go_simp; first | done | with_reducible rfl)))); simp only [Act.put, List.setIfInBounds_toArray, List.set_cons_zero, List.set_cons_succ])
  refine wpSegH_nil ?_
  refine wpAnyY_one 22 _ #[true, true, true, true, true, true, true, true, true, true, true, true, true, true, true, true, true, true, true, true, true, true, true, false, false, false, false] 4 (by kernel_rfl) (fun K hK => ?_)
  have HKK := Lib.hid hK
  clear hK
  simp only [List.drop_succ_cons, List.drop_zero]
  refine headH_mk (by rfl) ?_
  go_simp
  have o3 := o2.step (below_alloc1 _ (.cells #[.int .i64 v] 2))
  refine HKK.out _ _ (SCB _ _ o3) ?_
  clear HKK K
  refine wpAnyY_one 23 _ #[true, true, true, true, true, true, true, true, true, true, true, true, true, true, true, true, true, true, true, true, true, true, true, true, false, false, false] 3 (by kernel_rfl) (fun K hK => ?_)
  have HKK := Lib.hid hK
  clear hK
  simp only [List.drop_succ_cons, List.drop_zero]
  refine headH_mk (by rfl) ?_
  have hrow := o3.rowG 9 rfl
  rw [← HN.out] at hrow
  refine wp_append_rowG (n := n) (m := 1) (cs := intc W.out) (ds := intc [v]) _ _ 49 (by rfl) 2 i0 _ Tryz.underlying49 Hi.out Hz0.out Hz1.out Hz2.out rfl (by omega) (by omega) (by rfl) (by rfl) hrow (CellsAt.new _ (intc [v]) _ rfl) rfl (intc_one _) (by have := HL.out; omega) ?_
  intro a9 c9 w9 k9 ch9 f9
  have o4 := (Own.rowTurn (o3.pick 9 rfl) k9 ch9 f9).back (i := 9) (As := wparts p W D T ++ (CelA d.q (dcells p (d.g : Int) d.x d.th d.dr d.go ra 0 rc) :: RowGA 1 ra rc 0 (intc []) :: R)) (by simp [wparts])
  refine HKK.out _ _ (SCB _ _ o4) ?_
  clear HKK K
  refine wpAnyY_segT 24 1 _ #[true, true, true, true, true, true, true, true, true, true, true, true, true, true, true, true, true, true, true, true, true, true, true, true, true, false, false] 2 (by kernel_rfl) noPanic_put (by kernel_rfl) ?_
  simp only [List.take_succ_cons, List.take_zero, List.drop_succ_cons, List.drop_zero]
  repeat ((first | refine wpSegH_no (by rfl) ?_ | (refine wpSegH_yes (by rfl) ?_; apply Exists.intro; apply And.intro; (· (intro wx hS; (try dsimp only at hS); go_simp; first | done | with_reducible rfl)))); simp only [Act.put, List.setIfInBounds_toArray, List.set_cons_zero, List.set_cons_succ])
  refine wpSegH_nil ?_
  refine wpAnyY_seg 25 1 _ #[true, true, true, true, true, true, true, true, true, true, true, true, true, true, true, true, true, true, true, true, true, true, true, true, true, true, false] 1 (by kernel_rfl) noPanic_put (SCB _ _ o4) (by kernel_rfl) ?_
  simp only [List.take_succ_cons, List.take_zero, List.drop_succ_cons, List.drop_zero]
  repeat ((first | refine wpSegH_no (by rfl) ?_ | (refine wpSegH_yes (by rfl) ?_; apply Exists.intro; apply And.intro; (· (intro wx hS; (try dsimp only at hS); go_simp; first | done | with_reducible rfl)))); simp only [Act.put, List.setIfInBounds_toArray, List.set_cons_zero, List.set_cons_succ])
  refine wpSegH_nil ?_
  have hf := HF.out
  obtain ⟨z8, f8⟩ := o4.cel 0 rfl 8 _ rfl
  have o5 := o4.setAt 0 rfl 8 (.slice a9 (n + 1) c9)
  have e1 : (W.out ++ [v]).length = n + 1 := by rw [List.length_append, ← HN.out]; rfl
  have HR : Hid (DAt w0 (w9.setCell ⟨p, 8, none⟩ (.slice a9 (n + 1) c9)) p T d { W with out := W.out ++ [v] } [] R) := Lib.hid ⟨{ D with oa := a9, oc := c9 }, ra, rc, ⟨hf.f, hf.g, hf.c, hf.n, hf.l, hf.k⟩, by
   simp only [wparts, wcells, e1, intc_app]
   exact o5⟩
  clear o1 o2 o3 o4 o5 k9 ch9 f9 hf hrow SCB HT H HF
  refine wpAnyY_late 26 _ #[true, true, true, true, true, true, true, true, true, true, true, true, true, true, true, true, true, true, true, true, true, true, true, true, true, true, true] 0 (by kernel_rfl) (fun K hK => ?_)
  have HKK := Lib.hid hK
  clear hK
  simp only [List.drop_succ_cons, List.drop_zero]
  refine headH_mk (by rfl) ?_
  go_simp
  refine HKK.out _ _ ?_
  clear HKK K
  refine wpAnyY_done (by kernel_rfl) (NoPanic.normal ?_) _
  go_wp2
  go_end0
  exact ⟨rfl, HR.out⟩
theorem drand_any {w0 w : World} {p : Nat} {T : List Value} {d : Dq} {W : Wd} {R : List Asr} (h : DAt w0 w p T d W [] R) (hg : d.g < W.gs.length) (hm : 1 ≤ (W.g d.g).n ∧ (W.g d.g).n ≤ 16) (ha : 0 ≤ d.x.2.1 ∧ d.x.2.1 < 8) :
  Calls Tryz.prog 143 #[.pointer (some ⟨d.q, 0, none⟩)] w fun r w' => DPost w0 p T d R ⟨W.put d.g d.x.2.1 d.dr, [], none⟩ r w' := by
 obtain ⟨D, ra, rc, hf, h⟩ := h
 obtain ⟨a, hA, ha8⟩ := nat_of (n := 8) ha
 obtain ⟨b, off, s, cap, F⟩ := opF_of hf h hg hm
 have q0 := F.top.d0
 have q3 := (h.cel 10 rfl 3 _ rfl).1
 have q7 := (h.cel 10 rfl 7 _ rfl).1
 rw [hA] at q3
 rw [hA]
 obtain ⟨m, hmm⟩ : ∃ m, m = (W.g d.g).n - 1 := ⟨_, rfl⟩
 have hreg := reg_at F.stk hm.1 a ha8
 have HT := Lib.hid (F.htop hmm 1)
 have HP : Hid (∀ w1 k, w1 = (w.drewN 1).drewN k → DAt w0 (w1.setCell ⟨s, m * 11 + 2 + a, none⟩ (.int .i64 d.dr)) p T d (W.put d.g (a : Int) d.dr) [] R) := Lib.hid (fun w1 k e => by
  rw [hmm]
  exact ⟨D, ra, rc, hf.setG _ _, own_put (h.q2 e) hg F.sk a d.dr⟩)
 rw [← hmm] at hreg
 have a0 : (0 : Int) ≤ (a : Int) := by omega
 have a8 : (a : Int) < 8 := by omega
 obtain ⟨r0, r1⟩ := hreg
 clear h hf F hA ha hm hmm
 go_enter Tryz.func143, Tryz.ntmps143
 refine wp_region_lexK (fun wx => ∃ nq, wx = World.drewN (w) nq) 14 1 (Array.replicate 15 false) #[true, true, true, true, true, true, true, true, true, true, true, true, true, true, false] (by kernel_rfl) (by kernel_rfl) ?_
 refine wpAnyK_seg 0 1 _ #[true, false, false, false, false, false, false, false, false, false, false, false, false, false, false] 13 (by kernel_rfl) noPanic_put (drew_q w) (by kernel_rfl) ?_
 simp only [List.take_succ_cons, List.take_zero, List.drop_zero]
 repeat ((first | refine wpSegH_no (by rfl) ?_ | (refine wpSegH_yes (by rfl) ?_; apply Exists.intro; apply And.intro; (· (rintro wx ⟨nq, rfl⟩; go_simp; first | done | with_reducible rfl)))); simp only [Act.put, List.setIfInBounds_toArray, List.set_cons_zero, List.set_cons_succ])
 refine wpSegH_nil ?_
 refine wpAnyK_seg 2 9 _ #[true, false, true, true, true, true, true, true, true, true, true, false, false, false, false] 4 (by kernel_rfl) noPanic_put (drew_q w) (by kernel_rfl) ?_
 simp only [List.take_succ_cons, List.take_zero, List.drop_succ_cons, List.drop_zero]
 repeat ((first | refine wpSegH_no (by rfl) ?_ | (refine wpSegH_yes (by rfl) ?_; apply Exists.intro; apply And.intro; (· (rintro wx ⟨nq, rfl⟩; go_simp; first | done | with_reducible rfl)))); simp only [Act.put, List.setIfInBounds_toArray, List.set_cons_zero, List.set_cons_succ])
 refine wpSegH_nil ?_
 refine wpAnyK_one 1 _ #[true, true, true, true, true, true, true, true, true, true, true, false, false, false, false] 3 (by kernel_rfl) (fun K hK => ?_)
 have HKK := Lib.hid hK
 clear hK
 simp only [List.drop_succ_cons, List.drop_zero]
 refine headH_mk (by rfl) ?_
 go_simp
 refine HT.out.mono ?_
 rintro r w1 ⟨rfl, k1, hw1⟩
 refine HKK.out _ _ (q_q2 hw1) ?_
 clear HKK K
 refine wpAnyK_seg 11 3 _ #[true, true, true, true, true, true, true, true, true, true, true, true, true, true, false] 0 (by kernel_rfl) noPanic_put (q_q2 hw1) (by kernel_rfl) ?_
 simp only [List.take_succ_cons, List.take_zero, List.drop_succ_cons, List.drop_zero]
 repeat ((first | refine wpSegH_no (by rfl) ?_ | (refine wpSegH_yes (by rfl) ?_; apply Exists.intro; apply And.intro; (· (rintro wx ⟨nq, rfl⟩; go_simp; first | done | with_reducible rfl)))); simp only [Act.put, List.setIfInBounds_toArray, List.set_cons_zero, List.set_cons_succ])
 refine wpSegH_nil ?_
 refine wpAnyK_next ?_
 refine wpAnyK_seq 14 (by kernel_rfl) ?_
 simp only [List.drop_succ_cons, List.drop_zero]
 have hfin := HP.out _ _ hw1
 have HF := Lib.hid hfin
 have s0 : w1.cell? ⟨s, m * 11 + 2 + a, none⟩ = some (.int .i64 ((W.g d.g).rg (a : Int))) := by rw [hw1]; exact r0
 have s1 : w1.frozen? ⟨s, m * 11 + 2 + a, none⟩ = false := by rw [hw1]; exact r1
 clear hfin hw1 HP HT
 go_wp2
 go_end0
 exact ⟨rfl, HF.out⟩
theorem dlock_any {w0 w : World} {p : Nat} {T : List Value} {d : Dq} {W : Wd} {R : List Asr} (h : DAt w0 w p T d W [] R) (hg : d.g < W.gs.length) (hm : 1 ≤ (W.g d.g).n ∧ (W.g d.g).n ≤ 16) (ha : 0 ≤ d.x.2.1 ∧ d.x.2.1 < (W.Ls.length : Int)) (hl : ∀ L ∈ W.Ls, L.length ≤ 1000000) (hk : W.Ls.length ≤ 1000) :
  Calls Tryz.prog 140 #[.pointer (some ⟨d.q, 0, none⟩)] w fun r w' => DPost w0 p T d R (lockM W [] d.g d.x) r w' := by
 obtain ⟨D, ra, rc, hf, h⟩ := h
 obtain ⟨a, hA, ha8⟩ := nat_of (n := W.Ls.length) ha
 obtain ⟨b, off, s, cap, F⟩ := opF_of hf h hg hm
 have q0 := F.top.d0
 have q1 := F.top.d1
 have q3 := (h.cel 10 rfl 3 _ rfl).1
 have p4 := (h.cel 0 rfl 4 _ rfl).1
 rw [hA] at q3
 obtain ⟨pt, lb, lo, R', hla, l0, k1, k2⟩ := own_lock h hf ha8
 rw [hla] at p4
 have a0 : (0 : Int) ≤ (a : Int) := by omega
 have a8 : (a : Int) < (W.Ls.length : Int) := by omega
 have hLl := hl _ (List.mem_of_getElem? (Wd.lk_at ha8))
 have e : lockM W [] d.g d.x = if (W.lk (a : Int)).isEmpty = true then ⟨{ W with Ls := W.Ls.set a (W.lk (a : Int) ++ [(d.g : Int)]) }, [], none⟩ else ⟨({ W with Ls := W.Ls.set a (W.lk (a : Int) ++ [(d.g : Int)]) } : Wd).setSt d.g 2, [], none⟩ := by
  unfold lockM
  rw [hA]
  cases hL : W.lk (a : Int) <;> simp [hL]
 rw [e]
 have K2 := Lib.hid k2
 have HC : Hid (∀ k, Calls Tryz.prog 166 #[.pointer (some ⟨pt, 0, none⟩), .int .i64 (d.g : Int)] (w.drewN k) fun r w' => r = .returned (.bool (W.lk (a : Int)).isEmpty) ∧ Own w0 w' (wparts p { W with Ls := W.Ls.set a (W.lk (a : Int) ++ [(d.g : Int)]) } D T ++ (CelA d.q (dcells p (d.g : Int) d.x d.th d.dr d.go ra 0 rc) :: RowGA 1 ra rc 0 (intc []) :: R)) ∧ D.fits { W with Ls := W.Ls.set a (W.lk (a : Int) ++ [(d.g : Int)]) }) :=
  Lib.hid (fun k => (o_ktake (k1.step (below_dN w k)) (d.g : Int) hLl).mono (fun r w' hh => ⟨hh.1, k2 _ _ hh.2⟩))
 generalize hem : (W.lk (a : Int)).isEmpty = em at *
 generalize hW1 : ({ W with Ls := W.Ls.set a (W.lk (a : Int) ++ [(d.g : Int)]) } : Wd) = W1 at *
 have hg1 : d.g < W1.gs.length := by rw [← hW1]; exact hg
 have hm1 : 1 ≤ (W1.g d.g).n ∧ (W1.g d.g).n ≤ 16 := by rw [← hW1]; exact hm
 generalize W.Ls.length = N at *
 clear k1 k2 h F hf hA ha hl hem hW1 hLl hm e K2
 go_enter Tryz.func140, Tryz.ntmps140
 go_upto_region 0 with fail
 refine wp_region_lexK (fun wx => ∃ nq, wx = World.drewN (w) nq) 18 2 (Array.replicate 20 false) #[true, true, true, true, true, true, true, true, true, true, true, true, true, true, true, true, true, true, false, false] (by kernel_rfl) (by kernel_rfl) ?_
 refine wpAnyK_seg 0 18 _ #[true, true, true, true, true, true, true, true, true, true, true, true, true, true, true, true, true, true, false, false] 0 (by kernel_rfl) noPanic_put (drew_q w) (by kernel_rfl) ?_
 simp only [List.take_succ_cons, List.take_zero, List.drop_zero]
 repeat ((first | refine wpSegH_no (by rfl) ?_ | (refine wpSegH_yes (by rfl) ?_; apply Exists.intro; apply And.intro; (· (rintro wx ⟨nq, rfl⟩; go_simp; first | done | with_reducible rfl)))); simp only [Act.put, List.setIfInBounds_toArray, List.set_cons_zero, List.set_cons_succ])
 refine wpSegH_nil ?_
 refine wpAnyK_next ?_
 refine wpAnyK_seq 18 (by kernel_rfl) ?_
 simp only [List.drop_succ_cons, List.drop_zero]
 go_wp2_with fail
 refine (HC.out 1).mono ?_
 rintro r w1 ⟨rfl, h1, hf1⟩
 have H1 := Lib.hid (show DAt w0 w1 p T d W1 [] R from ⟨D, ra, rc, hf1, h1⟩)
 obtain ⟨b1, off1, s1, cap1, F1⟩ := opF_of hf1 h1 hg1 hm1
 have HM := Lib.hid (F1.hme 0)
 have HP : Hid (∀ w2 k, w2 = (w1.drewN 0).drewN k → DAt w0 (w2.setCell ⟨b1, off1 + d.g * 2, none⟩ (.int .i64 2)) p T d (W1.setSt d.g 2) [] R) := Lib.hid (fun w2 k e => ⟨D, ra, rc, hf1.setG _ _, own_st (h1.q2 e) hf1 hg1 F1.aa 2⟩)
 obtain ⟨c0, c1⟩ := F1.st
 clear HC h1 hf1 F1
 go_wp2_with fail
 refine NoPanic.normal ?_
 cases em with
 | true =>
  go_wp2
  go_end0
  exact ⟨rfl, H1.out⟩
 | false =>
  go_wp2_with fail
  refine (HM.out).mono ?_
  rintro r w2 ⟨rfl, k, hw2⟩
  have HF := Lib.hid (HP.out _ _ hw2)
  have c0' : w2.cell? ⟨b1, off1 + d.g * 2, none⟩ = some (.int .i64 ((W1.g d.g).st)) := by rw [hw2]; exact c0
  have c1' : w2.frozen? ⟨b1, off1 + d.g * 2, none⟩ = false := by rw [hw2]; exact c1
  clear hw2 HP HM c0 c1
  go_wp2
  go_end0
  exact ⟨rfl, HF.out⟩
theorem own_stkNew {w0 w w1 : World} {R : List Asr} {g n cap : Nat} {z : List Int} (h : Own w0 w R) (hb : Below w.heap.size w w1) (hs : StkAt w1 g n cap z) (hg : w.heap.size ≤ g) : Own w0 w1 (StkA g n cap z :: R) :=
 h.add hb (F := [g]) ⟨rfl, hs⟩ (fun x hx => by simp at hx; omega)
theorem DAt.newStk {w0 w : World} {p : Nat} {T : List Value} {d : Dq} {W : Wd} {D : Wa} {rd : List Int} {ra : Option Addr} {rc : Nat} {R : List Asr} {s' n' cap' : Nat} {z' : List Int} (hf : D.fits W) (hg : d.g < W.gs.length) (hm : 1 ≤ (W.g d.g).n ∧ (W.g d.g).n ≤ 16)
  (h : Own w0 w (StkA s' n' cap' z' :: (wparts p W D T ++ (CelA d.q (dcells p (d.g : Int) d.x d.th d.dr d.go ra rd.length rc) :: RowGA 1 ra rc rd.length (intc rd) :: R)))) :
  ∃ b off, (Calls Tryz.prog 122 #[.pointer (some ⟨d.q, 0, none⟩)] w fun r w' => r = .returned (.pointer (some ⟨b, off + d.g * 2, none⟩)) ∧ ∃ j, w' = w.drewN j) ∧
   (∃ v, w.cell? ⟨b, off + d.g * 2 + 1, none⟩ = some v) ∧ w.frozen? ⟨b, off + d.g * 2 + 1, none⟩ = false ∧
   ∀ w2 j, w2 = w.drewN j → DAt w0 (w2.setCell ⟨b, off + d.g * 2 + 1, none⟩ (.slice (some ⟨s', 0, none⟩) n' cap')) p T d (W.setG d.g ⟨(W.g d.g).st, n', z'⟩) rd R := by
 obtain ⟨b, off, s, cap, F⟩ := opF_of hf h.drop hg hm
 refine ⟨b, off, ?_, ⟨_, F.top.k⟩, F.sl, fun w2 j e => ?_⟩
 ·exact me_any F.top
 ·obtain ⟨k1, k2⟩ := own_stk (h.q1 e) hf hg F.aa
  exact ⟨_, ra, rc, k2, k1⟩
theorem dcall_any {w0 w : World} {p : Nat} {T : List Value} {d : Dq} {W : Wd} {R : List Asr} (h : DAt w0 w p T d W [] R) (hg : d.g < W.gs.length) (hm : 1 ≤ (W.g d.g).n ∧ (W.g d.g).n ≤ 16) (ha : 0 ≤ d.x.2.2.1 ∧ d.x.2.2.1 < 8) :
  Calls Tryz.prog 132 #[.pointer (some ⟨d.q, 0, none⟩)] w fun r w' => DPost w0 p T d R (callM W [] d.g d.x) r w' := by
 obtain ⟨D, ra, rc, hf, h⟩ := h
 obtain ⟨a, hA, ha8⟩ := nat_of (n := 8) ha
 obtain ⟨b, off, s, cap, F⟩ := opF_of hf h hg hm
 have q0 := F.top.d0
 have q3 := (h.cel 10 rfl 3 _ rfl).1
 have q4 := (h.cel 10 rfl 4 _ rfl).1
 have q5 := (h.cel 10 rfl 5 _ rfl).1
 rw [hA] at q4
 have sl := F.top.k
 obtain ⟨m, hmm⟩ : ∃ m, m = (W.g d.g).n - 1 := ⟨_, rfl⟩
 have hreg := (reg_at F.stk hm.1 a ha8).1
 have HT := fun k => Lib.hid (F.htop hmm k)
 have HM := fun k => Lib.hid (F.hme k)
 have a0 : (0 : Int) ≤ (a : Int) := by omega
 have a8 : (a : Int) < 8 := by omega
 by_cases h16 : (W.g d.g).n = 16
 ·have e : callM W [] d.g d.x = ⟨W, [], some (-4)⟩ := by unfold callM; rw [if_pos (by omega)]
  rw [e]
  have hs := F.stk
  rw [h16] at hs sl
  have HC : Hid (∀ k, Calls Tryz.prog 157 #[.slice (some ⟨s, 0, none⟩) 16 cap, .int .i64 d.x.2.1, .int .i64 ((W.g d.g).rg (a : Int)), .int .i64 d.x.2.2.2] (w.drewN k) fun e w' => ∃ g' cap', e = .returned (.tuple #[.slice (some ⟨g', 0, none⟩) 16 cap', .bool false]) ∧ DAt w0 w' p T d W [] R) :=
   Lib.hid (fun k => (call_deep s cap _ d.x.2.1 ((W.g d.g).rg (a : Int)) d.x.2.2.2 (w.drewN k) (hs.below (below_dN w k))).mono (fun r w' ⟨g', c', h1, h2⟩ => ⟨g', c', h1, D, ra, rc, hf, (h.step (below_dN w k)).step h2⟩))
  rw [← hmm] at hreg
  generalize (W.g d.g).rg (a : Int) = v at *
  clear h hf F hA ha hm hs h16 e hmm hg
  go_enter Tryz.func132, Tryz.ntmps132
  go_upto_region 0 with fail
  refine wp_region_lexK (fun wx => ∃ nq, wx = World.drewN (w) nq) 26 6 (Array.replicate 32 false) #[true, true, true, true, true, true, true, true, true, true, true, true, true, true, true, true, true, true, true, true, true, true, true, true, true, true, false, false, false, false, false, false] (by kernel_rfl) (by kernel_rfl) ?_
  refine wpAnyK_seg 0 1 _ #[true, false, false, false, false, false, false, false, false, false, false, false, false, false, false, false, false, false, false, false, false, false, false, false, false, false, false, false, false, false, false, false] 25 (by kernel_rfl) noPanic_put (drew_q w) (by kernel_rfl) ?_
  simp only [List.take_succ_cons, List.take_zero, List.drop_zero]
  repeat ((first | refine wpSegH_no (by rfl) ?_ | (refine wpSegH_yes (by rfl) ?_; apply Exists.intro; apply And.intro; (· (rintro wx ⟨nq, rfl⟩; go_simp; first | done | with_reducible rfl)))); simp only [Act.put, List.setIfInBounds_toArray, List.set_cons_zero, List.set_cons_succ])
  refine wpSegH_nil ?_
  refine wpAnyK_seg 5 6 _ #[true, false, false, false, false, true, true, true, true, true, true, false, false, false, false, false, false, false, false, false, false, false, false, false, false, false, false, false, false, false, false, false] 19 (by kernel_rfl) noPanic_put (drew_q w) (by kernel_rfl) ?_
  simp only [List.take_succ_cons, List.take_zero, List.drop_succ_cons, List.drop_zero]
  repeat ((first | refine wpSegH_no (by rfl) ?_ | (refine wpSegH_yes (by rfl) ?_; apply Exists.intro; apply And.intro; (· (rintro wx ⟨nq, rfl⟩; go_simp; first | done | with_reducible rfl)))); simp only [Act.put, List.setIfInBounds_toArray, List.set_cons_zero, List.set_cons_succ])
  refine wpSegH_nil ?_
  refine wpAnyK_seg 12 5 _ #[true, false, false, false, false, true, true, true, true, true, true, false, true, true, true, true, true, false, false, false, false, false, false, false, false, false, false, false, false, false, false, false] 14 (by kernel_rfl) noPanic_put (drew_q w) (by kernel_rfl) ?_
  simp only [List.take_succ_cons, List.take_zero, List.drop_succ_cons, List.drop_zero]
  repeat ((first | refine wpSegH_no (by rfl) ?_ | (refine wpSegH_yes (by rfl) ?_; apply Exists.intro; apply And.intro; (· (rintro wx ⟨nq, rfl⟩; go_simp; first | done | with_reducible rfl)))); simp only [Act.put, List.setIfInBounds_toArray, List.set_cons_zero, List.set_cons_succ])
  refine wpSegH_nil ?_
  refine wpAnyK_seg 21 5 _ #[true, false, false, false, false, true, true, true, true, true, true, false, true, true, true, true, true, false, false, false, false, true, true, true, true, true, false, false, false, false, false, false] 9 (by kernel_rfl) noPanic_put (drew_q w) (by kernel_rfl) ?_
  simp only [List.take_succ_cons, List.take_zero, List.drop_succ_cons, List.drop_zero]
  repeat ((first | refine wpSegH_no (by rfl) ?_ | (refine wpSegH_yes (by rfl) ?_; apply Exists.intro; apply And.intro; (· (rintro wx ⟨nq, rfl⟩; go_simp; first | done | with_reducible rfl)))); simp only [Act.put, List.setIfInBounds_toArray, List.set_cons_zero, List.set_cons_succ])
  refine wpSegH_nil ?_
  refine wpAnyK_one 1 _ #[true, true, false, false, false, true, true, true, true, true, true, false, true, true, true, true, true, false, false, false, false, true, true, true, true, true, false, false, false, false, false, false] 8 (by kernel_rfl) (fun K hK => ?_)
  have HKK := Lib.hid hK
  clear hK
  simp only [List.drop_succ_cons, List.drop_zero]
  refine headH_mk (by rfl) ?_
  go_simp
  refine (HM 1).out.mono ?_
  rintro r w1 ⟨rfl, k1, rfl⟩
  refine HKK.out _ _ ((by first | exact ⟨_, rfl⟩ | exact ⟨_, World.drewN_drewN _ _ _⟩)) ?_
  clear HKK K
  refine wpAnyK_seg 2 3 _ #[true, true, true, true, true, true, true, true, true, true, true, false, true, true, true, true, true, false, false, false, false, true, true, true, true, true, false, false, false, false, false, false] 5 (by kernel_rfl) noPanic_put ((by first | exact ⟨_, rfl⟩ | exact ⟨_, World.drewN_drewN _ _ _⟩)) (by kernel_rfl) ?_
  simp only [List.take_succ_cons, List.take_zero, List.drop_succ_cons, List.drop_zero]
  repeat ((first | refine wpSegH_no (by rfl) ?_ | (refine wpSegH_yes (by rfl) ?_; apply Exists.intro; apply And.intro; (· (rintro wx ⟨nq, rfl⟩; go_simp; first | done | with_reducible rfl)))); simp only [Act.put, List.setIfInBounds_toArray, List.set_cons_zero, List.set_cons_succ])
  refine wpSegH_nil ?_
  refine wpAnyK_one 11 _ #[true, true, true, true, true, true, true, true, true, true, true, true, true, true, true, true, true, false, false, false, false, true, true, true, true, true, false, false, false, false, false, false] 4 (by kernel_rfl) (fun K hK => ?_)
  have HKK := Lib.hid hK
  clear hK
  simp only [List.drop_succ_cons, List.drop_zero]
  refine headH_mk (by rfl) ?_
  go_simp
  refine (HT _).out.mono ?_
  rintro r w2 ⟨rfl, k2, rfl⟩
  refine HKK.out _ _ ((by first | exact ⟨_, rfl⟩ | exact ⟨_, World.drewN_drewN _ _ _⟩)) ?_
  clear HKK K
  refine wpAnyK_seg 17 4 _ #[true, true, true, true, true, true, true, true, true, true, true, true, true, true, true, true, true, true, true, true, true, true, true, true, true, true, false, false, false, false, false, false] 0 (by kernel_rfl) noPanic_put ((by first | exact ⟨_, rfl⟩ | exact ⟨_, World.drewN_drewN _ _ _⟩)) (by kernel_rfl) ?_
  simp only [List.take_succ_cons, List.take_zero, List.drop_succ_cons, List.drop_zero]
  repeat ((first | refine wpSegH_no (by rfl) ?_ | (refine wpSegH_yes (by rfl) ?_; apply Exists.intro; apply And.intro; (· (rintro wx ⟨nq, rfl⟩; go_simp; first | done | with_reducible rfl)))); simp only [Act.put, List.setIfInBounds_toArray, List.set_cons_zero, List.set_cons_succ])
  refine wpSegH_nil ?_
  refine wpAnyK_next ?_
  refine wpAnyK_phase (fun _ => True) 6 0 #[true, true, true, true, true, true, true, true, true, true, true, true, true, true, true, true, true, true, true, true, true, true, true, true, true, true, true, true, true, true, true, true] ?_
  refine wpAnyK_one 26 _ #[true, true, true, true, true, true, true, true, true, true, true, true, true, true, true, true, true, true, true, true, true, true, true, true, true, true, true, false, false, false, false, false] 5 (by kernel_rfl) (fun K hK => ?_)
  have HKK := Lib.hid hK
  clear hK
  simp only [List.drop_succ_cons, List.drop_zero]
  refine headH_mk (by rfl) ?_
  go_simp
  refine (HC.out _).mono ?_
  rintro r w3 ⟨g', c', rfl, h3⟩
  have H3 := Lib.hid h3
  clear h3
  refine HKK.out _ _ (trivial) ?_
  clear HKK K
  refine wpAnyK_seg 27 2 _ #[true, true, true, true, true, true, true, true, true, true, true, true, true, true, true, true, true, true, true, true, true, true, true, true, true, true, true, true, true, false, false, false] 3 (by kernel_rfl) noPanic_put (trivial) (by kernel_rfl) ?_
  simp only [List.take_succ_cons, List.take_zero, List.drop_succ_cons, List.drop_zero]
  repeat ((first | refine wpSegH_no (by rfl) ?_ | (refine wpSegH_yes (by rfl) ?_; apply Exists.intro; apply And.intro; (· (intro wx hS; (try dsimp only at hS); go_simp; first | done | with_reducible rfl)))); simp only [Act.put, List.setIfInBounds_toArray, List.set_cons_zero, List.set_cons_succ])
  refine wpSegH_nil ?_
  refine wpAnyK_seg 30 1 _ #[true, true, true, true, true, true, true, true, true, true, true, true, true, true, true, true, true, true, true, true, true, true, true, true, true, true, true, true, true, false, true, false] 2 (by kernel_rfl) noPanic_put (trivial) (by kernel_rfl) ?_
  simp only [List.take_succ_cons, List.take_zero, List.drop_succ_cons, List.drop_zero]
  repeat ((first | refine wpSegH_no (by rfl) ?_ | (refine wpSegH_yes (by rfl) ?_; apply Exists.intro; apply And.intro; (· (intro wx hS; (try dsimp only at hS); go_simp; first | done | with_reducible rfl)))); simp only [Act.put, List.setIfInBounds_toArray, List.set_cons_zero, List.set_cons_succ])
  refine wpSegH_nil ?_
  refine wpAnyK_seg 29 1 _ #[true, true, true, true, true, true, true, true, true, true, true, true, true, true, true, true, true, true, true, true, true, true, true, true, true, true, true, true, true, true, true, false] 1 (by kernel_rfl) noPanic_put (trivial) (by kernel_rfl) ?_
  simp only [List.take_succ_cons, List.take_zero, List.drop_succ_cons, List.drop_zero]
  repeat ((first | refine wpSegH_no (by rfl) ?_ | (refine wpSegH_yes (by rfl) ?_; apply Exists.intro; apply And.intro; (· (intro wx hS; (try dsimp only at hS); go_simp; first | done | with_reducible rfl)))); simp only [Act.put, List.setIfInBounds_toArray, List.set_cons_zero, List.set_cons_succ])
  refine wpSegH_nil ?_
  refine wpAnyK_seg 31 1 _ #[true, true, true, true, true, true, true, true, true, true, true, true, true, true, true, true, true, true, true, true, true, true, true, true, true, true, true, true, true, true, true, true] 0 (by kernel_rfl) noPanic_put (trivial) (by kernel_rfl) ?_
  simp only [List.take_succ_cons, List.take_zero, List.drop_succ_cons, List.drop_zero]
  repeat ((first | refine wpSegH_no (by rfl) ?_ | (refine wpSegH_yes (by rfl) ?_; apply Exists.intro; apply And.intro; (· (intro wx hS; (try dsimp only at hS); go_simp; first | done | with_reducible rfl)))); simp only [Act.put, List.setIfInBounds_toArray, List.set_cons_zero, List.set_cons_succ])
  refine wpSegH_nil ?_
  refine wpAnyK_next ?_
  refine wpAnyK_done (by kernel_rfl) (NoPanic.normal ?_)
  clear HC HT HM
  go_wp2
  exact ⟨rfl, rfl, H3.out⟩
 ·have e : callM W [] d.g d.x = ⟨W.setG d.g ⟨(W.g d.g).st, (W.g d.g).n + 1, (W.g d.g).z ++ newF d.x.2.1 ((W.g d.g).rg (a : Int)) d.x.2.2.2⟩, [], none⟩ := by unfold callM; rw [if_neg (by omega), hA]
  rw [e]
  have hs := F.stk
  have HC : Hid (∀ k, Calls Tryz.prog 157 #[.slice (some ⟨s, 0, none⟩) (W.g d.g).n cap, .int .i64 d.x.2.1, .int .i64 ((W.g d.g).rg (a : Int)), .int .i64 d.x.2.2.2] (w.drewN k) fun e w' => ∃ g' cap', e = .returned (.tuple #[.slice (some ⟨g', 0, none⟩) ((W.g d.g).n + 1) cap', .bool true]) ∧ Own w0 w' (StkA g' ((W.g d.g).n + 1) cap' ((W.g d.g).z ++ newF d.x.2.1 ((W.g d.g).rg (a : Int)) d.x.2.2.2) :: (wparts p W D T ++ (CelA d.q (dcells p (d.g : Int) d.x d.th d.dr d.go ra 0 rc) :: RowGA 1 ra rc 0 (intc []) :: R)))) :=
   Lib.hid (fun k => (call_any s _ cap _ d.x.2.1 ((W.g d.g).rg (a : Int)) d.x.2.2.2 (w.drewN k) (hs.below (below_dN w k)) hm.1 (by omega)).mono (fun r w' ⟨g', c', h1, h2, h3, h4⟩ => ⟨g', c', h1, own_stkNew (h.step (below_dN w k)) h4 h3 h2⟩))
  have HN := Lib.hid (fun w g' c' h => DAt.newStk (w0 := w0) (w := w) (T := T) (R := R) (rd := []) (s' := g') (cap' := c') (n' := (W.g d.g).n + 1) (z' := (W.g d.g).z ++ newF d.x.2.1 ((W.g d.g).rg (a : Int)) d.x.2.2.2) (p := p) (ra := ra) (rc := rc) hf hg hm h)
  rw [← hmm] at hreg
  generalize (W.g d.g).rg (a : Int) = v at *
  obtain ⟨n, hn⟩ : ∃ n, n = (W.g d.g).n := ⟨_, rfl⟩
  rw [← hn] at sl HC HN ⊢
  clear h hf F hA ha hm hs h16 e hmm hg hn
  go_enter Tryz.func132, Tryz.ntmps132
  go_upto_region 0 with fail
  refine wp_region_lexK (fun wx => ∃ nq, wx = World.drewN (w) nq) 26 6 (Array.replicate 32 false) #[true, true, true, true, true, true, true, true, true, true, true, true, true, true, true, true, true, true, true, true, true, true, true, true, true, true, false, false, false, false, false, false] (by kernel_rfl) (by kernel_rfl) ?_
  refine wpAnyK_seg 0 1 _ #[true, false, false, false, false, false, false, false, false, false, false, false, false, false, false, false, false, false, false, false, false, false, false, false, false, false, false, false, false, false, false, false] 25 (by kernel_rfl) noPanic_put (drew_q w) (by kernel_rfl) ?_
  simp only [List.take_succ_cons, List.take_zero, List.drop_zero]
  repeat ((first | refine wpSegH_no (by rfl) ?_ | (refine wpSegH_yes (by rfl) ?_; apply Exists.intro; apply And.intro; (· (rintro wx ⟨nq, rfl⟩; go_simp; first | done | with_reducible rfl)))); simp only [Act.put, List.setIfInBounds_toArray, List.set_cons_zero, List.set_cons_succ])
  refine wpSegH_nil ?_
  refine wpAnyK_seg 5 6 _ #[true, false, false, false, false, true, true, true, true, true, true, false, false, false, false, false, false, false, false, false, false, false, false, false, false, false, false, false, false, false, false, false] 19 (by kernel_rfl) noPanic_put (drew_q w) (by kernel_rfl) ?_
  simp only [List.take_succ_cons, List.take_zero, List.drop_succ_cons, List.drop_zero]
  repeat ((first | refine wpSegH_no (by rfl) ?_ | (refine wpSegH_yes (by rfl) ?_; apply Exists.intro; apply And.intro; (· (rintro wx ⟨nq, rfl⟩; go_simp; first | done | with_reducible rfl)))); simp only [Act.put, List.setIfInBounds_toArray, List.set_cons_zero, List.set_cons_succ])
  refine wpSegH_nil ?_
  refine wpAnyK_seg 12 5 _ #[true, false, false, false, false, true, true, true, true, true, true, false, true, true, true, true, true, false, false, false, false, false, false, false, false, false, false, false, false, false, false, false] 14 (by kernel_rfl) noPanic_put (drew_q w) (by kernel_rfl) ?_
  simp only [List.take_succ_cons, List.take_zero, List.drop_succ_cons, List.drop_zero]
  repeat ((first | refine wpSegH_no (by rfl) ?_ | (refine wpSegH_yes (by rfl) ?_; apply Exists.intro; apply And.intro; (· (rintro wx ⟨nq, rfl⟩; go_simp; first | done | with_reducible rfl)))); simp only [Act.put, List.setIfInBounds_toArray, List.set_cons_zero, List.set_cons_succ])
  refine wpSegH_nil ?_
  refine wpAnyK_seg 21 5 _ #[true, false, false, false, false, true, true, true, true, true, true, false, true, true, true, true, true, false, false, false, false, true, true, true, true, true, false, false, false, false, false, false] 9 (by kernel_rfl) noPanic_put (drew_q w) (by kernel_rfl) ?_
  simp only [List.take_succ_cons, List.take_zero, List.drop_succ_cons, List.drop_zero]
  repeat ((first | refine wpSegH_no (by rfl) ?_ | (refine wpSegH_yes (by rfl) ?_; apply Exists.intro; apply And.intro; (· (rintro wx ⟨nq, rfl⟩; go_simp; first | done | with_reducible rfl)))); simp only [Act.put, List.setIfInBounds_toArray, List.set_cons_zero, List.set_cons_succ])
  refine wpSegH_nil ?_
  refine wpAnyK_one 1 _ #[true, true, false, false, false, true, true, true, true, true, true, false, true, true, true, true, true, false, false, false, false, true, true, true, true, true, false, false, false, false, false, false] 8 (by kernel_rfl) (fun K hK => ?_)
  have HKK := Lib.hid hK
  clear hK
  simp only [List.drop_succ_cons, List.drop_zero]
  refine headH_mk (by rfl) ?_
  go_simp
  refine (HM 1).out.mono ?_
  rintro r w1 ⟨rfl, k1, rfl⟩
  refine HKK.out _ _ ((by first | exact ⟨_, rfl⟩ | exact ⟨_, World.drewN_drewN _ _ _⟩)) ?_
  clear HKK K
  refine wpAnyK_seg 2 3 _ #[true, true, true, true, true, true, true, true, true, true, true, false, true, true, true, true, true, false, false, false, false, true, true, true, true, true, false, false, false, false, false, false] 5 (by kernel_rfl) noPanic_put ((by first | exact ⟨_, rfl⟩ | exact ⟨_, World.drewN_drewN _ _ _⟩)) (by kernel_rfl) ?_
  simp only [List.take_succ_cons, List.take_zero, List.drop_succ_cons, List.drop_zero]
  repeat ((first | refine wpSegH_no (by rfl) ?_ | (refine wpSegH_yes (by rfl) ?_; apply Exists.intro; apply And.intro; (· (rintro wx ⟨nq, rfl⟩; go_simp; first | done | with_reducible rfl)))); simp only [Act.put, List.setIfInBounds_toArray, List.set_cons_zero, List.set_cons_succ])
  refine wpSegH_nil ?_
  refine wpAnyK_one 11 _ #[true, true, true, true, true, true, true, true, true, true, true, true, true, true, true, true, true, false, false, false, false, true, true, true, true, true, false, false, false, false, false, false] 4 (by kernel_rfl) (fun K hK => ?_)
  have HKK := Lib.hid hK
  clear hK
  simp only [List.drop_succ_cons, List.drop_zero]
  refine headH_mk (by rfl) ?_
  go_simp
  refine (HT _).out.mono ?_
  rintro r w2 ⟨rfl, k2, rfl⟩
  refine HKK.out _ _ ((by first | exact ⟨_, rfl⟩ | exact ⟨_, World.drewN_drewN _ _ _⟩)) ?_
  clear HKK K
  refine wpAnyK_seg 17 4 _ #[true, true, true, true, true, true, true, true, true, true, true, true, true, true, true, true, true, true, true, true, true, true, true, true, true, true, false, false, false, false, false, false] 0 (by kernel_rfl) noPanic_put ((by first | exact ⟨_, rfl⟩ | exact ⟨_, World.drewN_drewN _ _ _⟩)) (by kernel_rfl) ?_
  simp only [List.take_succ_cons, List.take_zero, List.drop_succ_cons, List.drop_zero]
  repeat ((first | refine wpSegH_no (by rfl) ?_ | (refine wpSegH_yes (by rfl) ?_; apply Exists.intro; apply And.intro; (· (rintro wx ⟨nq, rfl⟩; go_simp; first | done | with_reducible rfl)))); simp only [Act.put, List.setIfInBounds_toArray, List.set_cons_zero, List.set_cons_succ])
  refine wpSegH_nil ?_
  refine wpAnyK_next ?_
  refine wpAnyK_phase (fun _ => True) 6 0 #[true, true, true, true, true, true, true, true, true, true, true, true, true, true, true, true, true, true, true, true, true, true, true, true, true, true, true, true, true, true, true, true] ?_
  refine wpAnyK_one 26 _ #[true, true, true, true, true, true, true, true, true, true, true, true, true, true, true, true, true, true, true, true, true, true, true, true, true, true, true, false, false, false, false, false] 5 (by kernel_rfl) (fun K hK => ?_)
  have HKK := Lib.hid hK
  clear hK
  simp only [List.drop_succ_cons, List.drop_zero]
  refine headH_mk (by rfl) ?_
  go_simp
  refine (HC.out _).mono ?_
  rintro r w3 ⟨g', c', rfl, h3⟩
  obtain ⟨b', off', m1, ⟨v1, m2⟩, m3, m4⟩ := HN.out w3 g' c' h3
  have HM' := Lib.hid m1
  have H4 := Lib.hid m4
  clear h3 m1 m4
  refine HKK.out _ _ (trivial) ?_
  clear HKK K
  refine wpAnyK_seg 27 2 _ #[true, true, true, true, true, true, true, true, true, true, true, true, true, true, true, true, true, true, true, true, true, true, true, true, true, true, true, true, true, false, false, false] 3 (by kernel_rfl) noPanic_put (trivial) (by kernel_rfl) ?_
  simp only [List.take_succ_cons, List.take_zero, List.drop_succ_cons, List.drop_zero]
  repeat ((first | refine wpSegH_no (by rfl) ?_ | (refine wpSegH_yes (by rfl) ?_; apply Exists.intro; apply And.intro; (· (intro wx hS; (try dsimp only at hS); go_simp; first | done | with_reducible rfl)))); simp only [Act.put, List.setIfInBounds_toArray, List.set_cons_zero, List.set_cons_succ])
  refine wpSegH_nil ?_
  refine wpAnyK_seg 30 1 _ #[true, true, true, true, true, true, true, true, true, true, true, true, true, true, true, true, true, true, true, true, true, true, true, true, true, true, true, true, true, false, true, false] 2 (by kernel_rfl) noPanic_put (trivial) (by kernel_rfl) ?_
  simp only [List.take_succ_cons, List.take_zero, List.drop_succ_cons, List.drop_zero]
  repeat ((first | refine wpSegH_no (by rfl) ?_ | (refine wpSegH_yes (by rfl) ?_; apply Exists.intro; apply And.intro; (· (intro wx hS; (try dsimp only at hS); go_simp; first | done | with_reducible rfl)))); simp only [Act.put, List.setIfInBounds_toArray, List.set_cons_zero, List.set_cons_succ])
  refine wpSegH_nil ?_
  refine wpAnyK_seg 29 1 _ #[true, true, true, true, true, true, true, true, true, true, true, true, true, true, true, true, true, true, true, true, true, true, true, true, true, true, true, true, true, true, true, false] 1 (by kernel_rfl) noPanic_put (trivial) (by kernel_rfl) ?_
  simp only [List.take_succ_cons, List.take_zero, List.drop_succ_cons, List.drop_zero]
  repeat ((first | refine wpSegH_no (by rfl) ?_ | (refine wpSegH_yes (by rfl) ?_; apply Exists.intro; apply And.intro; (· (intro wx hS; (try dsimp only at hS); go_simp; first | done | with_reducible rfl)))); simp only [Act.put, List.setIfInBounds_toArray, List.set_cons_zero, List.set_cons_succ])
  refine wpSegH_nil ?_
  refine wpAnyK_seg 31 1 _ #[true, true, true, true, true, true, true, true, true, true, true, true, true, true, true, true, true, true, true, true, true, true, true, true, true, true, true, true, true, true, true, true] 0 (by kernel_rfl) noPanic_put (trivial) (by kernel_rfl) ?_
  simp only [List.take_succ_cons, List.take_zero, List.drop_succ_cons, List.drop_zero]
  repeat ((first | refine wpSegH_no (by rfl) ?_ | (refine wpSegH_yes (by rfl) ?_; apply Exists.intro; apply And.intro; (· (intro wx hS; (try dsimp only at hS); go_simp; first | done | with_reducible rfl)))); simp only [Act.put, List.setIfInBounds_toArray, List.set_cons_zero, List.set_cons_succ])
  refine wpSegH_nil ?_
  refine wpAnyK_next ?_
  refine wpAnyK_done (by kernel_rfl) (NoPanic.normal ?_)
  clear HC HT HM HN
  go_wp2_with fail
  refine HM'.out.mono ?_
  rintro r w4 ⟨rfl, j, hw4⟩
  have HF := Lib.hid (H4.out w4 j hw4)
  have m2' : w4.cell? ⟨b', off' + d.g * 2 + 1, none⟩ = some v1 := by rw [hw4]; exact m2
  have m3' : w4.frozen? ⟨b', off' + d.g * 2 + 1, none⟩ = false := by rw [hw4]; exact m3
  clear H4 HM' hw4 m2 m3
  go_wp2
  go_end0
  exact ⟨rfl, HF.out⟩
theorem dret_any {w0 w : World} {p : Nat} {T : List Value} {d : Dq} {W : Wd} {R : List Asr} (h : DAt w0 w p T d W [] R) (hg : d.g < W.gs.length) (hm : 1 ≤ (W.g d.g).n ∧ (W.g d.g).n ≤ 16) (ha : 0 ≤ d.x.2.1 ∧ d.x.2.1 < 8)
  (hi : 2 ≤ (W.g d.g).n → 0 ≤ (W.g d.g).z.getD ((W.g d.g).o + 10) 0 ∧ (W.g d.g).z.getD ((W.g d.g).o + 10) 0 < 8) :
  Calls Tryz.prog 133 #[.pointer (some ⟨d.q, 0, none⟩)] w fun r w' => DPost w0 p T d R (retM W [] d.g d.x) r w' := by
 obtain ⟨D, ra, rc, hf, h⟩ := h
 obtain ⟨a, hA, ha8⟩ := nat_of (n := 8) ha
 obtain ⟨b, off, s, cap, F⟩ := opF_of hf h hg hm
 have q0 := F.top.d0
 have q3 := (h.cel 10 rfl 3 _ rfl).1
 rw [hA] at q3
 have sl := F.top.k
 obtain ⟨m, hmm⟩ : ∃ m, m = (W.g d.g).n - 1 := ⟨_, rfl⟩
 have hreg := (reg_at F.stk hm.1 a ha8).1
 have HT := fun k => Lib.hid (F.htop hmm k)
 have HM := fun k => Lib.hid (F.hme k)
 have a0 : (0 : Int) ≤ (a : Int) := by omega
 have a8 : (a : Int) < 8 := by omega
 have hs := F.stk
 by_cases h1 : (W.g d.g).n = 1
 ·have e : retM W [] d.g d.x = ⟨{ W.setSt d.g 4 with en := if d.g = 0 then 1 else W.en }, [], none⟩ := by unfold retM; rw [if_pos (by omega)]
  rw [e]
  rw [h1] at hs sl
  have HC : Hid (∀ v k, Calls Tryz.prog 158 #[.slice (some ⟨s, 0, none⟩) 1 cap, .int .i64 v] (w.drewN k) fun e w' => e = .returned (.tuple #[.slice none 0 0, .bool false]) ∧ w.drewN k = w') := Lib.hid (fun v k => return_none s cap v _)
  rw [← hmm] at hreg
  generalize (W.g d.g).rg (a : Int) = v at *
  have c0 := F.st
  have HP : Hid (∀ k, Own w0 ((w.drewN k).setCell ⟨b, off + d.g * 2, none⟩ (.int .i64 4)) (wparts p (W.setSt d.g 4) D T ++ (CelA d.q (dcells p (d.g : Int) d.x d.th d.dr d.go ra 0 rc) :: RowGA 1 ra rc 0 (intc []) :: R))) := Lib.hid (fun k => own_st (h.q1 rfl) hf hg F.aa 4)
  have hf1 : D.fits (W.setSt d.g 4) := hf.setG _ _
  have HF := Lib.hid hf1
  obtain ⟨c0, c1⟩ := c0
  have q1 := F.top.d1
  have hpne : ∀ k, (w.drewN k).cell? ⟨d.q, 0, none⟩ = some (.pointer (some ⟨p, 0, none⟩)) := fun k => q0
  generalize hW : ({ W.setSt d.g 4 with en := if d.g = 0 then 1 else W.en } : Wd) = W'
  have HW := Lib.hid hW
  clear hf F hA ha hm hs h1 e hmm hf1 hi hW
  have H := Lib.hid h
  clear h
  go_enter Tryz.func133, Tryz.ntmps133
  go_upto_region 0 with fail
  refine wp_region_lexK (fun wx => ∃ nq, wx = World.drewN (w) nq) 16 6 (Array.replicate 22 false) #[true, true, true, true, true, true, true, true, true, true, true, true, true, true, true, true, false, false, false, false, false, false] (by kernel_rfl) (by kernel_rfl) ?_
  refine wpAnyK_seg 0 1 _ #[true, false, false, false, false, false, false, false, false, false, false, false, false, false, false, false, false, false, false, false, false, false] 15 (by kernel_rfl) noPanic_put (drew_q w) (by kernel_rfl) ?_
  simp only [List.take_succ_cons, List.take_zero, List.drop_zero]
  repeat ((first | refine wpSegH_no (by rfl) ?_ | (refine wpSegH_yes (by rfl) ?_; apply Exists.intro; apply And.intro; (· (rintro wx ⟨nq, rfl⟩; go_simp; first | done | with_reducible rfl)))); simp only [Act.put, List.setIfInBounds_toArray, List.set_cons_zero, List.set_cons_succ])
  refine wpSegH_nil ?_
  refine wpAnyK_seg 5 1 _ #[true, false, false, false, false, true, false, false, false, false, false, false, false, false, false, false, false, false, false, false, false, false] 14 (by kernel_rfl) noPanic_put (drew_q w) (by kernel_rfl) ?_
  simp only [List.take_succ_cons, List.take_zero, List.drop_succ_cons, List.drop_zero]
  repeat ((first | refine wpSegH_no (by rfl) ?_ | (refine wpSegH_yes (by rfl) ?_; apply Exists.intro; apply And.intro; (· (rintro wx ⟨nq, rfl⟩; go_simp; first | done | with_reducible rfl)))); simp only [Act.put, List.setIfInBounds_toArray, List.set_cons_zero, List.set_cons_succ])
  refine wpSegH_nil ?_
  refine wpAnyK_seg 7 5 _ #[true, false, false, false, false, true, false, true, true, true, true, true, false, false, false, false, false, false, false, false, false, false] 9 (by kernel_rfl) noPanic_put (drew_q w) (by kernel_rfl) ?_
  simp only [List.take_succ_cons, List.take_zero, List.drop_succ_cons, List.drop_zero]
  repeat ((first | refine wpSegH_no (by rfl) ?_ | (refine wpSegH_yes (by rfl) ?_; apply Exists.intro; apply And.intro; (· (rintro wx ⟨nq, rfl⟩; go_simp; first | done | with_reducible rfl)))); simp only [Act.put, List.setIfInBounds_toArray, List.set_cons_zero, List.set_cons_succ])
  refine wpSegH_nil ?_
  refine wpAnyK_one 1 _ #[true, true, false, false, false, true, false, true, true, true, true, true, false, false, false, false, false, false, false, false, false, false] 8 (by kernel_rfl) (fun K hK => ?_)
  have HKK := Lib.hid hK
  clear hK
  simp only [List.drop_succ_cons, List.drop_zero]
  refine headH_mk (by rfl) ?_
  go_simp
  refine (HM 1).out.mono ?_
  rintro r w1 ⟨rfl, k1, rfl⟩
  refine HKK.out _ _ ((by first | exact ⟨_, rfl⟩ | exact ⟨_, World.drewN_drewN _ _ _⟩)) ?_
  clear HKK K
  refine wpAnyK_seg 2 3 _ #[true, true, true, true, true, true, false, true, true, true, true, true, false, false, false, false, false, false, false, false, false, false] 5 (by kernel_rfl) noPanic_put ((by first | exact ⟨_, rfl⟩ | exact ⟨_, World.drewN_drewN _ _ _⟩)) (by kernel_rfl) ?_
  simp only [List.take_succ_cons, List.take_zero, List.drop_succ_cons, List.drop_zero]
  repeat ((first | refine wpSegH_no (by rfl) ?_ | (refine wpSegH_yes (by rfl) ?_; apply Exists.intro; apply And.intro; (· (rintro wx ⟨nq, rfl⟩; go_simp; first | done | with_reducible rfl)))); simp only [Act.put, List.setIfInBounds_toArray, List.set_cons_zero, List.set_cons_succ])
  refine wpSegH_nil ?_
  refine wpAnyK_one 6 _ #[true, true, true, true, true, true, true, true, true, true, true, true, false, false, false, false, false, false, false, false, false, false] 4 (by kernel_rfl) (fun K hK => ?_)
  have HKK := Lib.hid hK
  clear hK
  simp only [List.drop_succ_cons, List.drop_zero]
  refine headH_mk (by rfl) ?_
  go_simp
  refine (HT _).out.mono ?_
  rintro r w2 ⟨rfl, k2, rfl⟩
  refine HKK.out _ _ ((by first | exact ⟨_, rfl⟩ | exact ⟨_, World.drewN_drewN _ _ _⟩)) ?_
  clear HKK K
  refine wpAnyK_seg 12 4 _ #[true, true, true, true, true, true, true, true, true, true, true, true, true, true, true, true, false, false, false, false, false, false] 0 (by kernel_rfl) noPanic_put ((by first | exact ⟨_, rfl⟩ | exact ⟨_, World.drewN_drewN _ _ _⟩)) (by kernel_rfl) ?_
  simp only [List.take_succ_cons, List.take_zero, List.drop_succ_cons, List.drop_zero]
  repeat ((first | refine wpSegH_no (by rfl) ?_ | (refine wpSegH_yes (by rfl) ?_; apply Exists.intro; apply And.intro; (· (rintro wx ⟨nq, rfl⟩; go_simp; first | done | with_reducible rfl)))); simp only [Act.put, List.setIfInBounds_toArray, List.set_cons_zero, List.set_cons_succ])
  refine wpSegH_nil ?_
  refine wpAnyK_next ?_
  refine wpAnyK_phase (fun _ => True) 6 0 #[true, true, true, true, true, true, true, true, true, true, true, true, true, true, true, true, true, true, true, true, true, true] ?_
  refine wpAnyK_one 16 _ #[true, true, true, true, true, true, true, true, true, true, true, true, true, true, true, true, true, false, false, false, false, false] 5 (by kernel_rfl) (fun K hK => ?_)
  have HKK := Lib.hid hK
  clear hK
  simp only [List.drop_succ_cons, List.drop_zero]
  refine headH_mk (by rfl) ?_
  go_simp
  refine (HC.out _ _).mono ?_
  rintro r w3 ⟨rfl, rfl⟩
  refine HKK.out _ _ (trivial) ?_
  clear HKK K
  refine wpAnyK_seg 17 2 _ #[true, true, true, true, true, true, true, true, true, true, true, true, true, true, true, true, true, true, true, false, false, false] 3 (by kernel_rfl) noPanic_put (trivial) (by kernel_rfl) ?_
  simp only [List.take_succ_cons, List.take_zero, List.drop_succ_cons, List.drop_zero]
  repeat ((first | refine wpSegH_no (by rfl) ?_ | (refine wpSegH_yes (by rfl) ?_; apply Exists.intro; apply And.intro; (· (intro wx hS; (try dsimp only at hS); go_simp; first | done | with_reducible rfl)))); simp only [Act.put, List.setIfInBounds_toArray, List.set_cons_zero, List.set_cons_succ])
  refine wpSegH_nil ?_
  refine wpAnyK_seg 20 1 _ #[true, true, true, true, true, true, true, true, true, true, true, true, true, true, true, true, true, true, true, false, true, false] 2 (by kernel_rfl) noPanic_put (trivial) (by kernel_rfl) ?_
  simp only [List.take_succ_cons, List.take_zero, List.drop_succ_cons, List.drop_zero]
  repeat ((first | refine wpSegH_no (by rfl) ?_ | (refine wpSegH_yes (by rfl) ?_; apply Exists.intro; apply And.intro; (· (intro wx hS; (try dsimp only at hS); go_simp; first | done | with_reducible rfl)))); simp only [Act.put, List.setIfInBounds_toArray, List.set_cons_zero, List.set_cons_succ])
  refine wpSegH_nil ?_
  refine wpAnyK_seg 19 1 _ #[true, true, true, true, true, true, true, true, true, true, true, true, true, true, true, true, true, true, true, true, true, false] 1 (by kernel_rfl) noPanic_put (trivial) (by kernel_rfl) ?_
  simp only [List.take_succ_cons, List.take_zero, List.drop_succ_cons, List.drop_zero]
  repeat ((first | refine wpSegH_no (by rfl) ?_ | (refine wpSegH_yes (by rfl) ?_; apply Exists.intro; apply And.intro; (· (intro wx hS; (try dsimp only at hS); go_simp; first | done | with_reducible rfl)))); simp only [Act.put, List.setIfInBounds_toArray, List.set_cons_zero, List.set_cons_succ])
  refine wpSegH_nil ?_
  refine wpAnyK_seg 21 1 _ #[true, true, true, true, true, true, true, true, true, true, true, true, true, true, true, true, true, true, true, true, true, true] 0 (by kernel_rfl) noPanic_put (trivial) (by kernel_rfl) ?_
  simp only [List.take_succ_cons, List.take_zero, List.drop_succ_cons, List.drop_zero]
  repeat ((first | refine wpSegH_no (by rfl) ?_ | (refine wpSegH_yes (by rfl) ?_; apply Exists.intro; apply And.intro; (· (intro wx hS; (try dsimp only at hS); go_simp; first | done | with_reducible rfl)))); simp only [Act.put, List.setIfInBounds_toArray, List.set_cons_zero, List.set_cons_succ])
  refine wpSegH_nil ?_
  refine wpAnyK_next ?_
  refine wpAnyK_done (by kernel_rfl) (NoPanic.normal ?_)
  go_wp2_with fail
  refine (HM _).out.mono ?_
  rintro r w4 ⟨rfl, j0, hw0⟩
  obtain ⟨j, hw4⟩ := q_q2 hw0
  clear hw0
  have ho := HP.out j
  rw [← hw4] at ho
  have c0' : w4.cell? ⟨b, off + d.g * 2, none⟩ = some (.int .i64 ((W.g d.g).st)) := by rw [hw4]; exact c0
  have c1' : w4.frozen? ⟨b, off + d.g * 2, none⟩ = false := by rw [hw4]; exact c1
  have q0' := (ho.cel 10 rfl 0 _ rfl).1
  have q1' := (ho.cel 10 rfl 1 _ rfl).1
  obtain ⟨e0, e1⟩ := ho.cel 0 rfl 9 _ rfl
  have ho2 := ho.setAt 0 rfl 9 (.int .i64 1)
  have HO := Lib.hid ho
  have HO2 := Lib.hid ho2
  clear ho ho2 hw4 HP HM HT HC c0 c1
  by_cases hz : d.g = 0
  ·have hz' : ((d.g : Int) == 0) = true := by simp [hz]
   have HF2 : Hid (DAt w0 ((w4.setCell ⟨b, off + d.g * 2, none⟩ (.int .i64 4)).setCell ⟨p, 9, none⟩ (.int .i64 1)) p T d W' [] R) := Lib.hid (by rw [← HW.out]; exact ⟨D, ra, rc, ⟨HF.out.f, HF.out.g, HF.out.c, HF.out.n, HF.out.l, HF.out.k⟩, by rw [if_pos hz]; exact HO2.out⟩)
   clear HO HO2 hz
   go_upto_region 4 with fail
   generalize w4.setCell ⟨b, off + d.g * 2, none⟩ (.int .i64 4) = w5 at *
   go_wp2
   go_end0
   exact ⟨rfl, HF2.out⟩
  ·have hz' : ((d.g : Int) == 0) = false := by simp; omega
   have HF2 : Hid (DAt w0 (w4.setCell ⟨b, off + d.g * 2, none⟩ (.int .i64 4)) p T d W' [] R) := Lib.hid (by rw [← HW.out]; exact ⟨D, ra, rc, ⟨HF.out.f, HF.out.g, HF.out.c, HF.out.n, HF.out.l, HF.out.k⟩, by rw [if_neg hz]; exact HO.out⟩)
   clear HO HO2 hz
   go_upto_region 4 with fail
   generalize w4.setCell ⟨b, off + d.g * 2, none⟩ (.int .i64 4) = w5 at *
   go_wp2
   go_end0
   exact ⟨rfl, HF2.out⟩
 ·obtain ⟨k, hk, hk8⟩ := nat_of (n := 8) (hi (by omega))
  obtain ⟨n, hn⟩ : ∃ n, (W.g d.g).n = n + 2 := ⟨(W.g d.g).n - 2, by omega⟩
  have e : retM W [] d.g d.x = ⟨W.setG d.g ⟨(W.g d.g).st, n + 1, ((W.g d.g).z.take ((n + 1) * 11)).set (n * 11 + 2 + k) ((W.g d.g).rg (a : Int))⟩, [], none⟩ := by
   unfold retM
   rw [if_neg (by omega), hA, hk, hn]
   rfl
  rw [e]
  have hk2 : (W.g d.g).z[n * 11 + 21]? = some (k : Int) := by
   unfold Gt.o at hk
   rw [hn, List.getD_eq_getElem?_getD] at hk
   have hl := hs.len
   rw [hn] at hl
   have hlt : n * 11 + 21 < (W.g d.g).z.length := by omega
   rw [show (n + 2 - 1) * 11 + 10 = n * 11 + 21 by omega, List.getElem?_eq_getElem hlt] at hk
   rw [List.getElem?_eq_getElem hlt]
   simpa using hk
  rw [hn] at hs sl
  have HC : Hid (∀ k', Calls Tryz.prog 158 #[.slice (some ⟨s, 0, none⟩) (n + 2) cap, .int .i64 ((W.g d.g).rg (a : Int))] (w.drewN k') fun e w' => ∃ g' cap', e = .returned (.tuple #[.slice (some ⟨g', 0, none⟩) (n + 1) cap', .bool true]) ∧ Own w0 w' (StkA g' (n + 1) cap' (((W.g d.g).z.take ((n + 1) * 11)).set (n * 11 + 2 + k) ((W.g d.g).rg (a : Int))) :: (wparts p W D T ++ (CelA d.q (dcells p (d.g : Int) d.x d.th d.dr d.go ra 0 rc) :: RowGA 1 ra rc 0 (intc []) :: R)))) :=
   Lib.hid (fun k' => (return_any s n cap _ ((W.g d.g).rg (a : Int)) k (w.drewN k') (hs.below (below_dN w k')) (by omega) hk2 hk8).mono (fun r w' ⟨g', c', h1, h2, h3, h4⟩ => ⟨g', c', h1, own_stkNew (h.step (below_dN w k')) h4 h3 h2⟩))
  have HN := Lib.hid (fun w g' c' h => DAt.newStk (w0 := w0) (w := w) (T := T) (R := R) (rd := []) (s' := g') (cap' := c') (n' := n + 1) (z' := ((W.g d.g).z.take ((n + 1) * 11)).set (n * 11 + 2 + k) ((W.g d.g).rg (a : Int))) (p := p) (ra := ra) (rc := rc) hf hg hm h)
  rw [← hmm] at hreg
  generalize (W.g d.g).rg (a : Int) = v at *
  clear h hf F hA ha hm hs h1 e hmm hg hn hk hk2 hi
  go_enter Tryz.func133, Tryz.ntmps133
  go_upto_region 0 with fail
  refine wp_region_lexK (fun wx => ∃ nq, wx = World.drewN (w) nq) 16 6 (Array.replicate 22 false) #[true, true, true, true, true, true, true, true, true, true, true, true, true, true, true, true, false, false, false, false, false, false] (by kernel_rfl) (by kernel_rfl) ?_
  refine wpAnyK_seg 0 1 _ #[true, false, false, false, false, false, false, false, false, false, false, false, false, false, false, false, false, false, false, false, false, false] 15 (by kernel_rfl) noPanic_put (drew_q w) (by kernel_rfl) ?_
  simp only [List.take_succ_cons, List.take_zero, List.drop_zero]
  repeat ((first | refine wpSegH_no (by rfl) ?_ | (refine wpSegH_yes (by rfl) ?_; apply Exists.intro; apply And.intro; (· (rintro wx ⟨nq, rfl⟩; go_simp; first | done | with_reducible rfl)))); simp only [Act.put, List.setIfInBounds_toArray, List.set_cons_zero, List.set_cons_succ])
  refine wpSegH_nil ?_
  refine wpAnyK_seg 5 1 _ #[true, false, false, false, false, true, false, false, false, false, false, false, false, false, false, false, false, false, false, false, false, false] 14 (by kernel_rfl) noPanic_put (drew_q w) (by kernel_rfl) ?_
  simp only [List.take_succ_cons, List.take_zero, List.drop_succ_cons, List.drop_zero]
  repeat ((first | refine wpSegH_no (by rfl) ?_ | (refine wpSegH_yes (by rfl) ?_; apply Exists.intro; apply And.intro; (· (rintro wx ⟨nq, rfl⟩; go_simp; first | done | with_reducible rfl)))); simp only [Act.put, List.setIfInBounds_toArray, List.set_cons_zero, List.set_cons_succ])
  refine wpSegH_nil ?_
  refine wpAnyK_seg 7 5 _ #[true, false, false, false, false, true, false, true, true, true, true, true, false, false, false, false, false, false, false, false, false, false] 9 (by kernel_rfl) noPanic_put (drew_q w) (by kernel_rfl) ?_
  simp only [List.take_succ_cons, List.take_zero, List.drop_succ_cons, List.drop_zero]
  repeat ((first | refine wpSegH_no (by rfl) ?_ | (refine wpSegH_yes (by rfl) ?_; apply Exists.intro; apply And.intro; (· (rintro wx ⟨nq, rfl⟩; go_simp; first | done | with_reducible rfl)))); simp only [Act.put, List.setIfInBounds_toArray, List.set_cons_zero, List.set_cons_succ])
  refine wpSegH_nil ?_
  refine wpAnyK_one 1 _ #[true, true, false, false, false, true, false, true, true, true, true, true, false, false, false, false, false, false, false, false, false, false] 8 (by kernel_rfl) (fun K hK => ?_)
  have HKK := Lib.hid hK
  clear hK
  simp only [List.drop_succ_cons, List.drop_zero]
  refine headH_mk (by rfl) ?_
  go_simp
  refine (HM 1).out.mono ?_
  rintro r w1 ⟨rfl, k1, rfl⟩
  refine HKK.out _ _ ((by first | exact ⟨_, rfl⟩ | exact ⟨_, World.drewN_drewN _ _ _⟩)) ?_
  clear HKK K
  refine wpAnyK_seg 2 3 _ #[true, true, true, true, true, true, false, true, true, true, true, true, false, false, false, false, false, false, false, false, false, false] 5 (by kernel_rfl) noPanic_put ((by first | exact ⟨_, rfl⟩ | exact ⟨_, World.drewN_drewN _ _ _⟩)) (by kernel_rfl) ?_
  simp only [List.take_succ_cons, List.take_zero, List.drop_succ_cons, List.drop_zero]
  repeat ((first | refine wpSegH_no (by rfl) ?_ | (refine wpSegH_yes (by rfl) ?_; apply Exists.intro; apply And.intro; (· (rintro wx ⟨nq, rfl⟩; go_simp; first | done | with_reducible rfl)))); simp only [Act.put, List.setIfInBounds_toArray, List.set_cons_zero, List.set_cons_succ])
  refine wpSegH_nil ?_
  refine wpAnyK_one 6 _ #[true, true, true, true, true, true, true, true, true, true, true, true, false, false, false, false, false, false, false, false, false, false] 4 (by kernel_rfl) (fun K hK => ?_)
  have HKK := Lib.hid hK
  clear hK
  simp only [List.drop_succ_cons, List.drop_zero]
  refine headH_mk (by rfl) ?_
  go_simp
  refine (HT _).out.mono ?_
  rintro r w2 ⟨rfl, k2, rfl⟩
  refine HKK.out _ _ ((by first | exact ⟨_, rfl⟩ | exact ⟨_, World.drewN_drewN _ _ _⟩)) ?_
  clear HKK K
  refine wpAnyK_seg 12 4 _ #[true, true, true, true, true, true, true, true, true, true, true, true, true, true, true, true, false, false, false, false, false, false] 0 (by kernel_rfl) noPanic_put ((by first | exact ⟨_, rfl⟩ | exact ⟨_, World.drewN_drewN _ _ _⟩)) (by kernel_rfl) ?_
  simp only [List.take_succ_cons, List.take_zero, List.drop_succ_cons, List.drop_zero]
  repeat ((first | refine wpSegH_no (by rfl) ?_ | (refine wpSegH_yes (by rfl) ?_; apply Exists.intro; apply And.intro; (· (rintro wx ⟨nq, rfl⟩; go_simp; first | done | with_reducible rfl)))); simp only [Act.put, List.setIfInBounds_toArray, List.set_cons_zero, List.set_cons_succ])
  refine wpSegH_nil ?_
  refine wpAnyK_next ?_
  refine wpAnyK_phase (fun _ => True) 6 0 #[true, true, true, true, true, true, true, true, true, true, true, true, true, true, true, true, true, true, true, true, true, true] ?_
  refine wpAnyK_one 16 _ #[true, true, true, true, true, true, true, true, true, true, true, true, true, true, true, true, true, false, false, false, false, false] 5 (by kernel_rfl) (fun K hK => ?_)
  have HKK := Lib.hid hK
  clear hK
  simp only [List.drop_succ_cons, List.drop_zero]
  refine headH_mk (by rfl) ?_
  go_simp
  refine (HC.out _).mono ?_
  rintro r w3 ⟨g', c', rfl, h3⟩
  obtain ⟨b', off', m1, ⟨v1, m2⟩, m3, m4⟩ := HN.out w3 g' c' h3
  have HM' := Lib.hid m1
  have H4 := Lib.hid m4
  clear h3 m1 m4
  refine HKK.out _ _ (trivial) ?_
  clear HKK K
  refine wpAnyK_seg 17 2 _ #[true, true, true, true, true, true, true, true, true, true, true, true, true, true, true, true, true, true, true, false, false, false] 3 (by kernel_rfl) noPanic_put (trivial) (by kernel_rfl) ?_
  simp only [List.take_succ_cons, List.take_zero, List.drop_succ_cons, List.drop_zero]
  repeat ((first | refine wpSegH_no (by rfl) ?_ | (refine wpSegH_yes (by rfl) ?_; apply Exists.intro; apply And.intro; (· (intro wx hS; (try dsimp only at hS); go_simp; first | done | with_reducible rfl)))); simp only [Act.put, List.setIfInBounds_toArray, List.set_cons_zero, List.set_cons_succ])
  refine wpSegH_nil ?_
  refine wpAnyK_seg 20 1 _ #[true, true, true, true, true, true, true, true, true, true, true, true, true, true, true, true, true, true, true, false, true, false] 2 (by kernel_rfl) noPanic_put (trivial) (by kernel_rfl) ?_
  simp only [List.take_succ_cons, List.take_zero, List.drop_succ_cons, List.drop_zero]
  repeat ((first | refine wpSegH_no (by rfl) ?_ | (refine wpSegH_yes (by rfl) ?_; apply Exists.intro; apply And.intro; (· (intro wx hS; (try dsimp only at hS); go_simp; first | done | with_reducible rfl)))); simp only [Act.put, List.setIfInBounds_toArray, List.set_cons_zero, List.set_cons_succ])
  refine wpSegH_nil ?_
  refine wpAnyK_seg 19 1 _ #[true, true, true, true, true, true, true, true, true, true, true, true, true, true, true, true, true, true, true, true, true, false] 1 (by kernel_rfl) noPanic_put (trivial) (by kernel_rfl) ?_
  simp only [List.take_succ_cons, List.take_zero, List.drop_succ_cons, List.drop_zero]
  repeat ((first | refine wpSegH_no (by rfl) ?_ | (refine wpSegH_yes (by rfl) ?_; apply Exists.intro; apply And.intro; (· (intro wx hS; (try dsimp only at hS); go_simp; first | done | with_reducible rfl)))); simp only [Act.put, List.setIfInBounds_toArray, List.set_cons_zero, List.set_cons_succ])
  refine wpSegH_nil ?_
  refine wpAnyK_seg 21 1 _ #[true, true, true, true, true, true, true, true, true, true, true, true, true, true, true, true, true, true, true, true, true, true] 0 (by kernel_rfl) noPanic_put (trivial) (by kernel_rfl) ?_
  simp only [List.take_succ_cons, List.take_zero, List.drop_succ_cons, List.drop_zero]
  repeat ((first | refine wpSegH_no (by rfl) ?_ | (refine wpSegH_yes (by rfl) ?_; apply Exists.intro; apply And.intro; (· (intro wx hS; (try dsimp only at hS); go_simp; first | done | with_reducible rfl)))); simp only [Act.put, List.setIfInBounds_toArray, List.set_cons_zero, List.set_cons_succ])
  refine wpSegH_nil ?_
  refine wpAnyK_next ?_
  refine wpAnyK_done (by kernel_rfl) (NoPanic.normal ?_)
  clear HC HT HM HN
  go_wp2_with fail
  refine HM'.out.mono ?_
  rintro r w4 ⟨rfl, j, hw4⟩
  have HF := Lib.hid (H4.out w4 j hw4)
  have m2' : w4.cell? ⟨b', off' + d.g * 2 + 1, none⟩ = some v1 := by rw [hw4]; exact m2
  have m3' : w4.frozen? ⟨b', off' + d.g * 2 + 1, none⟩ = false := by rw [hw4]; exact m3
  clear H4 HM' hw4 m2 m3
  go_wp2
  go_end0
  exact ⟨rfl, HF.out⟩
theorem gbegin_any (fn arg : Int) (w : World) : Calls Tryz.prog 44 #[.int .i64 fn, .int .i64 arg] w fun e w' => ∃ g, e = .returned (.agg #[.int .i64 1, .slice (some ⟨g, 0, none⟩) 1 1]) ∧ w.heap.size ≤ g ∧ StkAt w' g 1 1 (newF fn arg 0) ∧ Below w.heap.size w w' := by
 have hb := Lib.hid (fun w => begin_any fn arg w)
 go_enter Tryz.func44, Tryz.ntmps44
 go_wp2_with fail
 refine (hb.out _).mono ?_
 rintro r w1 ⟨g, rfl, h1, h2, h3⟩
 obtain ⟨x0, y0⟩ := (Blk.mk w [.int .i64 0, .slice none 0 0] 115 w.heap.size rfl).below h3 0 _ rfl
 obtain ⟨x1, y1⟩ := (Blk.mk w [.int .i64 0, .slice none 0 0] 115 w.heap.size rfl).below h3 1 _ rfl
 have hlt := World.block_lt_of_cell? w1 _ x0
 have hgs : w.heap.size < g := by have := h1; simp at this; omega
 have hB := below_on (below_alloc1 w (.cells #[.int .i64 0, .slice none 0 0] 115)) h3
 have HS := Lib.hid h2
 have HB := Lib.hid hB
 clear h1 h2 h3 hB hb
 obtain ⟨b, hbe⟩ : ∃ b, b = w.heap.size := ⟨_, rfl⟩
 rw [← hbe] at x0 y0 x1 y1 hlt hgs
 have HFin : Hid (StkAt ((w1.setCell ⟨b, 0, none⟩ (.int .i64 1)).setCell ⟨b, 1, none⟩ (.slice (some ⟨g, 0, none⟩) 1 1)) g 1 1 (newF fn arg 0) ∧ Below w.heap.size w ((w1.setCell ⟨b, 0, none⟩ (.int .i64 1)).setCell ⟨b, 1, none⟩ (.slice (some ⟨g, 0, none⟩) 1 1))) := Lib.hid
  ⟨(HS.out.chg ((Chg.refl (F := [b]) _).setCell _ (.inl (by simp))) (by simp; omega)).chg ((Chg.refl (F := [b]) _).setCell _ (.inl (by simp))) (by simp; omega), (HB.out.setCell (by simp [hbe]) _).setCell (by simp [hbe]) _⟩
 have HBE := Lib.hid hbe
 have hgb := HBE.out
 generalize hsz : w.heap.size = sz at *
 have HSZ := Lib.hid hsz
 clear hsz
 subst hgb
 clear HS HB hbe HBE
 go_wp2
 refine bodyPost_ret (v := .agg #[.int .i64 1, .slice (some ⟨g, 0, none⟩) 1 1]) (by simp [results, Tryz.results44, go_sem, x0, x1, hlt]) rfl ⟨g, rfl, by have := HSZ.out; omega, ?_, ?_⟩
 ·exact HFin.out.1
 ·rw [HSZ.out]; exact HFin.out.2
theorem info_G : (Tryz.prog.info? 115).map (fun i => (i.zero, i.size, i.bytes)) = some (some (.agg #[.int .i64 0, .slice none 0 0]), 2, 32) := by kernel_rfl
theorem gcs_snoc (sk : List (Nat × Nat)) (gs : List Gt) (s : Nat × Nat) (G : Gt) (h : sk.length = gs.length) : gcs (sk ++ [s]) (gs ++ [G]) = gcs sk gs ++ [.int .i64 G.st, .slice (some ⟨s.1, 0, none⟩) G.n s.2] := by
 unfold gcs
 rw [List.zip_append h]
 simp
theorem stks_snoc (sk : List (Nat × Nat)) (gs : List Gt) (s : Nat × Nat) (G : Gt) (h : sk.length = gs.length) : stks (sk ++ [s]) (gs ++ [G]) = stks sk gs ++ [StkA s.1 G.n s.2 G.z] := by
 unfold stks
 rw [List.zipWith_append h]
 rfl
theorem Wd.setSt_same (W : Wd) (i : Nat) (s : Int) (h : (W.g i).st = s) (hi : i < W.gs.length) : W.setSt i s = W := by
 unfold Wd.setSt Wd.setG
 have : ({ W.g i with st := s } : Gt) = W.g i := by rw [← h]
 rw [this, set_self _ _ _ (Wd.g_at hi)]
theorem own_spawn {w0 w : World} {p : Nat} {W : Wd} {D : Wa} {T : List Value} {Y : List Asr} {g' n : Nat} {a9 : Option Addr} {c9 : Nat} {z : List Int} (hf : D.fits W) (hn : n = W.gs.length)
  (h : Own w0 w ((((wparts p W D T ++ Y) ++ [StkA g' 1 1 z]).set 2 (RowGA 2 a9 c9 (n + 1) (gcs D.sk W.gs ++ [.int .i64 1, .slice (some ⟨g', 0, none⟩) 1 1]))).set 0 (CelA p ((wcells W D ++ T).set 2 (.slice a9 (n + 1) c9))))) :
  Own w0 w (wparts p { W with gs := W.gs ++ [⟨1, 1, z⟩] } { D with aa := a9, ac := c9, sk := D.sk ++ [(g', 1)] } T ++ Y) ∧ ({ D with aa := a9, ac := c9, sk := D.sk ++ [(g', 1)] } : Wa).fits { W with gs := W.gs ++ [⟨1, 1, z⟩] } := by
 refine ⟨?_, ⟨hf.f, by simp [hf.g], hf.c, hf.n, hf.l, hf.k⟩⟩
 have h1 : Own w0 w ((((wparts p W D T ++ Y).set 2 (RowGA 2 a9 c9 (n + 1) (gcs D.sk W.gs ++ [.int .i64 1, .slice (some ⟨g', 0, none⟩) 1 1]))).set 0 (CelA p ((wcells W D ++ T).set 2 (.slice a9 (n + 1) c9)))) ++ [StkA g' 1 1 z]) := h
 have h2 := h1.perm (List.perm_append_singleton _ _)
 have h3 := ((h2.pick 4 rfl).pick 1 rfl).lstAdd
 have h4 := h3.back (i := 3) (As := (((wparts p W D T ++ Y).set 2 (RowGA 2 a9 c9 (n + 1) (gcs D.sk W.gs ++ [.int .i64 1, .slice (some ⟨g', 0, none⟩) 1 1]))).set 0 (CelA p ((wcells W D ++ T).set 2 (.slice a9 (n + 1) c9))))) (by simp [wparts])
 have e1 : (W.gs ++ [(⟨1, 1, z⟩ : Gt)]).length = n + 1 := by rw [List.length_append, ← hn]; rfl
 simp only [wparts, wcells, gcs_snoc _ _ _ _ hf.g, stks_snoc _ _ _ _ hf.g, e1]
 exact h4
theorem dspawn_any {w0 w : World} {p : Nat} {T : List Value} {d : Dq} {W : Wd} {R : List Asr} (h : DAt w0 w p T d W [] R) (hg : d.g < W.gs.length) (hm : 1 ≤ (W.g d.g).n ∧ (W.g d.g).n ≤ 16) (ha : 0 ≤ d.x.2.2.1 ∧ d.x.2.2.1 < 8) (hc : 0 ≤ d.x.2.2.2 ∧ d.x.2.2.2 < 8) (hgs : W.gs.length ≤ 100) :
  Calls Tryz.prog 134 #[.pointer (some ⟨d.q, 0, none⟩)] w fun r w' => DPost w0 p T d R (spawnM W [] d.g d.x) r w' := by
 obtain ⟨D, ra, rc, hf, h⟩ := h
 obtain ⟨a, hA, ha8⟩ := nat_of (n := 8) ha
 obtain ⟨c, hC, hc8⟩ := nat_of (n := 8) hc
 obtain ⟨b, off, s, cap, F⟩ := opF_of hf h hg hm
 have q0 := F.top.d0
 have q3 := (h.cel 10 rfl 3 _ rfl).1
 have q4 := (h.cel 10 rfl 4 _ rfl).1
 have p2 := (h.cel 0 rfl 2 _ rfl).1
 rw [hA] at q4
 by_cases hl : 100 ≤ W.gs.length
 ·have e : spawnM W [] d.g d.x = ⟨W, [], some (-5)⟩ := by unfold spawnM; rw [if_pos hl]
  rw [e]
  have hd : decide ((100 : Int) ≤ (W.gs.length : Int)) = true := by simpa using (by omega : (100 : Int) ≤ (W.gs.length : Int))
  have H := Lib.hid (show DAt w0 w p T d W [] R from ⟨D, ra, rc, hf, h⟩)
  clear F h hg
  generalize W.gs.length = n at *
  clear hf q3 q4 hl e
  go_enter Tryz.func134, Tryz.ntmps134
  go_wp2
  exact ⟨rfl, rfl, H.out⟩
 ·have e : spawnM W [] d.g d.x = ⟨({ W with gs := W.gs ++ [⟨1, 1, newF d.x.2.1 ((W.g d.g).rg (a : Int)) 0⟩] } : Wd).put d.g (c : Int) (W.gs.length : Int), [(W.gs.length : Int)], none⟩ := by unfold spawnM; rw [if_neg hl, hA, hC]; rfl
  rw [e]
  have hd : decide ((100 : Int) ≤ (W.gs.length : Int)) = false := by simpa using (by omega : ¬ (100 : Int) ≤ (W.gs.length : Int))
  generalize hv : (W.g d.g).rg (a : Int) = v
  have hreg := (reg_at F.stk hm.1 a ha8).1
  rw [hv] at hreg
  have a0 : (0 : Int) ≤ (a : Int) := by omega
  have a8 : (a : Int) < 8 := by omega
  have SCB : ∀ (wx : World) (A2 : Asr) (Y : List Asr), Own w0 wx ((wparts p W D T ++ (CelA d.q (dcells p (d.g : Int) d.x d.th d.dr d.go ra 0 rc) :: RowGA 1 ra rc 0 (intc []) :: R)).set 2 A2 ++ Y) →
    wx.cell? ⟨d.q, 0, none⟩ = some (.pointer (some ⟨p, 0, none⟩)) ∧ wx.cell? ⟨p, 2, none⟩ = some (.slice D.aa W.gs.length D.ac) ∧ wx.cell? ⟨d.q, 3, none⟩ = some (.int .i64 d.x.2.1) ∧ wx.cell? ⟨d.q, 4, none⟩ = some (.int .i64 (a : Int)) ∧ wx.cell? ⟨s, ((W.g d.g).n - 1) * 11 + 2 + a, none⟩ = some (.int .i64 v) := by
   intro wx A2 Y ho
   obtain ⟨Fx, ⟨_, hk⟩, -⟩ := (ho.pick 3 rfl).lstFact (stks_at F.sk (Wd.g_at hg))
   have h4 := (ho.cel 10 rfl 4 _ rfl).1
   rw [hA] at h4
   have hr := (reg_at hk hm.1 a ha8).1
   rw [hv] at hr
   exact ⟨(ho.cel 10 rfl 0 _ rfl).1, (ho.cel 0 rfl 2 _ rfl).1, (ho.cel 10 rfl 3 _ rfl).1, h4, hr⟩
  have htop := dtop_any (F.top.drewN 1)
  have H := Lib.hid h
  have HF := Lib.hid hf
  obtain ⟨i0, hi0, hz0, hz1, hz2⟩ := info_parts info_G
  have Hi := Lib.hid hi0; clear hi0
  have Hz0 := Lib.hid hz0; clear hz0
  have Hz1 := Lib.hid hz1; clear hz1
  have Hz2 := Lib.hid hz2; clear hz2
  have HL := Lib.hid (show W.gs.length ≤ 100 from hgs)
  have HG := Lib.hid hg
  have HM := Lib.hid hm
  have HC := Lib.hid hC
  obtain ⟨n, hn⟩ : ∃ n, n = W.gs.length := ⟨_, rfl⟩
  rw [← hn] at SCB hd p2 HL
  obtain ⟨m, hmm⟩ : ∃ m, m = (W.g d.g).n - 1 := ⟨_, rfl⟩
  rw [← hmm] at SCB hreg htop
  have HT := Lib.hid htop
  have HN := Lib.hid hn
  have h0 := H.out
  rw [← hn]
  clear hl e F hf hA hv ha hm htop hmm h hn hg hgs hc hC
  go_enter Tryz.func134, Tryz.ntmps134
  go_upto_region 3 with fail
  have o1 := h0.step (below_drew1 w)
  refine wp_region_lexY (fun wx => wx.cell? ⟨d.q, 0, none⟩ = some (.pointer (some ⟨p, 0, none⟩)) ∧ wx.cell? ⟨p, 2, none⟩ = some (.slice D.aa n D.ac) ∧ wx.cell? ⟨d.q, 3, none⟩ = some (.int .i64 d.x.2.1) ∧ wx.cell? ⟨d.q, 4, none⟩ = some (.int .i64 (a : Int)) ∧ wx.cell? ⟨s, m * 11 + 2 + a, none⟩ = some (.int .i64 v)) 32 33 (Array.replicate 33 false) (by kernel_rfl) (by kernel_rfl) ?_
  have SC0 := Lib.hid (fun wx (ho : Own w0 wx (wparts p W D T ++ (CelA d.q (dcells p (d.g : Int) d.x d.th d.dr d.go ra 0 rc) :: RowGA 1 ra rc 0 (intc []) :: R))) => SCB wx (RowGA 2 D.aa D.ac W.gs.length (gcs D.sk W.gs)) [] (by rw [List.append_nil]; exact ho))
  refine wpAnyY_seg 0 17 _ #[true, true, true, true, true, true, true, true, true, true, true, true, true, true, true, true, true, false, false, false, false, false, false, false, false, false, false, false, false, false, false, false, false] 16 (by kernel_rfl) noPanic_put (SC0.out _ o1) (by kernel_rfl) ?_
  simp only [List.take_succ_cons, List.take_zero, List.drop_zero]
  repeat ((first | refine wpSegH_no (by rfl) ?_ | (refine wpSegH_yes (by rfl) ?_; apply Exists.intro; apply And.intro; (· (intro wx hS; (try dsimp only at hS); go_simp; first | done | with_reducible rfl)))); simp only [Act.put, List.setIfInBounds_toArray, List.set_cons_zero, List.set_cons_succ])
  refine wpSegH_nil ?_
  refine wpAnyY_seg 18 5 _ #[true, true, true, true, true, true, true, true, true, true, true, true, true, true, true, true, true, false, true, true, true, true, true, false, false, false, false, false, false, false, false, false, false] 11 (by kernel_rfl) noPanic_put (SC0.out _ o1) (by kernel_rfl) ?_
  simp only [List.take_succ_cons, List.take_zero, List.drop_succ_cons, List.drop_zero]
  repeat ((first | refine wpSegH_no (by rfl) ?_ | (refine wpSegH_yes (by rfl) ?_; apply Exists.intro; apply And.intro; (· (intro wx hS; (try dsimp only at hS); go_simp; first | done | with_reducible rfl)))); simp only [Act.put, List.setIfInBounds_toArray, List.set_cons_zero, List.set_cons_succ])
  refine wpSegH_nil ?_
  refine wpAnyY_one 17 _ #[true, true, true, true, true, true, true, true, true, true, true, true, true, true, true, true, true, true, true, true, true, true, true, false, false, false, false, false, false, false, false, false, false] 10 (by kernel_rfl) (fun K hK => ?_)
  have HKK := Lib.hid hK
  clear hK
  simp only [List.drop_succ_cons, List.drop_zero]
  refine headH_mk (by rfl) ?_
  go_simp
  refine HT.out.mono ?_
  rintro r w1 ⟨rfl, k1, hw1⟩
  have o2 := h0.q2 hw1
  clear hw1
  refine HKK.out _ _ (SC0.out _ o2) ?_
  clear HKK K
  refine wpAnyY_seg 23 4 _ #[true, true, true, true, true, true, true, true, true, true, true, true, true, true, true, true, true, true, true, true, true, true, true, true, true, true, true, false, false, false, false, false, false] 6 (by kernel_rfl) noPanic_put (SC0.out _ o2) (by kernel_rfl) ?_
  simp only [List.take_succ_cons, List.take_zero, List.drop_succ_cons, List.drop_zero]
  repeat ((first | refine wpSegH_no (by rfl) ?_ | (refine wpSegH_yes (by rfl) ?_; apply Exists.intro; apply And.intro; (· (intro wx hS; (try dsimp only at hS); go_simp; first | done | with_reducible rfl)))); simp only [Act.put, List.setIfInBounds_toArray, List.set_cons_zero, List.set_cons_succ])
  refine wpSegH_nil ?_
  refine wpAnyY_one 27 _ #[true, true, true, true, true, true, true, true, true, true, true, true, true, true, true, true, true, true, true, true, true, true, true, true, true, true, true, true, false, false, false, false, false] 5 (by kernel_rfl) (fun K hK => ?_)
  have HKK := Lib.hid hK
  clear hK
  simp only [List.drop_succ_cons, List.drop_zero]
  refine headH_mk (by rfl) ?_
  go_simp
  refine (gbegin_any _ _ _).mono ?_
  rintro r w2 ⟨g', rfl, hg', hs', hb'⟩
  have o3 := (own_stkNew o2 hb' hs' hg').rot
  refine HKK.out _ _ (SCB _ (RowGA 2 D.aa D.ac W.gs.length (gcs D.sk W.gs)) _ o3) ?_
  clear HKK K
  refine wpAnyY_one 28 _ #[true, true, true, true, true, true, true, true, true, true, true, true, true, true, true, true, true, true, true, true, true, true, true, true, true, true, true, true, true, false, false, false, false] 4 (by kernel_rfl) (fun K hK => ?_)
  have HKK := Lib.hid hK
  clear hK
  simp only [List.drop_succ_cons, List.drop_zero]
  refine headH_mk (by rfl) ?_
  go_simp
  have o4 := o3.step (below_alloc1 _ (.cells #[.int .i64 1, .slice (some ⟨g', 0, none⟩) 1 1] 115))
  refine HKK.out _ _ (SCB _ (RowGA 2 D.aa D.ac W.gs.length (gcs D.sk W.gs)) _ o4) ?_
  clear HKK K
  refine wpAnyY_one 29 _ #[true, true, true, true, true, true, true, true, true, true, true, true, true, true, true, true, true, true, true, true, true, true, true, true, true, true, true, true, true, true, false, false, false] 3 (by kernel_rfl) (fun K hK => ?_)
  have HKK := Lib.hid hK
  clear hK
  simp only [List.drop_succ_cons, List.drop_zero]
  refine headH_mk (by rfl) ?_
  have hrow := o4.rowG 2 rfl
  rw [← HN.out] at hrow
  refine wp_append_rowG (n := n) (m := 1) (cs := gcs D.sk W.gs) (ds := [.int .i64 1, .slice (some ⟨g', 0, none⟩) 1 1]) _ _ 73 (by rfl) 115 i0 _ Tryz.underlying73 Hi.out Hz0.out Hz1.out Hz2.out rfl (by omega) (by omega) (by rfl) (by rfl) hrow (CellsAt.new _ [.int .i64 1, .slice (some ⟨g', 0, none⟩) 1 1] _ rfl) rfl (by simp [Value.oneCell']) (by have := HL.out; omega) ?_
  intro a9 c9 w9 k9 ch9 f9
  have o5 := (Own.rowTurn (o4.pick 2 rfl) k9 ch9 f9).back (i := 2) (As := wparts p W D T ++ (CelA d.q (dcells p (d.g : Int) d.x d.th d.dr d.go ra 0 rc) :: RowGA 1 ra rc 0 (intc []) :: R) ++ [StkA g' 1 1 (newF d.x.2.1 v 0)]) (by simp [wparts])
  refine HKK.out _ _ (SCB _ _ _ o5) ?_
  clear HKK K
  refine wpAnyY_segT 30 1 _ #[true, true, true, true, true, true, true, true, true, true, true, true, true, true, true, true, true, true, true, true, true, true, true, true, true, true, true, true, true, true, true, false, false] 2 (by kernel_rfl) noPanic_put (by kernel_rfl) ?_
  simp only [List.take_succ_cons, List.take_zero, List.drop_succ_cons, List.drop_zero]
  repeat ((first | refine wpSegH_no (by rfl) ?_ | (refine wpSegH_yes (by rfl) ?_; apply Exists.intro; apply And.intro; (· (intro wx hS; (try dsimp only at hS); go_simp; first | done | with_reducible rfl)))); simp only [Act.put, List.setIfInBounds_toArray, List.set_cons_zero, List.set_cons_succ])
  refine wpSegH_nil ?_
  refine wpAnyY_seg 31 1 _ #[true, true, true, true, true, true, true, true, true, true, true, true, true, true, true, true, true, true, true, true, true, true, true, true, true, true, true, true, true, true, true, true, false] 1 (by kernel_rfl) noPanic_put (SCB _ _ _ o5) (by kernel_rfl) ?_
  simp only [List.take_succ_cons, List.take_zero, List.drop_succ_cons, List.drop_zero]
  repeat ((first | refine wpSegH_no (by rfl) ?_ | (refine wpSegH_yes (by rfl) ?_; apply Exists.intro; apply And.intro; (· (intro wx hS; (try dsimp only at hS); go_simp; first | done | with_reducible rfl)))); simp only [Act.put, List.setIfInBounds_toArray, List.set_cons_zero, List.set_cons_succ])
  refine wpSegH_nil ?_
  obtain ⟨z8, f8⟩ := o5.cel 0 rfl 2 _ rfl
  obtain ⟨o6, hf6⟩ := own_spawn HF.out HN.out (o5.setAt 0 rfl 2 (.slice a9 (n + 1) c9))
  have H6 := Lib.hid o6
  have HF6 := Lib.hid hf6
  clear o1 o2 o3 o4 o5 o6 hf6 k9 ch9 f9 hrow SCB SC0 HT H HF hs' hb' hg' h0 hreg
  refine wpAnyY_late 32 _ #[true, true, true, true, true, true, true, true, true, true, true, true, true, true, true, true, true, true, true, true, true, true, true, true, true, true, true, true, true, true, true, true, true] 0 (by kernel_rfl) (fun K hK => ?_)
  have HKK := Lib.hid hK
  clear hK
  simp only [List.drop_succ_cons, List.drop_zero]
  refine headH_mk (by rfl) ?_
  go_simp
  refine HKK.out _ _ ?_
  clear HKK K
  refine wpAnyY_done (by kernel_rfl) (NoPanic.normal ?_) _
  generalize w9.setCell ⟨p, 2, none⟩ (.slice a9 (n + 1) c9) = w5 at *
  generalize hW5 : ({ W with gs := W.gs ++ [⟨1, 1, newF d.x.2.1 v 0⟩] } : Wd) = W5 at *
  have hg5 : d.g < W5.gs.length := by rw [← hW5]; simp; have := HG.out; omega
  have hl5 : W5.gs.length = n + 1 := by rw [← hW5, HN.out]; simp
  have hm5 : 1 ≤ (W5.g d.g).n ∧ (W5.g d.g).n ≤ 16 := by
   have : W5.g d.g = W.g d.g := by rw [← hW5]; unfold Wd.g; rw [List.getD_eq_getElem?_getD, List.getD_eq_getElem?_getD, List.getElem?_append_left HG.out]
   rw [this]; exact HM.out
  have hst5 : (W5.g n).st = 1 ∧ n < W5.gs.length := by
   rw [← hW5, HN.out]
   refine ⟨?_, by simp⟩
   unfold Wd.g
   rw [List.getD_eq_getElem?_getD, List.getElem?_append_right (Nat.le_refl _)]
   simp
  obtain ⟨b, off, s, cap, F⟩ := opF_of HF6.out H6.out hg5 hm5
  have q0 := F.top.d0
  have q5 := (H6.out.cel 10 rfl 5 _ rfl).1
  rw [HC.out] at q5
  obtain ⟨m, hmm⟩ : ∃ m, m = (W5.g d.g).n - 1 := ⟨_, rfl⟩
  have hreg := reg_at F.stk hm5.1 c hc8
  have HT := Lib.hid (F.htop hmm 1)
  have HP : Hid (∀ w1 k, w1 = (w5.drewN 1).drewN k → DAt w0 (w1.setCell ⟨s, m * 11 + 2 + c, none⟩ (.int .i64 (n : Int))) p T d (W5.put d.g (c : Int) (n : Int)) [] R) := Lib.hid (fun w1 k e => by
   rw [hmm]
   exact ⟨_, ra, rc, HF6.out.setG _ _, own_put (H6.out.q2 e) hg5 F.sk c (n : Int)⟩)
  rw [← hmm] at hreg
  have c0 : (0 : Int) ≤ (c : Int) := by omega
  have c8 : (c : Int) < 8 := by omega
  obtain ⟨r0, r1⟩ := hreg
  have hgp : n < (W5.put d.g (c : Int) (n : Int)).gs.length := by unfold Wd.put Wd.setG; rw [List.length_set]; exact hst5.2
  have hgl : (W5.put d.g (c : Int) (n : Int)).gs.length ≤ 1000 := by unfold Wd.put Wd.setG; rw [List.length_set, hl5]; have := HL.out; omega
  have hsame : (W5.put d.g (c : Int) (n : Int)).setSt n 1 = W5.put d.g (c : Int) (n : Int) := by
   refine Wd.setSt_same _ _ _ ?_ hgp
   unfold Wd.put
   rw [Wd.g_setG _ _ _ _ hg5]
   by_cases e : d.g = n
   ·rw [if_pos e]; unfold Gt.put; simp only; rw [e]; exact hst5.1
   ·rw [if_neg e]; exact hst5.1
  have HWk : Hid (∀ w', DAt w0 w' p T d (W5.put d.g (c : Int) (n : Int)) [] R → Calls Tryz.prog 159 #[.pointer (some ⟨d.q, 0, none⟩), .int .i64 (n : Int)] w' fun r w'' => r = .returned (.tuple #[]) ∧ DAt w0 w'' p T d (W5.put d.g (c : Int) (n : Int)) [(n : Int)] R) :=
   Lib.hid (fun w' h' => (dwake_any (rd := []) h' n hgp hgl (by simp)).mono (fun r w'' hh => ⟨hh.1, by have := hh.2; rw [hsame] at this; exact this⟩))
  generalize hW6 : W5.put d.g (c : Int) (n : Int) = W6 at *
  have HW5 := Lib.hid hW5
  have HW6 := Lib.hid hW6
  clear F hmm H6 HF6 HG HM HC HN hst5 hm5 hl5 hg5 hW5 hgp hgl hsame hW6
  go_upto_region 4 with fail
  refine wp_region_lexK (fun wx => ∃ nq, wx = World.drewN (w5) nq) 11 1 (Array.replicate 12 false) #[true, true, true, true, true, true, true, true, true, true, true, false] (by kernel_rfl) (by kernel_rfl) ?_
  refine wpAnyK_seg 0 1 _ #[true, false, false, false, false, false, false, false, false, false, false, false] 10 (by kernel_rfl) noPanic_put (drew_q w5) (by kernel_rfl) ?_
  simp only [List.take_succ_cons, List.take_zero, List.drop_zero]
  repeat ((first | refine wpSegH_no (by rfl) ?_ | (refine wpSegH_yes (by rfl) ?_; apply Exists.intro; apply And.intro; (· (rintro wx ⟨nq, rfl⟩; go_simp; first | done | with_reducible rfl)))); simp only [Act.put, List.setIfInBounds_toArray, List.set_cons_zero, List.set_cons_succ])
  refine wpSegH_nil ?_
  refine wpAnyK_seg 2 6 _ #[true, false, true, true, true, true, true, true, false, false, false, false] 4 (by kernel_rfl) noPanic_put (drew_q w5) (by kernel_rfl) ?_
  simp only [List.take_succ_cons, List.take_zero, List.drop_succ_cons, List.drop_zero]
  repeat ((first | refine wpSegH_no (by rfl) ?_ | (refine wpSegH_yes (by rfl) ?_; apply Exists.intro; apply And.intro; (· (rintro wx ⟨nq, rfl⟩; go_simp; first | done | with_reducible rfl)))); simp only [Act.put, List.setIfInBounds_toArray, List.set_cons_zero, List.set_cons_succ])
  refine wpSegH_nil ?_
  refine wpAnyK_one 1 _ #[true, true, true, true, true, true, true, true, false, false, false, false] 3 (by kernel_rfl) (fun K hK => ?_)
  have HKK := Lib.hid hK
  clear hK
  simp only [List.drop_succ_cons, List.drop_zero]
  refine headH_mk (by rfl) ?_
  go_simp
  refine HT.out.mono ?_
  rintro r w1 ⟨rfl, k1, hw1⟩
  refine HKK.out _ _ (q_q2 hw1) ?_
  clear HKK K
  refine wpAnyK_seg 8 3 _ #[true, true, true, true, true, true, true, true, true, true, true, false] 0 (by kernel_rfl) noPanic_put (q_q2 hw1) (by kernel_rfl) ?_
  simp only [List.take_succ_cons, List.take_zero, List.drop_succ_cons, List.drop_zero]
  repeat ((first | refine wpSegH_no (by rfl) ?_ | (refine wpSegH_yes (by rfl) ?_; apply Exists.intro; apply And.intro; (· (rintro wx ⟨nq, rfl⟩; go_simp; first | done | with_reducible rfl)))); simp only [Act.put, List.setIfInBounds_toArray, List.set_cons_zero, List.set_cons_succ])
  refine wpSegH_nil ?_
  refine wpAnyK_next ?_
  refine wpAnyK_seq 11 (by kernel_rfl) ?_
  simp only [List.drop_succ_cons, List.drop_zero]
  have H7 := Lib.hid (HP.out _ _ hw1)
  have s0 : w1.cell? ⟨s, m * 11 + 2 + c, none⟩ = some (.int .i64 ((W5.g d.g).rg (c : Int))) := by rw [hw1]; exact r0
  have s1 : w1.frozen? ⟨s, m * 11 + 2 + c, none⟩ = false := by rw [hw1]; exact r1
  clear hw1 HP HT r0 r1
  go_wp2_with fail
  refine NoPanic.normal ?_
  go_wp2_with fail
  refine (HWk.out _ H7.out).mono ?_
  rintro r w7 ⟨rfl, h7⟩
  have H8 := Lib.hid h7
  clear h7 H7 HWk
  go_wp2
  go_end0
  exact ⟨rfl, by simp only [HW5.out, HW6.out]; exact H8.out⟩
theorem dchan_any {w0 w : World} {p : Nat} {T : List Value} {d : Dq} {W : Wd} {R : List Asr} (h : DAt w0 w p T d W [] R) (hg : d.g < W.gs.length) (hm : 1 ≤ (W.g d.g).n ∧ (W.g d.g).n ≤ 16) (ok : TryOk W [] d.g d.x 0) (okw : WaitOk W d.x) :
  Calls Tryz.prog 136 #[.pointer (some ⟨d.q, 0, none⟩)] w fun r w' => DPost w0 p T d R (chanM W [] d.g d.x) r w' := by
 have HT := Lib.hid (dtry_any h hg hm 0 ok (by simp))
 have HW := Lib.hid (fun w (h : DAt w0 w p T d W [] R) => dwait_any h hg hm okw)
 unfold chanM
 generalize tryM W [] d.g d.x 0 = o at *
 clear h ok okw hg hm
 go_enter Tryz.func136, Tryz.ntmps136
 go_wp2_with fail
 refine HT.out.mono ?_
 intro r w4 hp
 unfold TPost at hp
 cases o with
 | none =>
  obtain ⟨rfl, h2⟩ := hp
  have HC := Lib.hid (HW.out _ h2)
  clear h2 HT HW
  go_wp2_with fail
  refine HC.out.mono ?_
  rintro r w5 ⟨rfl, h5⟩
  have H5 := Lib.hid h5
  clear h5 HC
  go_wp2
  go_end0
  exact ⟨rfl, H5.out⟩
 | some m =>
  obtain ⟨Wm, rm, tm⟩ := m
  cases tm with
  | none =>
   obtain ⟨rfl, h2⟩ := hp
   have H2 := Lib.hid h2
   clear h2 HT HW
   go_wp2
   go_end0
   exact ⟨rfl, H2.out⟩
  | some k =>
   obtain ⟨rfl, h2⟩ := hp
   have H2 := Lib.hid h2
   clear h2 HT HW
   unfold trapE
   go_wp2
   exact ⟨rfl, rfl, H2.out⟩
structure ChooseOk (W : Wd) (g : Nat) (x : In4) (dr : Int) (go : Bool) : Prop where
 ix : CasX W x
 k : W.ks.length ≤ 1000
 t : go = true → TryOk W [] g x dr
 w : go = false → WaitOk W x
 r : 0 ≤ x.2.2.2 ∧ x.2.2.2 < 8
theorem dchoose_any {w0 w : World} {p : Nat} {T : List Value} {d : Dq} {W : Wd} {R : List Asr} (h : DAt w0 w p T d W [] R) (hg : d.g < W.gs.length) (hm : 1 ≤ (W.g d.g).n ∧ (W.g d.g).n ≤ 16) (ok : ChooseOk W d.g d.x d.dr d.go) :
  Calls Tryz.prog 138 #[.pointer (some ⟨d.q, 0, none⟩)] w fun r w' => DPost w0 p T d R (chooseM W [] d.g d.x d.dr d.go) r w' := by
 have H := Lib.hid h
 obtain ⟨hx, hk, ht, hw, hr⟩ := ok
 obtain ⟨D, ra, rc, hf, h⟩ := h
 have q0 := (h.cel 10 rfl 0 _ rfl).1
 have q7 := (h.cel 10 rfl 7 _ rfl).1
 have q8 := (h.cel 10 rfl 8 _ rfl).1
 unfold chooseM
 cases hgo : d.go with
 | true =>
  have HT := Lib.hid (dtry_any H.out hg hm d.dr (ht hgo) (by simp))
  rw [hgo] at q8
  rw [if_pos rfl]
  generalize tryM W [] d.g d.x d.dr = o at *
  clear h ht hw hg hm hgo hf hx hk hr H
  go_enter Tryz.func138, Tryz.ntmps138
  go_wp2_with fail
  refine HT.out.mono ?_
  intro r w4 hp
  unfold TPost at hp
  cases o with
  | none =>
   obtain ⟨rfl, h2⟩ := hp
   have H2 := Lib.hid h2
   clear h2 HT
   go_wp2
   exact bodyPost_ret (v := .tuple #[]) (by simp [results, Tryz.results138]) rfl ⟨rfl, H2.out⟩
  | some m =>
   obtain ⟨Wm, rm, tm⟩ := m
   cases tm with
   | none =>
    obtain ⟨rfl, h2⟩ := hp
    have H2 := Lib.hid h2
    clear h2 HT
    go_wp2
    exact bodyPost_ret (v := .tuple #[]) (by simp [results, Tryz.results138]) rfl ⟨rfl, H2.out⟩
   | some k =>
    obtain ⟨rfl, h2⟩ := hp
    have H2 := Lib.hid h2
    clear h2 HT
    unfold trapE
    go_wp2
    exact ⟨rfl, rfl, H2.out⟩
 | false =>
  rw [hgo] at q8
  rw [if_neg (by simp)]
  generalize hrr : (if elF 0 (W.cas d.x) < 0 then (Dd.mk (waitM W d.g d.x) [] none) else Dd.mk (W.put d.g d.x.2.2.2 (elF 0 (W.cas d.x))) [] none) = rr
  have HRR := Lib.hid hrr
  clear hrr
  have HW := Lib.hid (fun w (h : DAt w0 w p T d W [] R) => dwait_any h hg hm (hw hgo))
  have hc := (h.cel 10 rfl)
  have q2 := (hc 2 _ rfl).1
  have q3 := (hc 3 _ rfl).1
  have q4 := (hc 4 _ rfl).1
  have q5 := (hc 5 _ rfl).1
  have HCa := Lib.hid (fun j => cases_any (h.step (below_dN w j)) hf d.x hx hk)
  obtain ⟨c, hC, hc8⟩ := nat_of (n := 8) hr
  have HD : Hid (∀ (w' : World) Z, Own w0 w' (Z :: (wparts p W D T ++ (CelA d.q (dcells p (d.g : Int) d.x d.th d.dr d.go ra 0 rc) :: RowGA 1 ra rc 0 (intc []) :: R))) → DAt w0 w' p T d W [] R) := Lib.hid (fun w' Z h' => ⟨D, ra, rc, hf, h'.drop⟩)
  obtain ⟨m, hmm⟩ : ∃ m, m = (W.g d.g).n - 1 := ⟨_, rfl⟩
  obtain ⟨s, cap, hs⟩ := hf.sk_at hg
  have HPut : Hid (∀ (w' : World), Own w0 w' (wparts p W D T ++ (CelA d.q (dcells p (d.g : Int) d.x d.th d.dr d.go ra 0 rc) :: RowGA 1 ra rc 0 (intc []) :: R)) → ∀ v : Int,
    w'.cell? ⟨d.q, 0, none⟩ = some (.pointer (some ⟨p, 0, none⟩)) ∧ w'.cell? ⟨d.q, 5, none⟩ = some (.int .i64 (c : Int)) ∧
    (∀ j, Calls Tryz.prog 119 #[.pointer (some ⟨d.q, 0, none⟩)] (w'.drewN j) fun r w'' => r = .returned (.pointer (some ⟨s, m * 11, none⟩)) ∧ ∃ k, w'' = (w'.drewN j).drewN k) ∧
    (∃ v0, w'.cell? ⟨s, m * 11 + 2 + c, none⟩ = some v0) ∧ w'.frozen? ⟨s, m * 11 + 2 + c, none⟩ = false ∧ ∀ w'' j, w'' = w'.drewN j → DAt w0 (w''.setCell ⟨s, m * 11 + 2 + c, none⟩ (.int .i64 v)) p T d (W.put d.g d.x.2.2.2 v) [] R) := Lib.hid (fun w' h' v => by
   have q5 := (h'.cel 10 rfl 5 _ rfl).1
   rw [hC] at q5
   obtain ⟨r0, r1⟩ := reg_at (stk_at h' hg hs).1 hm.1 c hc8
   refine ⟨(h'.cel 10 rfl 0 _ rfl).1, q5, fun j => ?_, ⟨_, by rw [hmm]; exact r0⟩, by rw [hmm]; exact r1, fun w'' j e => ?_⟩
   ·rw [hmm]; exact top_own (h'.step (below_dN w' j)) ((h'.step (below_dN w' j)).cel 10 rfl) hg hs hm
   ·rw [hmm, hC]
    exact ⟨D, ra, rc, hf.setG _ _, own_put (h'.q1 e) hg hs c v⟩)
  clear h ht hw hg hm hgo hf hx hk hr hc hmm hs hC
  go_enter Tryz.func138, Tryz.ntmps138
  obtain ⟨e1, he1⟩ : ∃ e1, e1 = (if elF 0 (W.cas d.x) < 0 then 0 else elF 0 (W.cas d.x)) := ⟨_, rfl⟩
  obtain ⟨b1, hb1⟩ : ∃ b1, b1 = (!decide (elF 0 (W.cas d.x) < 0)) := ⟨_, rfl⟩
  have HE1 := Lib.hid he1
  have HB1 := Lib.hid hb1
  clear he1 hb1
  go_upto_region 2 with fail
  refine wp_region_lexK (fun wx => ∃ nq, wx = World.drewN (w) nq) 8 7 (Array.replicate 15 false) #[true, true, true, true, true, true, true, true, false, false, false, false, false, false, false] (by kernel_rfl) (by kernel_rfl) ?_
  refine wpAnyK_seg 0 8 _ #[true, true, true, true, true, true, true, true, false, false, false, false, false, false, false] 0 (by kernel_rfl) noPanic_put (drew_q w) (by kernel_rfl) ?_
  simp only [List.take_succ_cons, List.take_zero, List.drop_zero]
  repeat ((first | refine wpSegH_no (by rfl) ?_ | (refine wpSegH_yes (by rfl) ?_; apply Exists.intro; apply And.intro; (· (rintro wx ⟨nq, rfl⟩; go_simp; first | done | with_reducible rfl)))); simp only [Act.put, List.setIfInBounds_toArray, List.set_cons_zero, List.set_cons_succ])
  refine wpSegH_nil ?_
  refine wpAnyK_next ?_
  refine wpAnyK_phase (fun _ => True) 7 0 #[true, true, true, true, true, true, true, true, true, true, true, true, true, true, true] ?_
  refine wpAnyK_one 8 _ #[true, true, true, true, true, true, true, true, true, false, false, false, false, false, false] 6 (by kernel_rfl) (fun K hK => ?_)
  have HKK := Lib.hid hK
  clear hK
  simp only [List.drop_succ_cons, List.drop_zero]
  refine headH_mk (by rfl) ?_
  go_simp
  refine (HCa.out 1).mono ?_
  rintro r w3 ⟨a, ca, Z, rfl, hP, hl, o3, -⟩
  have hcell := hP.cells o3 2 0 rfl rfl
  refine HKK.out _ _ (trivial) ?_
  clear HKK K
  refine wpAnyK_one 9 _ #[true, true, true, true, true, true, true, true, true, true, false, false, false, false, false] 5 (by kernel_rfl) (fun K hK => ?_)
  have HKK := Lib.hid hK
  clear hK
  simp only [List.drop_succ_cons, List.drop_zero]
  refine headH_mk (by rfl) ?_
  go_simp
  have hels := Lib.hid (else_any w3 a (W.cas d.x).length ca (W.cas d.x) hcell rfl (by omega))
  clear hcell
  rw [← HE1.out, ← HB1.out] at hels
  refine hels.out.mono ?_
  rintro r w4 ⟨rfl, b4⟩
  have o4 := (o3.drop).step b4
  refine HKK.out _ _ (trivial) ?_
  clear HKK K
  refine wpAnyK_seg 10 5 _ #[true, true, true, true, true, true, true, true, true, true, true, true, true, true, true] 0 (by kernel_rfl) noPanic_put (trivial) (by kernel_rfl) ?_
  simp only [List.take_succ_cons, List.take_zero, List.drop_succ_cons, List.drop_zero]
  repeat ((first | refine wpSegH_no (by rfl) ?_ | (refine wpSegH_yes (by rfl) ?_; apply Exists.intro; apply And.intro; (· (intro wx hS; (try dsimp only at hS); go_simp; first | done | with_reducible rfl)))); simp only [Act.put, List.setIfInBounds_toArray, List.set_cons_zero, List.set_cons_succ])
  refine wpSegH_nil ?_
  refine wpAnyK_next ?_
  refine wpAnyK_done (by kernel_rfl) (NoPanic.normal ?_)
  clear hP hl o3 b4 HCa hels
  have HD4 := Lib.hid (show DAt w0 w4 p T d W [] R from HD.out w4 EmpA (o4.add (Below.refl _ _) (F := []) rfl (fun x hx => by simp at hx)))
  by_cases hel : elF 0 (W.cas d.x) < 0
  ·have hb : b1 = false := by rw [HB1.out]; simp [hel]
   subst hb
   have HEL := Lib.hid hel
   have HC := Lib.hid (HW.out w4 HD4.out)
   clear hel HW HPut o4 HD
   go_wp2_with fail
   refine HC.out.mono ?_
   rintro r w5 ⟨rfl, h5⟩
   have H5 := Lib.hid h5
   clear h5 HC
   go_wp2
   go_end0
   have er : rr = Dd.mk (waitM W d.g d.x) [] none := by rw [← HRR.out, if_pos HEL.out]
   rw [er]
   exact ⟨rfl, H5.out⟩
  ·have hb : b1 = true := by rw [HB1.out]; simp [hel]
   subst hb
   have HEL := Lib.hid hel
   obtain ⟨p0, p5, ptop, ⟨v0, r0⟩, r1, pfin⟩ := HPut.out w4 o4 (elF 0 (W.cas d.x))
   have HTp := Lib.hid ptop
   have HFn := Lib.hid pfin
   have e2 : elF 0 (W.cas d.x) = e1 := by rw [HE1.out, if_neg hel]
   rw [e2] at HFn
   have E2 := Lib.hid e2
   have c0 : (0 : Int) ≤ (c : Int) := by omega
   have c8 : (c : Int) < 8 := by omega
   clear hel HW HPut o4 HD ptop pfin e2
   go_upto_region 4 with fail
   refine wp_region_lexK (fun wx => ∃ nq, wx = World.drewN (w4) nq) 11 1 (Array.replicate 12 false) #[true, true, true, true, true, true, true, true, true, true, true, false] (by kernel_rfl) (by kernel_rfl) ?_
   refine wpAnyK_seg 0 1 _ #[true, false, false, false, false, false, false, false, false, false, false, false] 10 (by kernel_rfl) noPanic_put (drew_q w4) (by kernel_rfl) ?_
   simp only [List.take_succ_cons, List.take_zero, List.drop_zero]
   repeat ((first | refine wpSegH_no (by rfl) ?_ | (refine wpSegH_yes (by rfl) ?_; apply Exists.intro; apply And.intro; (· (rintro wx ⟨nq, rfl⟩; go_simp; first | done | with_reducible rfl)))); simp only [Act.put, List.setIfInBounds_toArray, List.set_cons_zero, List.set_cons_succ])
   refine wpSegH_nil ?_
   refine wpAnyK_seg 2 6 _ #[true, false, true, true, true, true, true, true, false, false, false, false] 4 (by kernel_rfl) noPanic_put (drew_q w4) (by kernel_rfl) ?_
   simp only [List.take_succ_cons, List.take_zero, List.drop_succ_cons, List.drop_zero]
   repeat ((first | refine wpSegH_no (by rfl) ?_ | (refine wpSegH_yes (by rfl) ?_; apply Exists.intro; apply And.intro; (· (rintro wx ⟨nq, rfl⟩; go_simp; first | done | with_reducible rfl)))); simp only [Act.put, List.setIfInBounds_toArray, List.set_cons_zero, List.set_cons_succ])
   refine wpSegH_nil ?_
   refine wpAnyK_one 1 _ #[true, true, true, true, true, true, true, true, false, false, false, false] 3 (by kernel_rfl) (fun K hK => ?_)
   have HKK := Lib.hid hK
   clear hK
   simp only [List.drop_succ_cons, List.drop_zero]
   refine headH_mk (by rfl) ?_
   go_simp
   refine (HTp.out 1).mono ?_
   rintro r w5 ⟨rfl, k5, hw5⟩
   refine HKK.out _ _ (q_q2 hw5) ?_
   clear HKK K
   refine wpAnyK_seg 8 3 _ #[true, true, true, true, true, true, true, true, true, true, true, false] 0 (by kernel_rfl) noPanic_put (q_q2 hw5) (by kernel_rfl) ?_
   simp only [List.take_succ_cons, List.take_zero, List.drop_succ_cons, List.drop_zero]
   repeat ((first | refine wpSegH_no (by rfl) ?_ | (refine wpSegH_yes (by rfl) ?_; apply Exists.intro; apply And.intro; (· (rintro wx ⟨nq, rfl⟩; go_simp; first | done | with_reducible rfl)))); simp only [Act.put, List.setIfInBounds_toArray, List.set_cons_zero, List.set_cons_succ])
   refine wpSegH_nil ?_
   refine wpAnyK_next ?_
   refine wpAnyK_seq 11 (by kernel_rfl) ?_
   simp only [List.drop_succ_cons, List.drop_zero]
   obtain ⟨j5, hw6⟩ := q_q2 hw5
   have H6 := Lib.hid (HFn.out w5 j5 hw6)
   have s0 : w5.cell? ⟨s, m * 11 + 2 + c, none⟩ = some v0 := by rw [hw6]; exact r0
   have s1 : w5.frozen? ⟨s, m * 11 + 2 + c, none⟩ = false := by rw [hw6]; exact r1
   clear hw5 hw6 HFn HTp r0 r1
   go_wp2_with fail
   refine NoPanic.normal ?_
   go_wp2
   refine bodyPost_ret (v := .tuple #[]) (by simp [results, Tryz.results138]) rfl ?_
   have er : rr = Dd.mk (W.put d.g d.x.2.2.2 e1) [] none := by rw [← HRR.out, if_neg (by have := HEL.out; omega), E2.out]
   rw [er]
   exact ⟨rfl, H6.out⟩
def whp (p : Nat) (W : Wd) (D : Wa) (T : List Value) : Hp :=
 ⟨p, .slice D.fa W.fs.length D.fc, .slice D.ca W.ks.length D.cc, .slice D.aa W.gs.length D.ac, .slice D.ha W.Cs.length D.hc, .slice D.la W.Ls.length D.lc, .int .u64 (W.clock : Int) :: .slice D.oa W.out.length D.oc :: .int .i64 W.en :: .int .i64 W.why :: T⟩
theorem push_w {w0 w : World} {p : Nat} {T : List Value} {W : Wd} {D : Wa} {Y : List Asr} (h : Own w0 w (wparts p W D T ++ Y)) (at_ id : Int) (hl : W.hp.length ≤ 100000) (hn : W.nx ≤ 100000) :
  Calls Tryz.prog 165 #[.pointer (some ⟨p, 5, none⟩), .int .u64 at_, .int .i64 id] w fun r w' => ∃ sv', r = .returned (.int .u64 (W.nx : Int)) ∧ Own w0 w' (wparts p { W with hp := pushF W.hp ⟨at_, W.nx, id⟩, nx := W.nx + 1 } { D with sv := sv' } T ++ Y) := by
 have h1 := (h.pick 8 rfl).pick 1 rfl
 have hc := Own.call (As := [CelA p (wcells W D ++ T), ItemsA D.sv W.hp]) (R := [CodeA D.fa D.fr W.fs D.ca W.ks, RowGA 2 D.aa D.ac W.gs.length (gcs D.sk W.gs), LstA (stks D.sk W.gs), RowGA 1 D.ha D.hc W.Cs.length (ptrs (List.zip D.ps W.Ns)), LstA (chs (List.zip D.ps W.Ns) W.Cs),
  RowGA 1 D.la D.lc W.Ls.length (lptr D.lp), LstA (lks D.lp W.Ls), RowGA 1 D.oa D.oc W.out.length (intc W.out)] ++ Y) h1 (P := Tryz.prog) (f := 165) (args := #[.pointer (some ⟨p, 5, none⟩), .int .u64 at_, .int .i64 id])
  (post := fun r l => ∃ sv', r = .returned (.int .u64 (W.nx : Int)) ∧ l = [CelA p (wcells { W with hp := pushF W.hp ⟨at_, W.nx, id⟩, nx := W.nx + 1 } { D with sv := sv' } ++ T), ItemsA sv' (pushF W.hp ⟨at_, W.nx, id⟩)]) (fun F hF => by
   obtain ⟨F1, F2, rfl, ⟨rfl, hpl, hb⟩, hne, F3, F4, rfl, ⟨rfl, hi⟩, -, rfl⟩ := hF
   have hH : HeapAt w (whp p W D T) D.sv W.hp W.nx := ⟨hb, hi, fun x hx e => hne p (by simp) (by rw [e] at hx; simpa [whp] using hx)⟩
   refine (hpush_any w (whp p W D T) D.sv W.hp W.nx at_ id hH hl hn).mono (fun r w' hh => ?_)
   obtain ⟨v', h1, ⟨h2, h3, h4⟩, h5, h6⟩ := hh
   refine ⟨_, ⟨v', h1, rfl⟩, [p] ++ (v'.ownBlock.toList ++ []), ⟨[p], v'.ownBlock.toList ++ [], rfl, ⟨rfl, Nat.lt_of_lt_of_le hpl h5.size, h2⟩, fun x hx hx2 => ?_, v'.ownBlock.toList, [], rfl, ⟨rfl, h3⟩, fun x hx => by simp, rfl⟩, ?_, fun x hx => ?_⟩
   ·simp only [List.mem_cons, List.not_mem_nil, or_false] at hx
    subst hx
    rw [List.append_nil] at hx2
    exact h4 x hx2 rfl
   ·exact h5.mono (fun x hx => by
     simp only [foot, List.mem_cons] at hx
     rcases hx with rfl | hx
     ·simp [whp]
     ·simp [List.mem_append, hx])
   ·have hx' : x ∈ foot (whp p W D T) v' := by
     simp only [List.mem_append, List.mem_cons, List.not_mem_nil, or_false] at hx
     simp only [foot, List.mem_cons]
     exact hx
    rcases h6 x hx' with h7 | h7
    ·left
     simp only [foot, List.mem_cons] at h7
     simp only [List.mem_append, List.mem_cons, List.not_mem_nil, or_false]
     exact h7
    ·exact .inr h7)
 refine hc.mono (fun r w' hh => ?_)
 obtain ⟨As', ⟨sv', h1, rfl⟩, h2⟩ := hh
 exact ⟨sv', h1, (h2.pick 1 rfl).back (As := wparts p { W with hp := pushF W.hp ⟨at_, W.nx, id⟩, nx := W.nx + 1 } { D with sv := sv' } T ++ Y) (i := 8) (by simp [wparts])⟩
theorem wake_w {w0 w : World} {p : Nat} {T : List Value} {W : Wd} {D : Wa} {Y : List Asr} (h : Own w0 w (wparts p W D T ++ Y)) (now : Int) (hl : W.hp.length ≤ 100000) :
  Calls Tryz.prog 87 #[.pointer (some ⟨p, 5, none⟩), .int .u64 now] w fun r w' => ∃ v5 sv', r = .returned v5 ∧ Own w0 w' (ItemsA v5 (wakes W.hp now).1 :: (wparts p { W with hp := (wakes W.hp now).2 } { D with sv := sv' } T ++ Y)) := by
 have h1 := (h.pick 8 rfl).pick 1 rfl
 have hc := Own.call (As := [CelA p (wcells W D ++ T), ItemsA D.sv W.hp]) (R := [CodeA D.fa D.fr W.fs D.ca W.ks, RowGA 2 D.aa D.ac W.gs.length (gcs D.sk W.gs), LstA (stks D.sk W.gs), RowGA 1 D.ha D.hc W.Cs.length (ptrs (List.zip D.ps W.Ns)), LstA (chs (List.zip D.ps W.Ns) W.Cs),
  RowGA 1 D.la D.lc W.Ls.length (lptr D.lp), LstA (lks D.lp W.Ls), RowGA 1 D.oa D.oc W.out.length (intc W.out)] ++ Y) h1 (P := Tryz.prog) (f := 87) (args := #[.pointer (some ⟨p, 5, none⟩), .int .u64 now])
  (post := fun r l => ∃ v5 sv', r = .returned v5 ∧ l = [ItemsA v5 (wakes W.hp now).1, CelA p (wcells { W with hp := (wakes W.hp now).2 } { D with sv := sv' } ++ T), ItemsA sv' (wakes W.hp now).2]) (fun F hF => by
   have hFlt := hF.lt
   obtain ⟨F1, F2, rfl, ⟨rfl, hpl, hb⟩, hne, F3, F4, rfl, ⟨rfl, hi⟩, -, rfl⟩ := hF
   have hH : HeapAt w (whp p W D T) D.sv W.hp W.nx := ⟨hb, hi, fun x hx e => hne p (by simp) (by rw [e] at hx; simpa [whp] using hx)⟩
   refine (wake_any w (whp p W D T) D.sv W.hp W.nx now hH hl).mono (fun r w' hh => ?_)
   obtain ⟨v5, v', h1, h2, h3, ⟨h4, h5, h6⟩, h7, h8⟩ := hh
   refine ⟨_, ⟨v5, v', h1, rfl⟩, v5.ownBlock.toList ++ ([p] ++ (v'.ownBlock.toList ++ [])), ⟨v5.ownBlock.toList, _, rfl, ⟨rfl, h2⟩, fun x hx hx2 => ?_, [p], v'.ownBlock.toList ++ [], rfl, ⟨rfl, Nat.lt_of_lt_of_le hpl h8.size, h4⟩, fun x hx hx2 => ?_, v'.ownBlock.toList, [], rfl, ⟨rfl, h5⟩, fun x hx => by simp, rfl⟩, ?_, fun x hx => ?_⟩
   ·have := h3 x hx
    have := hFlt x (by rw [← h7]; exact hx2)
    omega
   ·simp only [List.mem_cons, List.not_mem_nil, or_false] at hx
    subst hx
    rw [List.append_nil] at hx2
    exact h6 x hx2 rfl
   ·exact h8.mono (fun x hx => by
     simp only [foot, List.mem_cons] at hx
     rcases hx with rfl | hx
     ·simp [whp]
     ·simp [List.mem_append, hx])
   ·rcases List.mem_append.1 hx with h9 | h9
    ·exact .inr (h3 x h9)
    ·left; rw [← h7]; exact h9)
 refine hc.mono (fun r w' hh => ?_)
 obtain ⟨As', ⟨v5, sv', h1, rfl⟩, h2⟩ := hh
 refine ⟨v5, sv', h1, ?_⟩
 exact ((h2.pick 2 rfl).back (As := ItemsA v5 (wakes W.hp now).1 :: (wparts p { W with hp := (wakes W.hp now).2 } { D with sv := sv' } T ++ Y)) (i := 9) (by simp [wparts]))
theorem Wa.fits.sv {D : Wa} {W : Wd} (h : D.fits W) (sv : Value) (hp : List It) (nx : Nat) : ({ D with sv := sv } : Wa).fits { W with hp := hp, nx := nx } := ⟨h.f, h.g, h.c, h.n, h.l, h.k⟩
theorem dsleep_any {w0 w : World} {p : Nat} {T : List Value} {d : Dq} {W : Wd} {R : List Asr} (h : DAt w0 w p T d W [] R) (hg : d.g < W.gs.length) (hm : 1 ≤ (W.g d.g).n ∧ (W.g d.g).n ≤ 16) (ha : 0 ≤ d.x.2.1 ∧ d.x.2.1 < 8) (hl : W.hp.length ≤ 100000) (hn : W.nx ≤ 100000) (hc : W.clock ≤ 100000) :
  Calls Tryz.prog 139 #[.pointer (some ⟨d.q, 0, none⟩)] w fun r w' => DPost w0 p T d R (sleepM W [] d.g d.x) r w' := by
 obtain ⟨D, ra, rc, hf, h⟩ := h
 obtain ⟨a, hA, ha8⟩ := nat_of (n := 8) ha
 obtain ⟨b, off, s, cap, F⟩ := opF_of hf h hg hm
 have q0 := F.top.d0
 have q1 := F.top.d1
 have q3 := (h.cel 10 rfl 3 _ rfl).1
 rw [hA] at q3
 obtain ⟨m, hmm⟩ : ∃ m, m = (W.g d.g).n - 1 := ⟨_, rfl⟩
 have hreg := (reg_at F.stk hm.1 a ha8).1
 have HT := Lib.hid (F.htop hmm 1)
 rw [← hmm] at hreg
 have a0 : (0 : Int) ≤ (a : Int) := by omega
 have a8 : (a : Int) < 8 := by omega
 have H := Lib.hid h
 have HF := Lib.hid hf
 obtain ⟨v, hv⟩ : ∃ v, v = (W.g d.g).rg (a : Int) := ⟨_, rfl⟩
 rw [← hv] at hreg
 have e : sleepM W [] d.g d.x = if (if 1048576 < v then 1048576 else v) ≤ 0 then ⟨W, [], none⟩ else ⟨{ W.setSt d.g 3 with hp := pushF W.hp ⟨(W.clock : Int) + (if 1048576 < v then 1048576 else v), (W.nx : Int), (d.g : Int)⟩, nx := W.nx + 1 }, [], none⟩ := by
  unfold sleepM; rw [hA, ← hv]
 rw [e]
 obtain ⟨t, ht⟩ : ∃ t, t = if 1048576 < v then 1048576 else v := ⟨_, rfl⟩
 have ht2 : t ≤ 1048576 := by rw [ht]; split <;> omega
 rw [← ht]
 have hmin := ht.symm
 generalize hrr : (if t ≤ 0 then (⟨W, [], none⟩ : Dd) else ⟨{ W.setSt d.g 3 with hp := pushF W.hp ⟨(W.clock : Int) + t, (W.nx : Int), (d.g : Int)⟩, nx := W.nx + 1 }, [], none⟩) = rr
 have HRR := Lib.hid hrr
 have HMIN := Lib.hid hmin
 have HMX := Lib.hid (fun k => F.hme k)
 have FST : Hid (∀ n, (w.drewN n).cell? ⟨b, off + d.g * 2, none⟩ = some (.int .i64 (W.g d.g).st) ∧ (w.drewN n).frozen? ⟨b, off + d.g * 2, none⟩ = false) := Lib.hid (fun n => F.st)
 have HAA := Lib.hid F.aa
 have HHG := Lib.hid hg
 clear h hf F hm hmm hv e hA ha ht hg hrr hmin
 go_enter Tryz.func139, Tryz.ntmps139
 go_upto_region 0 with fail
 refine wp_region_lexK (fun wx => ∃ nq, wx = World.drewN (w) nq) 13 0 (Array.replicate 13 false) #[true, true, true, true, true, true, true, true, true, true, true, true, true] (by kernel_rfl) (by kernel_rfl) ?_
 refine wpAnyK_seg 0 1 _ #[true, false, false, false, false, false, false, false, false, false, false, false, false] 12 (by kernel_rfl) noPanic_put (drew_q w) (by kernel_rfl) ?_
 simp only [List.take_succ_cons, List.take_zero, List.drop_zero]
 repeat ((first | refine wpSegH_no (by rfl) ?_ | (refine wpSegH_yes (by rfl) ?_; apply Exists.intro; apply And.intro; (· (rintro wx ⟨nq, rfl⟩; go_simp; first | done | with_reducible rfl)))); simp only [Act.put, List.setIfInBounds_toArray, List.set_cons_zero, List.set_cons_succ])
 refine wpSegH_nil ?_
 refine wpAnyK_seg 2 5 _ #[true, false, true, true, true, true, true, false, false, false, false, false, false] 7 (by kernel_rfl) noPanic_put (drew_q w) (by kernel_rfl) ?_
 simp only [List.take_succ_cons, List.take_zero, List.drop_succ_cons, List.drop_zero]
 repeat ((first | refine wpSegH_no (by rfl) ?_ | (refine wpSegH_yes (by rfl) ?_; apply Exists.intro; apply And.intro; (· (rintro wx ⟨nq, rfl⟩; go_simp; first | done | with_reducible rfl)))); simp only [Act.put, List.setIfInBounds_toArray, List.set_cons_zero, List.set_cons_succ])
 refine wpSegH_nil ?_
 refine wpAnyK_one 1 _ #[true, true, true, true, true, true, true, false, false, false, false, false, false] 6 (by kernel_rfl) (fun K hK => ?_)
 have HKK := Lib.hid hK
 clear hK
 simp only [List.drop_succ_cons, List.drop_zero]
 refine headH_mk (by rfl) ?_
 go_simp
 refine HT.out.mono ?_
 rintro r w1 ⟨rfl, k1, hw1⟩
 refine HKK.out _ _ (q_q2 hw1) ?_
 clear HKK K
 refine wpAnyK_seg 7 6 _ #[true, true, true, true, true, true, true, true, true, true, true, true, true] 0 (by kernel_rfl) noPanic_put (q_q2 hw1) (by kernel_rfl) ?_
 simp only [List.take_succ_cons, List.take_zero, List.drop_succ_cons, List.drop_zero]
 repeat ((first | refine wpSegH_no (by rfl) ?_ | (refine wpSegH_yes (by rfl) ?_; apply Exists.intro; apply And.intro; (· (rintro wx ⟨nq, rfl⟩; go_simp; first | done | with_reducible rfl)))); simp only [Act.put, List.setIfInBounds_toArray, List.set_cons_zero, List.set_cons_succ])
 refine wpSegH_nil ?_
 refine wpAnyK_next ?_
 refine wpAnyK_done (by kernel_rfl) (NoPanic.normal ?_)
 rw [HMIN.out]
 have hw1' : w1 = w.drewN (1 + k1) := by rw [hw1, World.drewN_drewN]
 clear hw1 HT
 by_cases h0 : t ≤ 0
 ·have HE : Hid (DPost w0 p T d R rr (.returned (.tuple #[])) w1) := Lib.hid (by
   rw [← HRR.out, if_pos h0]
   exact ⟨rfl, D, ra, rc, HF.out, H.out.q1 hw1'⟩)
  clear hw1' FST
  go_wp2
  go_end0
  exact HE.out
 ·have ho := H.out.q1 hw1'
  have HM1 : Hid (Calls Tryz.prog 122 #[.pointer (some ⟨d.q, 0, none⟩)] w1 fun r w' => r = .returned (.pointer (some ⟨b, off + d.g * 2, none⟩)) ∧ ∃ j, w' = w1.drewN j) := Lib.hid (by rw [hw1']; exact HMX.out _)
  have c0 : ∀ j, (w1.drewN j).cell? ⟨b, off + d.g * 2, none⟩ = some (.int .i64 (W.g d.g).st) := fun j => by rw [hw1', World.drewN_drewN]; exact (FST.out _).1
  have c1 : ∀ j, (w1.drewN j).frozen? ⟨b, off + d.g * 2, none⟩ = false := fun j => by rw [hw1', World.drewN_drewN]; exact (FST.out _).2
  have HO := Lib.hid ho
  clear ho hw1' FST q0 q1 q3 hreg
  go_wp2_with fail
  refine HM1.out.mono ?_
  rintro r w2 ⟨rfl, j, hw2⟩
  have d0 := c0 j
  have d1 := c1 j
  rw [← hw2] at d0 d1
  have o2 := own_st (HO.out.q1 hw2) HF.out HHG.out HAA.out 3
  have HO2 := Lib.hid o2
  clear c0 c1 hw2 o2 HM1
  go_upto_region 3 with fail
  generalize w2.setCell ⟨b, off + d.g * 2, none⟩ (.int .i64 3) = w3 at *
  obtain ⟨x0, -⟩ := HO2.out.cel 10 rfl 0 _ rfl
  obtain ⟨x1, -⟩ := HO2.out.cel 10 rfl 1 _ rfl
  have x7 : w3.cell? ⟨p, 7, none⟩ = some (.int .u64 (W.clock : Int)) := (HO2.out.cel 0 rfl 7 _ rfl).1
  have HPU := Lib.hid (push_w (HO2.out.step (below_dN w3 1)) ((W.clock : Int) + t) (d.g : Int) hl hn)
  refine wp_region_lexK (fun wx => ∃ nq, wx = World.drewN (w3) nq) 20 1 (Array.replicate 21 false) #[true, true, true, true, true, true, true, true, true, true, true, true, true, true, true, true, true, true, true, true, false] (by kernel_rfl) (by kernel_rfl) ?_
  refine wpAnyK_seg 0 20 _ #[true, true, true, true, true, true, true, true, true, true, true, true, true, true, true, true, true, true, true, true, false] 0 (by kernel_rfl) noPanic_put (drew_q w3) (by kernel_rfl) ?_
  simp only [List.take_succ_cons, List.take_zero, List.drop_zero]
  repeat ((first | refine wpSegH_no (by rfl) ?_ | (refine wpSegH_yes (by rfl) ?_; apply Exists.intro; apply And.intro; (· (rintro wx ⟨nq, rfl⟩; go_simp; first | done | with_reducible rfl)))); simp only [Act.put, List.setIfInBounds_toArray, List.set_cons_zero, List.set_cons_succ])
  refine wpSegH_nil ?_
  refine wpAnyK_next ?_
  refine wpAnyK_seq 20 (by kernel_rfl) ?_
  simp only [List.drop_succ_cons, List.drop_zero]
  go_wp2_with fail
  refine HPU.out.mono ?_
  rintro r w4 ⟨sv', rfl, ho4⟩
  have HE : Hid (DPost w0 p T d R rr (.returned (.tuple #[])) w4) := Lib.hid (by
   rw [← HRR.out, if_neg (by omega)]
   exact ⟨rfl, _, ra, rc, (HF.out.setG d.g { W.g d.g with st := 3 }).sv _ _ _, ho4⟩)
  clear ho4 HPU
  go_wp2_with fail
  refine NoPanic.normal ?_
  go_wp2
  go_end0
  exact HE.out
structure DeedOk (W : Wd) (g : Nat) (x : In4) (dr : Int) (go : Bool) : Prop where
 r : 9 ≤ x.1 ∧ x.1 ≤ 22
 o9 : x.1 = 9 → 0 ≤ x.2.2.1 ∧ x.2.2.1 < 8
 o10 : x.1 = 10 → (0 ≤ x.2.1 ∧ x.2.1 < 8) ∧ (2 ≤ (W.g g).n → 0 ≤ (W.g g).z.getD ((W.g g).o + 10) 0 ∧ (W.g g).z.getD ((W.g g).o + 10) 0 < 8)
 o11 : x.1 = 11 → (0 ≤ x.2.2.1 ∧ x.2.2.1 < 8) ∧ (0 ≤ x.2.2.2 ∧ x.2.2.2 < 8) ∧ W.gs.length ≤ 100
 o13 : x.1 = 13 ∨ x.1 = 14 → TryOk W [] g x 0 ∧ WaitOk W x
 o15 : x.1 = 15 → CloseOk W x
 o16 : x.1 = 16 → ChooseOk W g x dr go
 o17 : x.1 = 17 → (0 ≤ x.2.1 ∧ x.2.1 < 8) ∧ W.hp.length ≤ 100000 ∧ W.nx ≤ 100000 ∧ W.clock ≤ 100000
 o18 : x.1 = 18 → (0 ≤ x.2.1 ∧ x.2.1 < (W.Ls.length : Int)) ∧ (∀ L ∈ W.Ls, L.length ≤ 1000000) ∧ W.Ls.length ≤ 1000
 o19 : x.1 = 19 → (0 ≤ x.2.1 ∧ x.2.1 < (W.Ls.length : Int)) ∧ (∀ L ∈ W.Ls, ∀ x ∈ L, 0 ≤ x ∧ x < (W.gs.length : Int)) ∧ W.Ls.length ≤ 1000 ∧ W.gs.length ≤ 1000
 o20 : x.1 = 20 → (0 ≤ x.2.1 ∧ x.2.1 < 8) ∧ W.out.length ≤ 1000
 o21 : x.1 = 21 → 0 ≤ x.2.1 ∧ x.2.1 < 8
def DeedAt (w0 : World) (p : Nat) (T : List Value) (d : Dq) (W : Wd) : Prop :=
 ∃ fk, (∀ w, (Instr.index 211 (.agg oth23) (.int .i64 d.x.1)).run Tryz.prog w = .ok (.func (.func fk) #[] #[]) w) ∧ (∀ (args : Array Value) (w : World), (callFunc fk args).run Tryz.prog w = .ok (.enter fk args) w) ∧
  ∀ R' w', DAt w0 w' p T d W [] R' → Calls Tryz.prog fk #[.pointer (some ⟨d.q, 0, none⟩)] w' fun r w'' => DPost w0 p T d R' (deedM W d.g d.x d.dr d.go) r w''
theorem deed_9 (w0 : World) (p : Nat) (T : List Value) (d : Dq) (W : Wd) (hg : d.g < W.gs.length) (hm : 1 ≤ (W.g d.g).n ∧ (W.g d.g).n ≤ 16) (ok : DeedOk W d.g d.x d.dr d.go) (h : d.x.1 = 9) : DeedAt w0 p T d W := by
 unfold DeedAt
 refine ⟨132, fun w => by rw [h]; kernel_rfl, fun _ _ => by kernel_rfl, fun R' w' hD => ?_⟩
 have e : deedM W d.g d.x d.dr d.go = callM W [] d.g d.x := by unfold deedM; simp [h]
 rw [e]
 exact dcall_any hD hg hm (ok.o9 h)
theorem deed_10 (w0 : World) (p : Nat) (T : List Value) (d : Dq) (W : Wd) (hg : d.g < W.gs.length) (hm : 1 ≤ (W.g d.g).n ∧ (W.g d.g).n ≤ 16) (ok : DeedOk W d.g d.x d.dr d.go) (h : d.x.1 = 10) : DeedAt w0 p T d W := by
 unfold DeedAt
 refine ⟨133, fun w => by rw [h]; kernel_rfl, fun _ _ => by kernel_rfl, fun R' w' hD => ?_⟩
 have e : deedM W d.g d.x d.dr d.go = retM W [] d.g d.x := by unfold deedM; simp [h]
 rw [e]
 exact dret_any hD hg hm (ok.o10 h).1 (ok.o10 h).2
theorem deed_11 (w0 : World) (p : Nat) (T : List Value) (d : Dq) (W : Wd) (hg : d.g < W.gs.length) (hm : 1 ≤ (W.g d.g).n ∧ (W.g d.g).n ≤ 16) (ok : DeedOk W d.g d.x d.dr d.go) (h : d.x.1 = 11) : DeedAt w0 p T d W := by
 unfold DeedAt
 refine ⟨134, fun w => by rw [h]; kernel_rfl, fun _ _ => by kernel_rfl, fun R' w' hD => ?_⟩
 have e : deedM W d.g d.x d.dr d.go = spawnM W [] d.g d.x := by unfold deedM; simp [h]
 rw [e]
 exact dspawn_any hD hg hm (ok.o11 h).1 (ok.o11 h).2.1 (ok.o11 h).2.2
theorem deed_13 (w0 : World) (p : Nat) (T : List Value) (d : Dq) (W : Wd) (hg : d.g < W.gs.length) (hm : 1 ≤ (W.g d.g).n ∧ (W.g d.g).n ≤ 16) (ok : DeedOk W d.g d.x d.dr d.go) (h : d.x.1 = 13) : DeedAt w0 p T d W := by
 unfold DeedAt
 refine ⟨136, fun w => by rw [h]; kernel_rfl, fun _ _ => by kernel_rfl, fun R' w' hD => ?_⟩
 have e : deedM W d.g d.x d.dr d.go = chanM W [] d.g d.x := by unfold deedM; simp [h]
 rw [e]
 exact dchan_any hD hg hm (ok.o13 (.inl h)).1 (ok.o13 (.inl h)).2
theorem deed_14 (w0 : World) (p : Nat) (T : List Value) (d : Dq) (W : Wd) (hg : d.g < W.gs.length) (hm : 1 ≤ (W.g d.g).n ∧ (W.g d.g).n ≤ 16) (ok : DeedOk W d.g d.x d.dr d.go) (h : d.x.1 = 14) : DeedAt w0 p T d W := by
 unfold DeedAt
 refine ⟨136, fun w => by rw [h]; kernel_rfl, fun _ _ => by kernel_rfl, fun R' w' hD => ?_⟩
 have e : deedM W d.g d.x d.dr d.go = chanM W [] d.g d.x := by unfold deedM; simp [h]
 rw [e]
 exact dchan_any hD hg hm (ok.o13 (.inr h)).1 (ok.o13 (.inr h)).2
theorem deed_15 (w0 : World) (p : Nat) (T : List Value) (d : Dq) (W : Wd) (hg : d.g < W.gs.length) (hm : 1 ≤ (W.g d.g).n ∧ (W.g d.g).n ≤ 16) (ok : DeedOk W d.g d.x d.dr d.go) (h : d.x.1 = 15) : DeedAt w0 p T d W := by
 unfold DeedAt
 refine ⟨137, fun w => by rw [h]; kernel_rfl, fun _ _ => by kernel_rfl, fun R' w' hD => ?_⟩
 have e : deedM W d.g d.x d.dr d.go = closeM W [] d.x := by unfold deedM; simp [h]
 rw [e]
 exact dclose_any hD (ok.o15 h)
theorem deed_16 (w0 : World) (p : Nat) (T : List Value) (d : Dq) (W : Wd) (hg : d.g < W.gs.length) (hm : 1 ≤ (W.g d.g).n ∧ (W.g d.g).n ≤ 16) (ok : DeedOk W d.g d.x d.dr d.go) (h : d.x.1 = 16) : DeedAt w0 p T d W := by
 unfold DeedAt
 refine ⟨138, fun w => by rw [h]; kernel_rfl, fun _ _ => by kernel_rfl, fun R' w' hD => ?_⟩
 have e : deedM W d.g d.x d.dr d.go = chooseM W [] d.g d.x d.dr d.go := by unfold deedM; simp [h]
 rw [e]
 exact dchoose_any hD hg hm (ok.o16 h)
theorem deed_17 (w0 : World) (p : Nat) (T : List Value) (d : Dq) (W : Wd) (hg : d.g < W.gs.length) (hm : 1 ≤ (W.g d.g).n ∧ (W.g d.g).n ≤ 16) (ok : DeedOk W d.g d.x d.dr d.go) (h : d.x.1 = 17) : DeedAt w0 p T d W := by
 unfold DeedAt
 refine ⟨139, fun w => by rw [h]; kernel_rfl, fun _ _ => by kernel_rfl, fun R' w' hD => ?_⟩
 have e : deedM W d.g d.x d.dr d.go = sleepM W [] d.g d.x := by unfold deedM; simp [h]
 rw [e]
 exact dsleep_any hD hg hm (ok.o17 h).1 (ok.o17 h).2.1 (ok.o17 h).2.2.1 (ok.o17 h).2.2.2
theorem deed_18 (w0 : World) (p : Nat) (T : List Value) (d : Dq) (W : Wd) (hg : d.g < W.gs.length) (hm : 1 ≤ (W.g d.g).n ∧ (W.g d.g).n ≤ 16) (ok : DeedOk W d.g d.x d.dr d.go) (h : d.x.1 = 18) : DeedAt w0 p T d W := by
 unfold DeedAt
 refine ⟨140, fun w => by rw [h]; kernel_rfl, fun _ _ => by kernel_rfl, fun R' w' hD => ?_⟩
 have e : deedM W d.g d.x d.dr d.go = lockM W [] d.g d.x := by unfold deedM; simp [h]
 rw [e]
 exact dlock_any hD hg hm (ok.o18 h).1 (ok.o18 h).2.1 (ok.o18 h).2.2
theorem deed_19 (w0 : World) (p : Nat) (T : List Value) (d : Dq) (W : Wd) (hg : d.g < W.gs.length) (hm : 1 ≤ (W.g d.g).n ∧ (W.g d.g).n ≤ 16) (ok : DeedOk W d.g d.x d.dr d.go) (h : d.x.1 = 19) : DeedAt w0 p T d W := by
 unfold DeedAt
 refine ⟨141, fun w => by rw [h]; kernel_rfl, fun _ _ => by kernel_rfl, fun R' w' hD => ?_⟩
 have e : deedM W d.g d.x d.dr d.go = unlockM W [] d.g d.x := by unfold deedM; simp [h]
 rw [e]
 exact dunlock_any hD hg hm (ok.o19 h).1 (ok.o19 h).2.1 (ok.o19 h).2.2.1 (ok.o19 h).2.2.2
theorem deed_20 (w0 : World) (p : Nat) (T : List Value) (d : Dq) (W : Wd) (hg : d.g < W.gs.length) (hm : 1 ≤ (W.g d.g).n ∧ (W.g d.g).n ≤ 16) (ok : DeedOk W d.g d.x d.dr d.go) (h : d.x.1 = 20) : DeedAt w0 p T d W := by
 unfold DeedAt
 refine ⟨142, fun w => by rw [h]; kernel_rfl, fun _ _ => by kernel_rfl, fun R' w' hD => ?_⟩
 have e : deedM W d.g d.x d.dr d.go = emitM W [] d.g d.x := by unfold deedM; simp [h]
 rw [e]
 exact demit_any hD hg hm (ok.o20 h).1 (ok.o20 h).2
theorem deed_21 (w0 : World) (p : Nat) (T : List Value) (d : Dq) (W : Wd) (hg : d.g < W.gs.length) (hm : 1 ≤ (W.g d.g).n ∧ (W.g d.g).n ≤ 16) (ok : DeedOk W d.g d.x d.dr d.go) (h : d.x.1 = 21) : DeedAt w0 p T d W := by
 unfold DeedAt
 refine ⟨143, fun w => by rw [h]; kernel_rfl, fun _ _ => by kernel_rfl, fun R' w' hD => ?_⟩
 have e : deedM W d.g d.x d.dr d.go = ⟨W.put d.g d.x.2.1 d.dr, [], none⟩ := by unfold deedM; simp [h]
 rw [e]
 exact drand_any hD hg hm (ok.o21 h)
theorem deed_12 (w0 : World) (p : Nat) (T : List Value) (d : Dq) (W : Wd) (hg : d.g < W.gs.length) (hm : 1 ≤ (W.g d.g).n ∧ (W.g d.g).n ≤ 16) (ok : DeedOk W d.g d.x d.dr d.go) (h : d.x.1 = 12) : DeedAt w0 p T d W := by
 unfold DeedAt
 refine ⟨135, fun w => by rw [h]; kernel_rfl, fun _ _ => by kernel_rfl, fun R' w' hD => ?_⟩
 have e : deedM W d.g d.x d.dr d.go = ⟨W, [], none⟩ := by unfold deedM; simp [h]
 rw [e]
 refine (dyield_any d.q w').mono (fun r w2 hh => ?_)
 obtain ⟨rfl, rfl⟩ := hh
 exact ⟨rfl, hD⟩
theorem deed_22 (w0 : World) (p : Nat) (T : List Value) (d : Dq) (W : Wd) (hg : d.g < W.gs.length) (hm : 1 ≤ (W.g d.g).n ∧ (W.g d.g).n ≤ 16) (ok : DeedOk W d.g d.x d.dr d.go) (h : d.x.1 = 22) : DeedAt w0 p T d W := by
 unfold DeedAt
 refine ⟨144, fun w => by rw [h]; kernel_rfl, fun _ _ => by kernel_rfl, fun R' w' hD => ?_⟩
 have e : deedM W d.g d.x d.dr d.go = ⟨W, [], some d.x.2.1⟩ := by unfold deedM; simp [h]
 rw [e]
 have c3 : w'.cell? ⟨d.q, 3, none⟩ = some (.int .i64 d.x.2.1) := by
  obtain ⟨D, ra, rc, hf, ho⟩ := hD
  exact (ho.cel 10 rfl 3 _ rfl).1
 refine (dend_any d.q d.x.2.1 w' c3).mono (fun r w2 hh => ?_)
 obtain ⟨rfl, rfl⟩ := hh
 exact ⟨rfl, hD⟩
theorem deed_any (w0 : World) (p : Nat) (T : List Value) (d : Dq) (W : Wd) (hg : d.g < W.gs.length) (hm : 1 ≤ (W.g d.g).n ∧ (W.g d.g).n ≤ 16) (ok : DeedOk W d.g d.x d.dr d.go) : DeedAt w0 p T d W := by
 obtain ⟨h1, h2⟩ := ok.r
 have hc : d.x.1 = 9 ∨ d.x.1 = 10 ∨ d.x.1 = 11 ∨ d.x.1 = 12 ∨ d.x.1 = 13 ∨ d.x.1 = 14 ∨ d.x.1 = 15 ∨ d.x.1 = 16 ∨ d.x.1 = 17 ∨ d.x.1 = 18 ∨ d.x.1 = 19 ∨ d.x.1 = 20 ∨ d.x.1 = 21 ∨ d.x.1 = 22 := by omega
 rcases hc with h | h | h | h | h | h | h | h | h | h | h | h | h | h
 ·exact deed_9 w0 p T d W hg hm ok h
 ·exact deed_10 w0 p T d W hg hm ok h
 ·exact deed_11 w0 p T d W hg hm ok h
 ·exact deed_12 w0 p T d W hg hm ok h
 ·exact deed_13 w0 p T d W hg hm ok h
 ·exact deed_14 w0 p T d W hg hm ok h
 ·exact deed_15 w0 p T d W hg hm ok h
 ·exact deed_16 w0 p T d W hg hm ok h
 ·exact deed_17 w0 p T d W hg hm ok h
 ·exact deed_18 w0 p T d W hg hm ok h
 ·exact deed_19 w0 p T d W hg hm ok h
 ·exact deed_20 w0 p T d W hg hm ok h
 ·exact deed_21 w0 p T d W hg hm ok h
 ·exact deed_22 w0 p T d W hg hm ok h
theorem Wd.step_len (W : Wd) (g : Nat) : (W.step g).gs.length = W.gs.length := by unfold Wd.step Wd.setG; simp
theorem Wd.step_n (W : Wd) (g : Nat) (hg : g < W.gs.length) : ((W.step g).g g).n = (W.g g).n := by unfold Wd.step; rw [Wd.g_setG _ _ _ _ hg]; simp
structure DoOk (W : Wd) (g : Nat) (dr : Int) (go : Bool) : Prop where
 hg : g < W.gs.length
 hm : 1 ≤ (W.g g).n ∧ (W.g g).n ≤ 16
 pc : 0 ≤ (W.g g).pc ∧ (W.g g).pc < 1000
 pure : ∀ x, W.ins g = some x → pureM x (W.g g).o (W.g g).z ≠ none → PureOk x
 deed : ∀ x, W.ins g = some x → pureM x (W.g g).o (W.g g).z = none → DeedOk (W.step g) g x dr go
theorem do_any {w0 w : World} {p : Nat} {T : List Value} {W : Wd} {R : List Asr} (q g : Nat) (dr : Int) (go : Bool) (ok : DoOk W g dr go) (h : DAt w0 w p T ((boxM W q g).ask dr go) W [] R) :
  Calls Tryz.prog 96 #[.pointer (some ⟨q, 0, none⟩)] w fun r w' => r = .returned (.tuple #[]) ∧ DAt w0 w' p T ((boxM W q g).ask dr go) (doM W g (W.ins g) dr go).end_ (doM W g (W.ins g) dr go).rd R := by
 obtain ⟨hg, hm, hpc, hpu, hde⟩ := ok
 cases hI : W.ins g with
 | none =>
  have ht : ((boxM W q g).ask dr go).th = false := by show (W.ins g).isSome = false; rw [hI]; rfl
  exact ddo_none h ht
 | some x =>
  have ht : ((boxM W q g).ask dr go).th = true := by show (W.ins g).isSome = true; rw [hI]; rfl
  have hx : ((boxM W q g).ask dr go).x = x := by show (W.ins g).getD (0, 0, 0, 0) = x; rw [hI]; rfl
  cases hP : pureM x (W.g g).o (W.g g).z with
  | some z =>
   have hz : pureM ((boxM W q g).ask dr go).x (W.g ((boxM W q g).ask dr go).g).o (W.g ((boxM W q g).ask dr go).g).z = some z := by rw [hx]; exact hP
   have e : doM W g (some x) dr go = ⟨W.setG g { W.g g with z := z }, [], none⟩ := by unfold doM; simp [hP]
   rw [e]
   exact ddo_pure h ht hg hm (by rw [hx]; exact hpu x hI (by rw [hP]; simp)) hpc hz
  | none =>
   have e : doM W g (some x) dr go = deedM (W.step g) g x dr go := by unfold doM; simp [hP]
   rw [e]
   have hD := hde x hI hP
   obtain ⟨fk, hix, heg, hc⟩ := deed_any w0 p T ((boxM W q g).ask dr go) (W.step g) (by rw [Wd.step_len]; exact hg) (by show 1 ≤ ((W.step g).g g).n ∧ ((W.step g).g g).n ≤ 16; rw [Wd.step_n _ _ hg]; exact hm) (by rw [hx]; exact hD)
   rw [hx] at hix hc
   exact ddo_deed h ht hg hm (by rw [hx]; exact ⟨hD.r.1, hD.r.2⟩) hpc fk (by rw [hx]; exact hix) heg _ (fun R' w' h' => hc R' w' h')
structure AskIn (W : Wd) (x : In4) : Prop where
 sel : x.1 = 16 → AskOk W x
 rnd : x.1 = 21 → 1 ≤ x.2.2.1 ∧ x.2.2.1 < 9223372036854775808
theorem ask_all {w0 w : World} {p : Nat} {T : List Value} {d : Dq} {W : Wd} {R : List Asr} {F : Nat} {fst cap : Array Value} {Qd : Int → List Asr → Prop} {Qp : Ending → List Asr → Prop} (h : DAt w0 w p T d W [] R) (hgo : d.go = false) (ok : AskIn W d.x)
  (en : ∀ (args : Array Value) (w : World), (callFunc F args).run Tryz.prog w = .ok (.enter F args) w) (hd : 1 ≤ askN W d.x → DrawOk w0 p T W F fst cap (askK d.x) (askN W d.x : Int) R Qd Qp) :
  Calls Tryz.prog 95 #[.pointer (some ⟨d.q, 0, none⟩), .func (.func F) fst cap] w fun r w' => (askN W d.x = 0 ∧ r = .returned (.tuple #[]) ∧ DAt w0 w' p T d W [] R) ∨ (1 ≤ askN W d.x ∧ AskPost w0 p T d W Qd Qp r w') := by
 by_cases h1 : d.x.1 = 21
 ·have hB := ok.rnd h1
  have e : (askN W d.x : Int) = d.x.2.2.1 := by unfold askN; rw [if_pos h1]; omega
  have e1 : 1 ≤ askN W d.x := by omega
  have ek : askK d.x = 4 := by unfold askK; rw [if_pos h1]
  have hd2 := hd e1
  rw [e, ek] at hd2
  exact (ask_rand h h1 hgo hB en hd2).mono (fun r w' hh => .inr ⟨e1, hh⟩)
 ·by_cases h2 : d.x.1 = 16
  ·have e : askN W d.x = (enF (goesN W.Ns W.Cs) 0 (W.cas d.x)).length := by unfold askN; rw [if_neg h1, if_pos h2]
   have ek : askK d.x = 3 := by unfold askK; rw [if_neg h1]
   rw [e, ek] at hd
   rw [e]
   exact ask_sel h h2 (ok.sel h2) _ rfl en (fun h3 _ => hd h3)
  ·have e : askN W d.x = 0 := by unfold askN; rw [if_neg h1, if_neg h2]
   refine (ask_no h (.func (.func F) fst cap) h1 h2).mono (fun r w' hh => .inl ⟨e, hh.1, ?_⟩)
   rw [hh.2]; exact h
theorem askM_none {W : Wd} {x : In4} (ok : AskIn W x) (h : askN W x = 0) (v : Int) : askM W x v = (0, false) := by
 unfold askN at h
 unfold askM
 split at h
 ·rename_i h1; have := ok.rnd h1; omega
 ·rename_i h1
  rw [if_neg h1]
  split at h
  ·rename_i h2; rw [if_pos h2, if_pos h]
  ·rename_i h2; rw [if_neg h2]
def ExecTo (w0 : World) (p : Nat) (T : List Value) (W : Wd) (g : Nat) (R : List Asr) (Qd : Int → List Asr → Prop) (Qp : Ending → List Asr → Prop) (r : Ending) (w' : World) : Prop :=
 (∃ v R' D' ra rc, (askN W ((W.ins g).getD (0, 0, 0, 0)) = 0 ∧ R' = R ∨ 1 ≤ askN W ((W.ins g).getD (0, 0, 0, 0)) ∧ Qd v R') ∧
  r = .returned (.agg #[.bool (execM W g v).2.1, .slice ra (execM W g v).2.2.length rc]) ∧ D'.fits (execM W g v).1 ∧ Own w0 w' (RowGA 1 ra rc (execM W g v).2.2.length (intc (execM W g v).2.2) :: (wparts p (execM W g v).1 D' T ++ R'))) ∨
 (∃ D' chain R', r = .panicked chain ∧ 1 ≤ askN W ((W.ins g).getD (0, 0, 0, 0)) ∧ Qp r R' ∧ D'.fits W ∧ Own w0 w' (wparts p W D' T ++ R'))
structure ExecOk (W : Wd) (g : Nat) : Prop where
 lets : W.lets (g : Int)
 next : NextOk W g
 ask : AskIn W ((W.ins g).getD (0, 0, 0, 0))
 do_ : ∀ v, DoOk W g (askM W ((W.ins g).getD (0, 0, 0, 0)) v).1 (askM W ((W.ins g).getD (0, 0, 0, 0)) v).2
 after : ∀ v, g < (execM W g v).1.gs.length ∧ 1 ≤ ((execM W g v).1.g g).n ∧ ((execM W g v).1.g g).n ≤ 16
theorem execM_lets {W : Wd} {g : Nat} (h : W.lets (g : Int)) (v : Int) : execM W g v =
  ((doM W g (W.ins g) (askM W ((W.ins g).getD (0, 0, 0, 0)) v).1 (askM W ((W.ins g).getD (0, 0, 0, 0)) v).2).end_, keepsM (doM W g (W.ins g) (askM W ((W.ins g).getD (0, 0, 0, 0)) v).1 (askM W ((W.ins g).getD (0, 0, 0, 0)) v).2).end_ g ((W.ins g).getD (0, 0, 0, 0)), (doM W g (W.ins g) (askM W ((W.ins g).getD (0, 0, 0, 0)) v).1 (askM W ((W.ins g).getD (0, 0, 0, 0)) v).2).rd) := by
 unfold execM; rw [if_pos h]; rfl
theorem exec_all {w0 w : World} {p : Nat} {T : List Value} {W : Wd} {D : Wa} {R : List Asr} {F : Nat} {fst cap : Array Value} {Qd : Int → List Asr → Prop} {Qp : Ending → List Asr → Prop} (h : Own w0 w (wparts p W D T ++ R)) (hf : D.fits W) (g : Nat) (ok : ExecOk W g)
  (en : ∀ (args : Array Value) (w : World), (callFunc F args).run Tryz.prog w = .ok (.enter F args) w) (hd : 1 ≤ askN W ((W.ins g).getD (0, 0, 0, 0)) → DrawOk w0 p T W F fst cap (askK ((W.ins g).getD (0, 0, 0, 0))) (askN W ((W.ins g).getD (0, 0, 0, 0)) : Int) R Qd Qp) :
  Calls Tryz.prog 72 #[.pointer (some ⟨p, 0, none⟩), .int .i64 (g : Int), .func (.func F) fst cap] w fun r w' => ExecTo w0 p T W g R Qd Qp r w' := by
 obtain ⟨hl, hn, hak, hdo, haf⟩ := ok
 obtain ⟨x, hx⟩ : ∃ x, x = (W.ins g).getD (0, 0, 0, 0) := ⟨_, rfl⟩
 refine (exec_any h hf g hl hn (.func (.func F) fst cap)
  (Qa := fun v go R' => ∃ dv, (v, go) = askM W x dv ∧ (askN W x = 0 ∧ R' = R ∨ 1 ≤ askN W x ∧ Qd dv R'))
  (Qp := fun r R' => 1 ≤ askN W x ∧ Qp r R') (fun q b w1 hD => ?_) (fun q v go R' R2 w1 hq hD => ?_) (fun v go R' hq => ?_)).mono (fun r w' hh => ?_)
 ·have hm := ask_all (F := F) (fst := fst) (cap := cap) hD rfl (by show AskIn W ((W.ins g).getD (0, 0, 0, 0)); exact hak) en (fun h1 => (hd h1).more (CelA b [.bool false, .slice none 0 0]))
  refine hm.mono (fun r w' hh => ?_)
  have ex : (boxM W q g).x = x := hx.symm
  rw [ex] at hh
  rcases hh with ⟨h0, rfl, h2⟩ | ⟨h1, ⟨v, R2, rfl, ⟨R', rfl, hq⟩, h2⟩ | ⟨ch, R2, rfl, ⟨R', rfl, hq⟩, h2⟩⟩
  ·exact .inl ⟨0, false, R, rfl, ⟨0, (askM_none (by rw [hx]; exact hak) h0 0).symm, .inl ⟨h0, rfl⟩⟩, h2⟩
  ·rw [ex] at h2
   exact .inl ⟨_, _, R', rfl, ⟨v, rfl, .inr ⟨h1, hq⟩⟩, h2⟩
  ·exact .inr ⟨ch, R', rfl, ⟨h1, hq⟩, h2⟩
 ·obtain ⟨dv, he, -⟩ := hq
  have ok := hdo dv
  rw [← hx, ← he] at ok
  exact do_any q g v go ok hD
 ·obtain ⟨dv, he, -⟩ := hq
  have ha := haf dv
  rw [execM_lets hl, ← hx, ← he] at ha
  exact ha
 ·rcases hh with ⟨v, go, R', D', ra, rc, h1, ⟨dv, he, hq⟩, h2, h3⟩ | ⟨D', ch, R', h1, ⟨h2, h3⟩, h4, h5⟩
  ·refine .inl ⟨dv, R', D', ra, rc, by rw [← hx]; exact hq, ?_⟩
   rw [execM_lets hl, ← hx, ← he]
   rw [← hx] at h1
   exact ⟨h1, h2, h3⟩
  ·exact .inr ⟨D', ch, R', h1, by rw [← hx]; exact h2, h3, h4, h5⟩
structure InsOk (nf nc nk nl n : Nat) (x : In4) : Prop where
 op : 0 ≤ x.1 ∧ x.1 ≤ 22
 pure : x.1 ≤ 8 → PureOk x
 j7 : x.1 = 7 → 0 ≤ x.2.1 ∧ x.2.1 < (n : Int)
 j8 : x.1 = 8 → 0 ≤ x.2.2.1 ∧ x.2.2.1 < (n : Int)
 o9 : x.1 = 9 ∨ x.1 = 11 → (0 ≤ x.2.1 ∧ x.2.1 < (nf : Int)) ∧ (0 ≤ x.2.2.1 ∧ x.2.2.1 < 8) ∧ (0 ≤ x.2.2.2 ∧ x.2.2.2 < 8)
 o10 : x.1 = 10 ∨ x.1 = 17 ∨ x.1 = 20 → 0 ≤ x.2.1 ∧ x.2.1 < 8
 o13 : x.1 = 13 → (0 ≤ x.2.1 ∧ x.2.1 < (nc : Int)) ∧ (0 ≤ x.2.2.1 ∧ x.2.2.1 < 8)
 o14 : x.1 = 14 → (0 ≤ x.2.1 ∧ x.2.1 < (nc : Int)) ∧ (0 ≤ x.2.2.1 ∧ x.2.2.1 < 8) ∧ (0 ≤ x.2.2.2 ∧ x.2.2.2 < 8)
 o15 : x.1 = 15 → 0 ≤ x.2.1 ∧ x.2.1 < (nc : Int)
 o16 : x.1 = 16 → (0 ≤ x.2.1 ∧ 1 ≤ x.2.2.1 ∧ x.2.1 + x.2.2.1 ≤ (nk : Int)) ∧ (0 ≤ x.2.2.2 ∧ x.2.2.2 < 8)
 o18 : x.1 = 18 ∨ x.1 = 19 → 0 ≤ x.2.1 ∧ x.2.1 < (nl : Int)
 o21 : x.1 = 21 → (0 ≤ x.2.1 ∧ x.2.1 < 8) ∧ 1 ≤ x.2.2.1 ∧ x.2.2.1 < 1099511627776
theorem insOk_of {nf nc nk nl n : Nat} {x : In4} (h0 : 0 ≤ x.1) (h : goodB nf nc nk (nl : Int) n x = some true) : InsOk nf nc nk nl n x := by
 obtain ⟨o, a, b, c⟩ := x
 obtain ⟨k, rfl⟩ : ∃ k : Nat, o = (k : Int) := ⟨o.toNat, by simp only at h0; omega⟩
 have hk : k ≤ 22 := by
  rcases Nat.lt_or_ge 22 k with h1 | h1
  ·exfalso
   obtain ⟨j, rfl⟩ : ∃ j, k = 23 + j := ⟨k - 23, by omega⟩
   unfold goodB at h
   simp only [Int.toNat_natCast] at h
   split at h <;> first | omega | cases h
  ·exact h1
 have hkk : k = 0 ∨ k = 1 ∨ k = 2 ∨ k = 3 ∨ k = 4 ∨ k = 5 ∨ k = 6 ∨ k = 7 ∨ k = 8 ∨ k = 9 ∨ k = 10 ∨ k = 11 ∨ k = 12 ∨ k = 13 ∨ k = 14 ∨ k = 15 ∨ k = 16 ∨ k = 17 ∨ k = 18 ∨ k = 19 ∨ k = 20 ∨ k = 21 ∨ k = 22 := by omega
 clear hk h0
 rcases hkk with rfl | rfl | rfl | rfl | rfl | rfl | rfl | rfl | rfl | rfl | rfl | rfl | rfl | rfl | rfl | rfl | rfl | rfl | rfl | rfl | rfl | rfl | rfl
 all_goals
  simp only [goodB, inn, Int.toNat_natCast, Option.some.injEq, Bool.and_eq_true, decide_eq_true_eq, beq_iff_eq] at h
  refine ⟨?_, fun _ => ?_, fun _ => ?_, fun _ => ?_, fun _ => ?_, fun _ => ?_, fun _ => ?_, fun _ => ?_, fun _ => ?_, fun _ => ?_, fun _ => ?_, fun _ => ?_⟩
  all_goals (simp only [PureOk] at *; omega)
structure GW (fs : List (List In4)) (G : Gt) : Prop where
 n : 1 ≤ G.n ∧ G.n ≤ 16
 len : G.z.length = G.n * 11
 fr : ∀ i, i < G.n → (0 ≤ G.z.getD (i * 11) 0 ∧ G.z.getD (i * 11) 0 < (fs.length : Int)) ∧ (0 ≤ G.z.getD (i * 11 + 1) 0 ∧ G.z.getD (i * 11 + 1) 0 ≤ ((fs.getD (G.z.getD (i * 11) 0).toNat []).length : Int)) ∧ 0 ≤ G.z.getD (i * 11 + 10) 0 ∧ G.z.getD (i * 11 + 10) 0 < 8
structure PW (fs : List (List In4)) (ks : List Cs3) (nc nl : Nat) : Prop where
 f : 1 ≤ fs.length ∧ fs.length ≤ 1000
 fl : ∀ l ∈ fs, l.length ≤ 900
 ins : ∀ l ∈ fs, ∀ x ∈ l, 0 ≤ x.1 ∧ goodB fs.length nc ks.length (nl : Int) l.length x = some true
 kl : ks.length ≤ 800
 ck : CasOK nc ks
 nc : nc ≤ 1000
 nl : nl ≤ 1000
def WtOk (W : Wd) (w : Wt) : Prop := (0 ≤ w.1 ∧ w.1 < (W.gs.length : Int)) ∧ (W.g w.1.toNat).st = 2 ∧ ∃ x, W.insAt (W.g w.1.toNat).fn ((W.g w.1.toNat).pc - 1) = some x ∧ (x.1 = 13 ∨ x.1 = 14 ∨ x.1 = 16) ∧ 0 ≤ w.2.1 ∧ w.2.1 < ((W.cas x).length : Int)
def LkOk (W : Wd) (i : Nat) (g : Int) : Prop := (W.g g.toNat).st = 2 ∧ ∃ x, W.insAt (W.g g.toNat).fn ((W.g g.toNat).pc - 1) = some x ∧ x.1 = 18 ∧ x.2.1 = (i : Int)
def ItOk (W : Wd) (x : It) : Prop := (0 ≤ x.id ∧ x.id < (W.gs.length : Int)) ∧ (W.g x.id.toNat).st = 3 ∧ (0 ≤ x.at_ ∧ x.at_ ≤ 1099511627776) ∧ 0 ≤ x.seq ∧ x.seq < (W.nx : Int)
def ChOk (B : Nat) (W : Wd) (C : Ch) : Prop := C.buf.length ≤ 16 ∧ C.S.length ≤ B ∧ C.R.length ≤ B ∧ (∀ w ∈ C.S, WtOk W w) ∧ ∀ w ∈ C.R, WtOk W w
def LsOk (B : Nat) (W : Wd) (i : Nat) (L : List Int) : Prop := L.length ≤ B ∧ (∀ g ∈ L, 0 ≤ g ∧ g < (W.gs.length : Int)) ∧ L.tail.Nodup ∧ ∀ g ∈ L.tail, LkOk W i g
structure WF (B : Nat) (W : Wd) : Prop where
 p : PW W.fs W.ks W.Cs.length W.Ls.length
 ns : W.Ns.length = W.Cs.length ∧ ∀ N ∈ W.Ns, N ≤ 16
 g1 : 1 ≤ W.gs.length ∧ W.gs.length ≤ 100
 gw : ∀ G ∈ W.gs, GW W.fs G
 cs : ∀ C ∈ W.Cs, ChOk B W C
 ls : ∀ i L, W.Ls[i]? = some L → LsOk B W i L
 hp : W.hp.length ≤ B ∧ (W.hp.map (·.id)).Nodup ∧ (∀ x ∈ W.hp, ItOk W x) ∧ HeapI W.hp
 nx : W.nx ≤ B
 clock : W.clock ≤ B
 out : W.out.length ≤ 1000
theorem ChOk.mono {B C : Nat} {W : Wd} {c : Ch} (h : ChOk B W c) (hb : B ≤ C) : ChOk C W c := ⟨h.1, Nat.le_trans h.2.1 hb, Nat.le_trans h.2.2.1 hb, h.2.2.2⟩
theorem WF.mono {B C : Nat} {W : Wd} (h : WF B W) (hb : B ≤ C) : WF C W :=
 ⟨h.p, h.ns, h.g1, h.gw, fun c hc => (h.cs c hc).mono hb, fun i L hL => ⟨Nat.le_trans (h.ls i L hL).1 hb, (h.ls i L hL).2⟩, ⟨Nat.le_trans h.hp.1 hb, h.hp.2⟩, Nat.le_trans h.nx hb, Nat.le_trans h.clock hb, h.out⟩
theorem WF.at {B : Nat} {W : Wd} (h : WF B W) {j : Nat} (hj : j < W.gs.length) : GW W.fs (W.g j) := h.gw _ (List.mem_of_getElem? (Wd.g_at hj))
def Kept (W : Wd) (gs' : List Gt) : Prop := W.gs.length ≤ gs'.length ∧ ∀ j, j < W.gs.length → ((W.g j).st = 2 ∨ (W.g j).st = 3) → (gs'.getD j g0).st = (W.g j).st ∧ (gs'.getD j g0).fn = (W.g j).fn ∧ (gs'.getD j g0).pc = (W.g j).pc
theorem WtOk.kept {W : Wd} {gs' : List Gt} {w : Wt} (h : WtOk W w) (k : Kept W gs') : WtOk { W with gs := gs' } w := by
 obtain ⟨h1, h2, x, h3, h4⟩ := h
 obtain ⟨e1, e2, e3⟩ := k.2 w.1.toNat (by omega) (.inl h2)
 refine ⟨⟨h1.1, by have := k.1; show w.1 < (gs'.length : Int); omega⟩, by show (gs'.getD w.1.toNat g0).st = 2; rw [e1]; exact h2, x, ?_, h4⟩
 show W.insAt (gs'.getD w.1.toNat g0).fn ((gs'.getD w.1.toNat g0).pc - 1) = some x
 rw [e2, e3]; exact h3
theorem LkOk.kept {W : Wd} {gs' : List Gt} {i : Nat} {g : Int} (h : LkOk W i g) (hg : 0 ≤ g ∧ g < (W.gs.length : Int)) (k : Kept W gs') : LkOk { W with gs := gs' } i g := by
 obtain ⟨h2, x, h3, h4⟩ := h
 obtain ⟨e1, e2, e3⟩ := k.2 g.toNat (by omega) (.inl h2)
 refine ⟨by show (gs'.getD g.toNat g0).st = 2; rw [e1]; exact h2, x, ?_, h4⟩
 show W.insAt (gs'.getD g.toNat g0).fn ((gs'.getD g.toNat g0).pc - 1) = some x
 rw [e2, e3]; exact h3
theorem ItOk.kept {W : Wd} {gs' : List Gt} {x : It} (h : ItOk W x) (k : Kept W gs') : ItOk { W with gs := gs' } x := by
 obtain ⟨h1, h2, h3⟩ := h
 obtain ⟨e1, -, -⟩ := k.2 x.id.toNat (by omega) (.inr h2)
 exact ⟨⟨h1.1, by have := k.1; show x.id < (gs'.length : Int); omega⟩, by show (gs'.getD x.id.toNat g0).st = 3; rw [e1]; exact h2, h3⟩
theorem WF.gsm {B : Nat} {W : Wd} (h : WF B W) (gs' : List Gt) (k : Kept W gs') (h2 : gs'.length ≤ 100) (h3 : ∀ G ∈ gs', GW W.fs G) : WF B { W with gs := gs' } :=
 ⟨h.p, h.ns, ⟨Nat.le_trans h.g1.1 k.1, h2⟩, h3,
  fun C hC => ⟨(h.cs C hC).1, (h.cs C hC).2.1, (h.cs C hC).2.2.1, fun w hw => ((h.cs C hC).2.2.2.1 w hw).kept k, fun w hw => ((h.cs C hC).2.2.2.2 w hw).kept k⟩,
  fun i L hL => ⟨(h.ls i L hL).1, fun g hg => ⟨((h.ls i L hL).2.1 g hg).1, by have h1 := k.1; have h2 := ((h.ls i L hL).2.1 g hg).2; show g < (gs'.length : Int); omega⟩, (h.ls i L hL).2.2.1, fun g hg => ((h.ls i L hL).2.2.2 g hg).kept ((h.ls i L hL).2.1 g (List.mem_of_mem_tail hg)) k⟩,
  ⟨h.hp.1, h.hp.2.1, fun x hx => (h.hp.2.2.1 x hx).kept k, h.hp.2.2.2⟩, h.nx, h.clock, h.out⟩
theorem mem_set {α : Type} {l : List α} {i : Nat} {x y : α} (h : y ∈ l.set i x) : y ∈ l ∨ y = x := List.mem_or_eq_of_mem_set h
theorem WF.setG {B : Nat} {W : Wd} (h : WF B W) {g : Nat} (hs : (W.g g).st ≠ 2 ∧ (W.g g).st ≠ 3) {G : Gt} (hG : GW W.fs G) : WF B (W.setG g G) := by
 refine h.gsm _ ⟨by simp, fun j hj hst => ?_⟩ (by simpa using h.g1.2) (fun G' hG' => ?_)
 ·have hne : g ≠ j := fun e => by subst e; rcases hst with h1 | h1 <;> simp_all
  rw [List.getD_eq_getElem?_getD, List.getElem?_set_ne hne, ← List.getD_eq_getElem?_getD]
  exact ⟨rfl, rfl, rfl⟩
 ·rcases mem_set hG' with h1 | h1
  ·exact h.gw _ h1
  ·rw [h1]; exact hG
theorem WF.setSame {B : Nat} {W : Wd} (h : WF B W) {g : Nat} {G : Gt} (hG : GW W.fs G) (e : G.st = (W.g g).st ∧ G.fn = (W.g g).fn ∧ G.pc = (W.g g).pc) : WF B (W.setG g G) := by
 refine h.gsm _ ⟨by simp, fun j hj hst => ?_⟩ (by simpa using h.g1.2) (fun G' hG' => ?_)
 ·by_cases hne : g = j
  ·subst hne
   rw [List.getD_eq_getElem?_getD, List.getElem?_set_self hj]
   exact e
  ·rw [List.getD_eq_getElem?_getD, List.getElem?_set_ne hne, ← List.getD_eq_getElem?_getD]
   exact ⟨rfl, rfl, rfl⟩
 ·rcases mem_set hG' with h1 | h1
  ·exact h.gw _ h1
  ·rw [h1]; exact hG
theorem getD_set_ne {l : List Int} {i j : Nat} {v : Int} (h : i ≠ j) : (l.set i v).getD j 0 = l.getD j 0 := by
 rw [List.getD_eq_getElem?_getD, List.getElem?_set_ne h, ← List.getD_eq_getElem?_getD]
theorem getD_set_eq {l : List Int} {i : Nat} {v : Int} (h : i < l.length) : (l.set i v).getD i 0 = v := by
 rw [List.getD_eq_getElem?_getD, List.getElem?_set_self h]; rfl
theorem GW.reg {fs : List (List In4)} {G : Gt} (h : GW fs G) (i k : Nat) (hk : k < 8) (v : Int) : GW fs { G with z := G.z.set (i * 11 + 2 + k) v } := by
 refine ⟨h.n, by simpa using h.len, fun j hj => ?_⟩
 show (0 ≤ (G.z.set (i * 11 + 2 + k) v).getD (j * 11) 0 ∧ _) ∧ _
 simp only
 rw [getD_set_ne (by omega), getD_set_ne (by omega), getD_set_ne (by omega)]
 exact h.fr j hj
theorem Gt.put_fn (G : Gt) (k v : Int) (hk : 0 ≤ k ∧ k < 8) : (G.put k v).fn = G.fn ∧ (G.put k v).pc = G.pc ∧ (G.put k v).st = G.st ∧ (G.put k v).n = G.n := by
 refine ⟨?_, ?_, rfl, rfl⟩
 ·show (G.z.set (G.o + 2 + k.toNat) v).getD G.o 0 = G.z.getD G.o 0
  rw [getD_set_ne (by omega)]
 ·show (G.z.set (G.o + 2 + k.toNat) v).getD (G.o + 1) 0 = G.z.getD (G.o + 1) 0
  rw [getD_set_ne (by omega)]
theorem GW.put {fs : List (List In4)} {G : Gt} (h : GW fs G) (k v : Int) (hk : 0 ≤ k ∧ k < 8) : GW fs (G.put k v) := h.reg (G.n - 1) k.toNat (by omega) v
theorem setG_out {W : Wd} {g : Nat} {G : Gt} (h : ¬ g < W.gs.length) : W.setG g G = W := by
 unfold Wd.setG; rw [List.set_eq_of_length_le (by omega)]
theorem WF.put {B : Nat} {W : Wd} (h : WF B W) (g : Nat) (k v : Int) (hk : 0 ≤ k ∧ k < 8) : WF B (W.put g k v) := by
 by_cases hg : g < W.gs.length
 ·have e := Gt.put_fn (W.g g) k v hk
  exact h.setSame ((h.at hg).put k v hk) ⟨e.2.2.1, e.1, e.2.1⟩
 ·unfold Wd.put; rw [setG_out hg]; exact h
theorem WF.chans {B : Nat} {W : Wd} (h : WF B W) (Cs' : List Ch) (hl : Cs'.length = W.Cs.length) (hc : ∀ C ∈ Cs', ChOk B W C) : WF B { W with Cs := Cs' } := by
 refine ⟨?_, ⟨by rw [hl]; exact h.ns.1, h.ns.2⟩, h.g1, h.gw, hc, h.ls, h.hp, h.nx, h.clock, h.out⟩
 show PW W.fs W.ks Cs'.length W.Ls.length
 rw [hl]; exact h.p
theorem WF.setCh {B : Nat} {W : Wd} (h : WF B W) (i : Int) {C : Ch} (hC : ChOk B W C) : WF B (W.setCh i C) :=
 h.chans _ (by simp) (fun D hD => by rcases mem_set hD with h1 | h1; exact h.cs _ h1; rw [h1]; exact hC)
theorem mem_dropW {g : Int} {l : List Wt} {w : Wt} (h : w ∈ dropW g l) : w ∈ l ∧ w.1 ≠ g := by
 unfold dropW at h
 rw [List.mem_filter] at h
 refine ⟨h.1, fun e => ?_⟩
 have := h.2
 rw [e] at this
 simp at this
theorem ChOk.leave {B : Nat} {W : Wd} {C : Ch} (h : ChOk B W C) (g : Int) : ChOk B W (leF g C) :=
 ⟨h.1, Nat.le_trans (dropW_len _ _) h.2.1, Nat.le_trans (dropW_len _ _) h.2.2.1, fun w hw => h.2.2.2.1 w (mem_dropW hw).1, fun w hw => h.2.2.2.2 w (mem_dropW hw).1⟩
theorem WF.leave {B : Nat} {W : Wd} (h : WF B W) (g : Int) : WF B (W.leave g) :=
 h.chans _ (by simp) (fun C hC => by obtain ⟨D, hD, rfl⟩ := List.mem_map.1 hC; exact (h.cs D hD).leave g)
theorem WF.goes {B : Nat} {W : Wd} (h : WF B W) (g : Nat) (G : Gt) (hG : GW W.fs G) (hc : ∀ C ∈ W.Cs, (∀ w ∈ C.S, w.1 ≠ (g : Int)) ∧ ∀ w ∈ C.R, w.1 ≠ (g : Int)) (hl : ∀ (i : Nat) (L : List Int), W.Ls[i]? = some L → (g : Int) ∉ L.tail) (hh : ∀ x ∈ W.hp, x.id ≠ (g : Int)) : WF B (W.setG g G) := by
 have key : ∀ j : Int, 0 ≤ j → j ≠ (g : Int) → (W.setG g G).g j.toNat = W.g j.toNat := fun j h0 hj => by
  show ((W.gs.set g G).getD j.toNat g0) = W.gs.getD j.toNat g0
  rw [List.getD_eq_getElem?_getD, List.getElem?_set_ne (by omega), ← List.getD_eq_getElem?_getD]
 have hlen : (W.setG g G).gs.length = W.gs.length := by show (W.gs.set g G).length = _; simp
 have hw : ∀ w, w.1 ≠ (g : Int) → WtOk W w → WtOk (W.setG g G) w := fun w hne hw => by
  obtain ⟨h1, h2, x, h3, h4⟩ := hw
  refine ⟨by rw [hlen]; exact h1, by rw [key _ h1.1 hne]; exact h2, x, ?_, h4⟩
  show W.insAt ((W.setG g G).g w.1.toNat).fn (((W.setG g G).g w.1.toNat).pc - 1) = some x
  rw [key _ h1.1 hne]; exact h3
 refine ⟨h.p, h.ns, by rw [hlen]; exact h.g1, fun G' hG' => ?_, fun C hC => ?_, fun i L hL => ?_, ?_, h.nx, h.clock, h.out⟩
 ·rcases mem_set hG' with h1 | h1
  ·exact h.gw _ h1
  ·rw [h1]; exact hG
 ·obtain ⟨a, b, c, d, e⟩ := h.cs C hC
  obtain ⟨f1, f2⟩ := hc C hC
  exact ⟨a, b, c, fun w hw' => hw w (f1 w hw') (d w hw'), fun w hw' => hw w (f2 w hw') (e w hw')⟩
 ·obtain ⟨a, b, c, d⟩ := h.ls i L hL
  refine ⟨a, fun g' hg' => by rw [hlen]; exact b g' hg', c, fun g' hg' => ?_⟩
  have hne : g' ≠ (g : Int) := fun e => hl i L hL (by rw [← e]; exact hg')
  have h0 := (b g' (List.mem_of_mem_tail hg')).1
  obtain ⟨h2, x, h3, h4⟩ := d g' hg'
  refine ⟨by rw [key _ h0 hne]; exact h2, x, ?_, h4⟩
  show W.insAt ((W.setG g G).g g'.toNat).fn (((W.setG g G).g g'.toNat).pc - 1) = some x
  rw [key _ h0 hne]; exact h3
 ·refine ⟨h.hp.1, h.hp.2.1, fun x hx => ?_, h.hp.2.2.2⟩
  obtain ⟨h1, h2, h3⟩ := h.hp.2.2.1 x hx
  exact ⟨by rw [hlen]; exact h1, by rw [key _ h1.1 (hh x hx)]; exact h2, h3⟩
theorem WF.insOk {B : Nat} {W : Wd} (h : WF B W) {fn pc : Int} {x : In4} (hx : W.insAt fn pc = some x) : InsOk W.fs.length W.Cs.length W.ks.length W.Ls.length (W.fs.getD fn.toNat []).length x ∧ 0 ≤ pc ∧ pc < ((W.fs.getD fn.toNat []).length : Int) := by
 unfold Wd.insAt at hx
 split at hx
 ·cases hx
 ·rename_i h0
  have hl := (List.getElem?_eq_some_iff.1 hx).1
  have hm := List.mem_of_getElem? hx
  have hf : W.fs.getD fn.toNat [] ∈ W.fs := by
   rw [List.getD_eq_getElem?_getD] at hm ⊢
   cases e : W.fs[fn.toNat]? with
   | none => rw [e] at hm; simp at hm
   | some l => exact List.mem_of_getElem? e
  obtain ⟨h1, h2⟩ := h.p.ins _ hf x hm
  exact ⟨insOk_of h1 h2, by omega, by omega⟩
theorem InsOk.casX {W : Wd} {n : Nat} {x : In4} (h : InsOk W.fs.length W.Cs.length W.ks.length W.Ls.length n x) (hx : x.1 = 13 ∨ x.1 = 14 ∨ x.1 = 16) : CasX W x := by
 rcases hx with e | e | e
 ·exact .inl e
 ·exact .inr (.inl e)
 ·exact .inr (.inr ⟨e, (h.o16 e).1⟩)
theorem InsOk.casOk {W : Wd} {n : Nat} {x : In4} (h : InsOk W.fs.length W.Cs.length W.ks.length W.Ls.length n x) (hx : x.1 = 13 ∨ x.1 = 14 ∨ x.1 = 16) (hk : CasOK W.Cs.length W.ks) : CasOK W.Cs.length (W.cas x) := by
 unfold Wd.cas
 rcases hx with e | e | e
 ·rw [if_pos e]
  obtain ⟨a, b⟩ := h.o13 e
  intro k hk; simp only [List.mem_cons, List.not_mem_nil, or_false] at hk; subst hk
  exact ⟨.inr (.inl rfl), a.1, fun _ => a.2, b.1, b.2⟩
 ·rw [if_neg (by omega), if_pos e]
  obtain ⟨a, b, -⟩ := h.o14 e
  intro k hk; simp only [List.mem_cons, List.not_mem_nil, or_false] at hk; subst hk
  exact ⟨.inl rfl, a.1, fun _ => a.2, b.1, b.2⟩
 ·rw [if_neg (by omega), if_neg (by omega)]
  exact fun k hk' => hk k (List.mem_of_mem_drop (List.mem_of_mem_take hk'))
theorem InsOk.casLen {W : Wd} {n : Nat} {x : In4} (h : InsOk W.fs.length W.Cs.length W.ks.length W.Ls.length n x) (hx : x.1 = 13 ∨ x.1 = 14 ∨ x.1 = 16) : 1 ≤ (W.cas x).length ∧ (W.cas x).length ≤ W.ks.length + 1 := by
 unfold Wd.cas
 rcases hx with e | e | e
 ·rw [if_pos e]; simp
 ·rw [if_neg (by omega), if_pos e]; simp
 ·rw [if_neg (by omega), if_neg (by omega), List.length_take, List.length_drop]
  have := (h.o16 e).1
  omega
def WtIf (W : Wd) (w : Wt) : Prop := (0 ≤ w.1 ∧ w.1 < (W.gs.length : Int)) ∧ ((W.g w.1.toNat).st = 2 → ∃ x, W.insAt (W.g w.1.toNat).fn ((W.g w.1.toNat).pc - 1) = some x ∧ (x.1 = 13 ∨ x.1 = 14 ∨ x.1 = 16) ∧ 0 ≤ w.2.1 ∧ w.2.1 < ((W.cas x).length : Int))
theorem WtOk.toIf {W : Wd} {w : Wt} (h : WtOk W w) : WtIf W w := ⟨h.1, fun _ => h.2.2⟩
theorem WF.lim {B : Nat} {W : Wd} (h : WF B W) (hB : B ≤ 90000) : Lim 100000 W.Cs := fun C hC => ⟨by have := (h.cs C hC).1; omega, by have := (h.cs C hC).2.1; omega, by have := (h.cs C hC).2.2.1; omega⟩
theorem WF.finOk {B : Nat} {W : Wd} (h : WF B W) {n : Nat} {x : In4} (hx : InsOk W.fs.length W.Cs.length W.ks.length W.Ls.length n x) (ho : x.1 = 13 ∨ x.1 = 14 ∨ x.1 = 16) (w : Wt) (hg : 0 ≤ w.1 ∧ w.1 < (W.gs.length : Int)) (hj : 0 ≤ w.2.1 ∧ w.2.1 < ((W.cas x).length : Int)) : FinOk W x w := by
 have hG := h.at (j := w.1.toNat) (by omega)
 refine ⟨hx.casX ho, by have := h.p.kl; omega, hg, by have := h.g1.2; omega, hG.n, hj, fun c hc e => ?_, fun e => ?_⟩
 ·have := hx.casOk ho h.p.ck c hc
  exact ⟨this.2.2.2.1, this.2.2.2.2⟩
 ·rcases e with e | e
  ·exact (hx.o14 e).2.2
  ·exact (hx.o16 e).2
theorem WF.goOk {B : Nat} {W : Wd} (h : WF B W) (hB : B ≤ 90000) {w : Wt} (hw : WtIf W w) : GoOk W w := by
 refine ⟨hw.1, by have := h.g1.2; omega, fun hs => ?_, h.lim hB, by have := h.p.nc; omega⟩
 obtain ⟨x, h1, h2, h3⟩ := hw.2 hs
 obtain ⟨h4, h5, h6⟩ := h.insOk h1
 have hG := h.at (j := w.1.toNat) (by have := hw.1; omega)
 have hf := hG.fr ((W.g w.1.toNat).n - 1) (by have := hG.n; omega)
 refine ⟨x, h1, h.finOk h4 h2 w hw.1 h3, hf.1.1, ?_⟩
 have h7 := hf.2.1.2
 have hm : (W.fs.getD (W.g w.1.toNat).fn.toNat []).length ≤ 900 := by
  rw [List.getD_eq_getElem?_getD]
  cases e : W.fs[(W.g w.1.toNat).fn.toNat]? with
  | none => simp
  | some l => exact h.p.fl l (List.mem_of_getElem? e)
 have h8 : (W.g w.1.toNat).pc ≤ ((W.fs.getD (W.g w.1.toNat).fn.toNat []).length : Int) := h7
 omega
theorem WF.fin {B : Nat} {W : Wd} (h : WF B W) {x : In4} {w : Wt} (ok : FinOk W x w) (s : Bool) : WF B (W.fin x w s) := by
 unfold Wd.fin
 have hc := ok.c ((W.cas x).getD w.2.1.toNat (1, 0, 0)) (by
  have hj := ok.j
  rw [List.getD_eq_getElem?_getD, List.getElem?_eq_getElem (by omega)]
  exact List.getElem_mem _)
 have h1 : WF B (if ((W.cas x).getD w.2.1.toNat (1, 0, 0)).1 = 0 then W.put w.1.toNat ((W.cas x).getD w.2.1.toNat (1, 0, 0)).2.2 w.2.2 else W) := by
  split
  ·rename_i e; exact h.put _ _ _ (hc e)
  ·exact h
 simp only
 split
 ·rename_i e; exact h1.put _ _ _ (ok.r (.inr e))
 ·split
  ·rename_i e; exact h1.put _ _ _ (ok.r (.inl e))
  ·exact h1
theorem put_st (W : Wd) (g j : Nat) (k v : Int) (hk : 0 ≤ k ∧ k < 8) : ((W.put g k v).g j).st = (W.g j).st ∧ ((W.put g k v).g j).fn = (W.g j).fn ∧ ((W.put g k v).g j).pc = (W.g j).pc ∧ ((W.put g k v).g j).n = (W.g j).n := by
 by_cases hg : g < W.gs.length
 ·unfold Wd.put
  rw [Wd.g_setG _ _ _ _ hg]
  split
  ·rename_i e; subst e
   have e := Gt.put_fn (W.g g) k v hk
   exact ⟨e.2.2.1, e.1, e.2.1, e.2.2.2⟩
  ·exact ⟨rfl, rfl, rfl, rfl⟩
 ·unfold Wd.put; rw [setG_out hg]; exact ⟨rfl, rfl, rfl, rfl⟩
theorem fin_st {W : Wd} {x : In4} {w : Wt} (ok : FinOk W x w) (s : Bool) (j : Nat) : ((W.fin x w s).g j).st = (W.g j).st ∧ ((W.fin x w s).g j).fn = (W.g j).fn ∧ ((W.fin x w s).g j).pc = (W.g j).pc ∧ ((W.fin x w s).g j).n = (W.g j).n := by
 unfold Wd.fin
 have hc := ok.c ((W.cas x).getD w.2.1.toNat (1, 0, 0)) (by
  have hj := ok.j
  rw [List.getD_eq_getElem?_getD, List.getElem?_eq_getElem (by omega)]
  exact List.getElem_mem _)
 have tr : ∀ {A C D : Gt}, (A.st = C.st ∧ A.fn = C.fn ∧ A.pc = C.pc ∧ A.n = C.n) → (C.st = D.st ∧ C.fn = D.fn ∧ C.pc = D.pc ∧ C.n = D.n) → (A.st = D.st ∧ A.fn = D.fn ∧ A.pc = D.pc ∧ A.n = D.n) := fun ⟨a, b, c, d⟩ ⟨e, f, g, h⟩ => ⟨a.trans e, b.trans f, c.trans g, d.trans h⟩
 have h1 : ∀ j, ((if ((W.cas x).getD w.2.1.toNat (1, 0, 0)).1 = 0 then W.put w.1.toNat ((W.cas x).getD w.2.1.toNat (1, 0, 0)).2.2 w.2.2 else W).g j).st = (W.g j).st ∧ ((if ((W.cas x).getD w.2.1.toNat (1, 0, 0)).1 = 0 then W.put w.1.toNat ((W.cas x).getD w.2.1.toNat (1, 0, 0)).2.2 w.2.2 else W).g j).fn = (W.g j).fn ∧ ((if ((W.cas x).getD w.2.1.toNat (1, 0, 0)).1 = 0 then W.put w.1.toNat ((W.cas x).getD w.2.1.toNat (1, 0, 0)).2.2 w.2.2 else W).g j).pc = (W.g j).pc ∧ ((if ((W.cas x).getD w.2.1.toNat (1, 0, 0)).1 = 0 then W.put w.1.toNat ((W.cas x).getD w.2.1.toNat (1, 0, 0)).2.2 w.2.2 else W).g j).n = (W.g j).n := fun j => by
  split
  ·rename_i e; exact put_st _ _ _ _ _ (hc e)
  ·exact ⟨rfl, rfl, rfl, rfl⟩
 simp only
 split
 ·rename_i e; exact tr (put_st _ _ _ _ _ (ok.r (.inr e))) (h1 j)
 ·split
  ·rename_i e; exact tr (put_st _ _ _ _ _ (ok.r (.inl e))) (h1 j)
  ·exact h1 j
theorem fin_same (W : Wd) (x : In4) (w : Wt) (s : Bool) : (W.fin x w s).fs = W.fs ∧ (W.fin x w s).ks = W.ks ∧ (W.fin x w s).Cs = W.Cs ∧ (W.fin x w s).Ls = W.Ls ∧ (W.fin x w s).hp = W.hp ∧ (W.fin x w s).gs.length = W.gs.length ∧ (W.fin x w s).Ns = W.Ns := by
 unfold Wd.fin Wd.put Wd.setG
 simp only
 split <;> split <;> (try split) <;> simp
theorem WF.goOn {B : Nat} {W : Wd} (h : WF B W) (hB : B ≤ 90000) (rd : List Int) {w : Wt} (hw : WtIf W w) (s : Bool) :
  WF B (goOnM W rd w s).1 ∧ (goOnM W rd w s).1.gs.length = W.gs.length ∧ (goOnM W rd w s).1.fs = W.fs ∧ (goOnM W rd w s).1.ks = W.ks ∧ (goOnM W rd w s).1.Cs.length = W.Cs.length ∧ (goOnM W rd w s).1.Ls.length = W.Ls.length ∧
  (∀ j : Nat, (j : Int) ≠ w.1 → ((goOnM W rd w s).1.g j).st = (W.g j).st ∧ ((goOnM W rd w s).1.g j).fn = (W.g j).fn ∧ ((goOnM W rd w s).1.g j).pc = (W.g j).pc) ∧ (((goOnM W rd w s).1.g w.1.toNat).st ≠ 2) := by
 unfold goOnM
 simp only
 by_cases hs : (W.g w.1.toNat).st = 2
 ·rw [if_pos hs]
  have gk := h.goOk hB hw
  obtain ⟨x, h1, h2, h3⟩ := hw.2 hs
  rw [h1]
  simp only
  obtain ⟨x', h1', ok, -⟩ := gk.ins hs
  rw [h1] at h1'; cases h1'
  have hf := h.fin ok s
  obtain ⟨e1, e2, e3, e4, e5, e6, e7⟩ := fin_same W x w s
  have hst := fin_st ok s
  have hl := hf.leave w.1
  have hg : w.1.toNat < W.gs.length := by have := hw.1; omega
  have hwn : ((w.1.toNat : Nat) : Int) = w.1 := by have := hw.1; omega
  generalize hX : (W.fin x w s).leave w.1 = X at *
  have eX : X.gs = (W.fin x w s).gs ∧ X.fs = W.fs ∧ X.ks = W.ks ∧ X.Ls = W.Ls ∧ X.hp = W.hp ∧ X.Cs = W.Cs.map (leF w.1) := by rw [← hX]; exact ⟨rfl, e1, e2, e4, e5, by show List.map _ _ = _; rw [e3]⟩
  have hXg : ∀ j, X.g j = (W.fin x w s).g j := fun j => by unfold Wd.g; rw [eX.1]
  have hXl : X.gs.length = W.gs.length := by rw [eX.1, e6]
  have hgX := hl.at (j := w.1.toNat) (by rw [hXl]; exact hg)
  refine ⟨?_, by unfold Wd.setSt Wd.setG; simp [hXl], eX.2.1, eX.2.2.1, by show X.Cs.length = _; rw [eX.2.2.2.2.2]; simp, by show X.Ls.length = _; rw [eX.2.2.2.1], fun j hj => ?_, ?_⟩
  ·refine hl.goes w.1.toNat _ ⟨hgX.n, hgX.len, hgX.fr⟩ (fun C hC => ?_) (fun i L hL hm => ?_) (fun y hy e => ?_)
   ·rw [eX.2.2.2.2.2] at hC
    obtain ⟨D, -, rfl⟩ := List.mem_map.1 hC
    rw [hwn]
    exact ⟨fun w' hw' => (mem_dropW hw').2, fun w' hw' => (mem_dropW hw').2⟩
   ·rw [hwn] at hm
    rw [eX.2.2.2.1] at hL
    obtain ⟨-, y, hy, hy18, -⟩ := (h.ls i L hL).2.2.2 _ hm
    rw [h1] at hy; cases hy
    omega
   ·rw [eX.2.2.2.2.1] at hy
    rw [hwn] at e
    obtain ⟨-, h3', -⟩ := h.hp.2.2.1 y hy
    rw [e, hs] at h3'
    omega
  ·unfold Wd.setSt
   rw [Wd.g_setG _ _ _ _ (by rw [hXl]; exact hg), if_neg (by omega), hXg]
   exact ⟨(hst j).1, (hst j).2.1, (hst j).2.2.1⟩
  ·unfold Wd.setSt
   rw [Wd.g_setG _ _ _ _ (by rw [hXl]; exact hg), if_pos rfl]
   simp
 ·rw [if_neg hs]
  exact ⟨h, rfl, rfl, rfl, rfl, rfl, fun _ _ => ⟨rfl, rfl, rfl⟩, hs⟩
end Go.Proofs.YtodjgipiomnnfaaGreat
