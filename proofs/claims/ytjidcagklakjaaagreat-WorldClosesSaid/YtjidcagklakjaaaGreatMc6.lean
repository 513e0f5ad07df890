/-
  Texts put together: WdWF3, WdWF4, WdGets, WdCln, WdNew, WdWld, ClM, WdAwk, W16Closes.
-/
import Derived.Test.YtjidcagklakjaaaGreatMc5
import Derived.Test.YtjidcagklakjaaaGreatMc3
import Derived.Test.YtjidcagklakjaaaGreatMc4
import Derived.Test.YtjidcagklakjaaaGreatMc1
import Derived.Test.YtjidcagklakjaaaGreatMc2
import Derived.OpenShut
/-
  Worlds that programs come to: Exec, Tick, New.
-/
open Go Go.RowKit
set_option linter.unusedVariables false
namespace Go.Proofs.YtjidcagklakjaaaGreat
theorem WF.locks {B : Nat} {W : Wd} (h : WF B W) (Ls' : List (List Int)) (hl : Ls'.length = W.Ls.length) (hc : ∀ (i : Nat) (L : List Int), Ls'[i]? = some L → LsOk B W i L) : WF B { W with Ls := Ls' } := by
  refine ⟨?_, h.ns, h.g1, h.gw, h.cs, hc, h.hp, h.nx, h.clock, h.out⟩
  show PW W.fs W.ks W.Cs.length Ls'.length
  rw [hl]; exact h.p
theorem LsOk.mono {B C : Nat} {W : Wd} {i : Nat} {L : List Int} (h : LsOk B W i L) (hb : B ≤ C) : LsOk C W i L := ⟨Nat.le_trans h.1 hb, h.2⟩
theorem setSt_at {W : Wd} {g : Nat} (hg : g < W.gs.length) (s : Int) (j : Nat) : (W.setSt g s).g j = if g = j then { W.g g with st := s } else W.g j := by unfold Wd.setSt; exact Wd.g_setG _ _ _ _ hg
theorem setSt_len (W : Wd) (g : Nat) (s : Int) : (W.setSt g s).gs.length = W.gs.length := by unfold Wd.setSt Wd.setG; simp
theorem lk_get {W : Wd} {i : Int} (h : 0 ≤ i ∧ i < (W.Ls.length : Int)) : W.Ls[i.toNat]? = some (W.lk i) := by
  have e : i = ((i.toNat : Nat) : Int) := by omega
  have := Wd.lk_at (W := W) (i := i.toNat) (by omega)
  rw [← e] at this; exact this
theorem WF.lock {B : Nat} {W : Wd} (h : WF B W) (rd : List Int) {g : Nat} {n : Nat} {x : In4} (ha : At W g x) (hx : InsW W n x) (ho : x.1 = 18) : DdOk (B + 1) W (lockM W rd g x) := by
  have hi := hx.o18 (.inl ho)
  have hL := h.ls _ _ (lk_get hi)
  have hset : ∀ (V : Wd), V.Ls = W.Ls → ∀ (i : Nat) (L : List Int), (W.Ls.set x.2.1.toNat (W.lk x.2.1 ++ [(g : Int)]))[i]? = some L → (i = x.2.1.toNat ∧ L = W.lk x.2.1 ++ [(g : Int)]) ∨ W.Ls[i]? = some L := fun V _ i L hh => by
    by_cases e : i = x.2.1.toNat
    · subst e
      rw [List.getElem?_set_self (by omega)] at hh
      exact .inl ⟨rfl, by simpa using hh.symm⟩
    · rw [List.getElem?_set_ne (by omega)] at hh; exact .inr hh
  unfold lockM
  simp only
  by_cases e0 : W.lk x.2.1 = []
  · rw [if_pos e0]
    refine ⟨(h.mono (C := B + 1) (by omega)).locks _ (by simp) (fun i L hh => ?_), ⟨rfl, rfl, rfl, rfl, by simp, Nat.le_refl _⟩⟩
    rcases hset W rfl i L hh with ⟨rfl, rfl⟩ | hh
    · rw [e0]
      refine ⟨by simp, fun j hj => ?_, by simp, fun j hj => by simp at hj⟩
      simp at hj; subst hj; exact ⟨by omega, by have := ha.lt; omega⟩
    · exact (h.ls i L hh).mono (by omega)
  · rw [if_neg e0]
    have h1 := h.setSt ha.lt ha.st 2
    have hne : ∀ j : Int, (W.g j.toNat).st = 2 → j.toNat ≠ g := fun j hj e => by rw [e, ha.st] at hj; omega
    have hk : ∀ (i : Nat) (j : Int), LkOk W i j → LkOk (W.setSt g 2) i j := fun i j ⟨a, y, b, c⟩ => by
      have e := setSt_at ha.lt 2 j.toNat
      rw [if_neg (fun e => hne j a e.symm)] at e
      refine ⟨by rw [e]; exact a, y, ?_, c⟩
      show W.insAt ((W.setSt g 2).g j.toNat).fn (((W.setSt g 2).g j.toNat).pc - 1) = some y
      rw [e]; exact b
    refine ⟨(h1.mono (C := B + 1) (by omega)).locks _ (by simp [Wd.setSt, Wd.setG]) (fun i L hh => ?_), ⟨rfl, rfl, rfl, rfl, by show (List.set _ _ _).length = _; simp, by show W.gs.length ≤ (List.set _ _ _).length; simp⟩⟩
    rcases hset W rfl i L hh with ⟨rfl, rfl⟩ | hh
    · obtain ⟨a, b, c, d⟩ := hL
      have et : (W.lk x.2.1 ++ [(g : Int)]).tail = (W.lk x.2.1).tail ++ [(g : Int)] := by
        cases e : W.lk x.2.1 with
        | nil => exact absurd e e0
        | cons a t => rfl
      refine ⟨by simp; omega, fun j hj => ?_, ?_, fun j hj => ?_⟩
      · rw [setSt_len]
        simp only [List.mem_append, List.mem_cons, List.not_mem_nil, or_false] at hj
        rcases hj with hj | rfl
        · exact b j hj
        · exact ⟨by omega, by have := ha.lt; omega⟩
      · rw [et, List.nodup_append]
        refine ⟨c, by simp, fun j hj k hk' => ?_⟩
        simp at hk'; subst hk'
        intro e
        have := (d j hj).1
        rw [e] at this
        simp only [Int.toNat_natCast] at this
        rw [ha.st] at this; omega
      · rw [et] at hj
        simp only [List.mem_append, List.mem_cons, List.not_mem_nil, or_false] at hj
        rcases hj with hj | rfl
        · exact hk _ _ (d j hj)
        · have e := setSt_at ha.lt 2 g
          rw [if_pos rfl] at e
          refine ⟨by simp only [Int.toNat_natCast]; rw [e], x, ?_, ho, by omega⟩
          simp only [Int.toNat_natCast]
          rw [e]; exact ha.ins
    · obtain ⟨a, b, c, d⟩ := h.ls i L hh
      exact ⟨by omega, by rw [setSt_len]; exact b, c, fun j hj => hk _ _ (d j hj)⟩
theorem WF.unlock {B : Nat} {W : Wd} (h : WF B W) (rd : List Int) {g : Nat} {n : Nat} {x : In4} (hx : InsW W n x) (ho : x.1 = 19) : DdOk B W (unlockM W rd g x) := by
  have hi := hx.o18 (.inr ho)
  obtain ⟨a, b, c, d⟩ := h.ls _ _ (lk_get hi)
  have hget := lk_get hi
  unfold unlockM
  simp only
  generalize W.lk x.2.1 = L at *
  cases L with
  | nil => simp only [gaveR]; rw [if_neg (by decide)]; exact ⟨h, Fol.refl _⟩
  | cons y t =>
    by_cases e : y = (g : Int)
    · simp only [gaveR, gaveL, if_pos e]
      have hset : ∀ (i : Nat) (L : List Int), (W.Ls.set x.2.1.toNat t)[i]? = some L → (i = x.2.1.toNat ∧ L = t) ∨ (i ≠ x.2.1.toNat ∧ W.Ls[i]? = some L) := fun i L hh => by
        by_cases e : i = x.2.1.toNat
        · subst e
          rw [List.getElem?_set_self (by omega)] at hh
          exact .inl ⟨rfl, by simpa using hh.symm⟩
        · rw [List.getElem?_set_ne (by omega)] at hh; exact .inr ⟨e, hh⟩
      have h1 : WF B { W with Ls := W.Ls.set x.2.1.toNat t } := h.locks _ (by simp) (fun i L hh => by
        rcases hset i L hh with ⟨rfl, rfl⟩ | ⟨-, hh⟩
        · refine ⟨by simp at a; omega, fun j hj => b j (by simp [hj]), ?_, fun j hj => d j (List.mem_of_mem_tail hj)⟩
          exact (show L.Nodup from by simpa using c).sublist (List.tail_sublist L)
        · exact h.ls i L hh)
      have hf : Fol W { W with Ls := W.Ls.set x.2.1.toNat t } := ⟨rfl, rfl, rfl, rfl, by simp, Nat.le_refl _⟩
      rw [if_pos trivial]
      split
      · exact ⟨h1, hf⟩
      · rename_i e1
        cases t with
        | nil => exact absurd rfl e1
        | cons z s =>
          simp only [List.headD_cons] at e1 ⊢
          obtain ⟨z0, z1⟩ := b z (by simp)
          obtain ⟨d1, y', d2, d3, d4⟩ := d z (by simp)
          have hzn : ((z.toNat : Nat) : Int) = z := by omega
          have hgz := h.at (j := z.toNat) (by omega)
          refine ⟨h1.goes z.toNat _ ⟨hgz.n, hgz.len, hgz.fr⟩ (fun C hC => ?_) (fun i L hh hm => ?_) (fun it hit e2 => ?_), hf.trans (fol_setG _ _ _)⟩
          · rw [hzn]
            obtain ⟨-, -, -, k1, k2⟩ := h.cs C hC
            refine ⟨fun w hw e2 => ?_, fun w hw e2 => ?_⟩
            · obtain ⟨-, -, x2, k3, k4, -⟩ := k1 w hw
              rw [e2, d2] at k3; cases k3; omega
            · obtain ⟨-, -, x2, k3, k4, -⟩ := k2 w hw
              rw [e2, d2] at k3; cases k3; omega
          · rw [hzn] at hm
            rcases hset i L hh with ⟨rfl, rfl⟩ | ⟨e3, hh⟩
            · simp only [List.tail_cons] at hm c
              exact (List.nodup_cons.1 c).1 hm
            · obtain ⟨-, x2, k3, -, k4⟩ := (h.ls i L hh).2.2.2 _ hm
              rw [d2] at k3; cases k3; omega
          · rw [hzn] at e2
            obtain ⟨-, k, -⟩ := h.hp.2.2.1 it hit
            rw [e2, d1] at k; omega
    · simp only [gaveR, if_neg e]
      rw [if_neg (by decide)]; exact ⟨h, Fol.refl _⟩
theorem WF.sleep {B : Nat} {W : Wd} (h : WF B W) (hB : B ≤ 80000) (rd : List Int) {g : Nat} {x : In4} (ha : At W g x) : DdOk (B + 1) W (sleepM W rd g x) := by
  unfold sleepM
  simp only
  obtain ⟨r, hr⟩ : ∃ r, r = if 1048576 < (W.g g).rg x.2.1 then 1048576 else (W.g g).rg x.2.1 := ⟨_, rfl⟩
  rw [← hr]
  have hr2 : r ≤ 1048576 := by rw [hr]; split <;> omega
  clear hr
  by_cases h0 : r ≤ 0
  · rw [if_pos h0]; exact ⟨h.mono (by omega), Fol.refl _⟩
  · rw [if_neg h0]
    have h1 := h.setSt ha.lt ha.st 3
    have hno : ∀ y ∈ W.hp, y.id ≠ (g : Int) := fun y hy e => by
      obtain ⟨-, k, -⟩ := h.hp.2.2.1 y hy
      rw [e] at k; simp only [Int.toNat_natCast] at k; rw [ha.st] at k; omega
    have hperm := push_perm W.hp ⟨(W.clock : Int) + r, (W.nx : Int), (g : Int)⟩
    refine ⟨?_, ⟨rfl, rfl, rfl, rfl, rfl, by show W.gs.length ≤ _; rw [show (W.setSt g 3).gs.length = W.gs.length from setSt_len W g 3]; exact Nat.le_refl _⟩⟩
    refine ⟨h1.p, h1.ns, h1.g1, h1.gw, fun C hC => (h1.cs C hC).mono (by omega), fun i L hL => (h1.ls i L hL).mono (by omega), ⟨?_, ?_, fun y hy => ?_, push_heap h.hp.2.2.2⟩, by show W.nx + 1 ≤ B + 1; have := h.nx; omega, Nat.le_trans h.clock (by omega), h.out⟩
    · show (pushF W.hp _).length ≤ _; rw [pushF_len]; have := h.hp.1; omega
    · show ((pushF W.hp _).map (·.id)).Nodup
      rw [(hperm.map (·.id)).nodup_iff, List.map_cons, List.nodup_cons]
      refine ⟨fun hm => ?_, h.hp.2.1⟩
      obtain ⟨y, hy, e⟩ := List.mem_map.1 hm
      exact hno y hy e
    · have hy' := hperm.mem_iff.1 hy
      simp only [List.mem_cons] at hy'
      rcases hy' with rfl | hy'
      · refine ⟨⟨by simp, by rw [show ({ W.setSt g 3 with hp := _, nx := _ } : Wd).gs.length = W.gs.length from setSt_len W g 3]; have := ha.lt; simp; omega⟩, ?_, ⟨by simp only; omega, by simp only; have := h.clock; omega⟩, by simp, by show (W.nx : Int) < ((W.nx + 1 : Nat) : Int); omega⟩
        have e := setSt_at ha.lt 3 g
        rw [if_pos rfl] at e
        show ((W.setSt g 3).g (Int.toNat (g : Int))).st = 3
        rw [Int.toNat_natCast, e]
      · obtain ⟨a, b, c, d⟩ := h1.hp.2.2.1 y hy'
        exact ⟨a, b, c, d.1, by have := d.2; show y.seq < ((W.nx + 1 : Nat) : Int); have e : (W.setSt g 3).nx = W.nx := rfl; rw [e] at this; omega⟩
theorem WF.outs {B : Nat} {W : Wd} (h : WF B W) (o : List Int) (ho : o.length ≤ 1000) : WF B { W with out := o } := ⟨h.p, h.ns, h.g1, h.gw, h.cs, h.ls, h.hp, h.nx, h.clock, ho⟩
theorem WF.ends {B : Nat} {W : Wd} (h : WF B W) (e y : Int) : WF B { W with en := e, why := y } := ⟨h.p, h.ns, h.g1, h.gw, h.cs, h.ls, h.hp, h.nx, h.clock, h.out⟩
theorem WF.end_ {B : Nat} {d : Dd} (h : WF B d.W) : WF B d.end_ := by
  unfold Dd.end_; split
  · exact h
  · exact h.ends _ _
theorem fol_end {W : Wd} {d : Dd} (h : Fol W d.W) : Fol W d.end_ := by
  unfold Dd.end_; split
  · exact h
  · exact ⟨h.fs, h.ks, h.Ns, h.cl, h.ll, h.gl⟩
theorem WF.call {B : Nat} {W : Wd} (h : WF B W) (rd : List Int) {g : Nat} {n : Nat} {x : In4} (ha : At W g x) (hx : InsW W n x) (ho : x.1 = 9) : DdOk B W (callM W rd g x) := by
  obtain ⟨a, b, c⟩ := hx.o9 (.inl ho)
  unfold callM
  simp only
  split
  · exact ⟨h, Fol.refl _⟩
  · exact ⟨h.setG (by rw [ha.st]; decide) ((h.at ha.lt).call (by omega) a c), fol_setG _ _ _⟩
theorem WF.ret {B : Nat} {W : Wd} (h : WF B W) (rd : List Int) {g : Nat} {x : In4} (ha : At W g x) : DdOk B W (retM W rd g x) := by
  unfold retM
  simp only
  split
  · have h1 := h.setSt ha.lt ha.st 4
    exact ⟨⟨h1.p, h1.ns, h1.g1, h1.gw, h1.cs, h1.ls, h1.hp, h1.nx, h1.clock, h1.out⟩, ⟨rfl, rfl, rfl, rfl, rfl, by show W.gs.length ≤ _; rw [show ({ W.setSt g 4 with en := _ } : Wd).gs.length = W.gs.length from setSt_len W g 4]; exact Nat.le_refl _⟩⟩
  · exact ⟨h.setG (by rw [ha.st]; decide) ((h.at ha.lt).ret (by omega) _), fol_setG _ _ _⟩
theorem WF.spawn {B : Nat} {W : Wd} (h : WF B W) (rd : List Int) {g : Nat} {n : Nat} {x : In4} (ha : At W g x) (hx : InsW W n x) (ho : x.1 = 11) : DdOk B W (spawnM W rd g x) := by
  obtain ⟨a, b, c⟩ := hx.o9 (.inr ho)
  unfold spawnM
  split
  · exact ⟨h, Fol.refl _⟩
  · have h1 : WF B { W with gs := W.gs ++ [⟨1, 1, newF x.2.1 ((W.g g).rg x.2.2.1) 0⟩] } := h.gsm _ ⟨by simp, fun j hj _ => by
      rw [List.getD_eq_getElem?_getD, List.getElem?_append_left hj, ← List.getD_eq_getElem?_getD]; exact ⟨rfl, rfl, rfl⟩⟩ (by simp; omega) (fun G hG => by
      simp only [List.mem_append, List.mem_cons, List.not_mem_nil, or_false] at hG
      rcases hG with hG | rfl
      · exact h.gw G hG
      · exact GW.new 1 a (by omega))
    refine ⟨h1.put g x.2.2.2 _ c, ?_⟩
    have := fol_put ({ W with gs := W.gs ++ [⟨1, 1, newF x.2.1 ((W.g g).rg x.2.2.1) 0⟩] } : Wd) g x.2.2.2 (W.gs.length : Int)
    exact ⟨this.fs, this.ks, this.Ns, this.cl, this.ll, Nat.le_trans (by simp) this.gl⟩
theorem WF.emit {B : Nat} {W : Wd} (h : WF B W) (rd : List Int) (g : Nat) (x : In4) : DdOk B W (emitM W rd g x) := by
  unfold emitM
  split
  · exact ⟨h, Fol.refl _⟩
  · exact ⟨h.outs _ (by simp; omega), ⟨rfl, rfl, rfl, rfl, rfl, Nat.le_refl _⟩⟩
theorem DdOk.more {B C : Nat} {W : Wd} {d : Dd} (h : DdOk B W d) (hb : B ≤ C) : DdOk C W d := ⟨h.1.mono hb, h.2⟩
/-- Whatever the op. -/
theorem WF.deed {B : Nat} {W : Wd} (h : WF B W) (hB : B ≤ 80000) {g : Nat} {n : Nat} {x : In4} (ha : At W g x) (hx : InsW W n x) (h9 : 9 ≤ x.1) {dr : Int} {go : Bool} (hd : x.1 = 16 → go = true → (0 ≤ dr ∧ dr < ((W.cas x).length : Int)) ∧ ((W.cas x).getD dr.toNat (1, 0, 0)).1 ≠ 2) :
    (x.1 ≠ 17 → DeedOk W g x dr go) ∧ DdOk (B + W.ks.length + 1) W (deedM W g x dr go) := by
  have hG := h.at ha.lt
  have hfr := (hG.fr ((W.g g).n - 1) (by have := hG.n; omega)).2.2
  refine ⟨fun h17 => ⟨⟨h9, hx.op.2, h17⟩, fun e => (hx.o9 (.inl e)).2.1, fun e => ⟨hx.o10 (.inl e), fun _ => hfr⟩, fun e => ⟨(hx.o9 (.inr e)).2.1, (hx.o9 (.inr e)).2.2, h.g1.2⟩, fun e => (h.chan hB [] ha hx e).1, fun e => (h.close (by omega) hx e []).1, fun e => (h.choose hB ha hx e (hd e)).1,
    fun e => ⟨hx.o18 (.inl e), fun L hL => ?_, h.p.nl⟩, fun e => ⟨hx.o18 (.inr e), fun L hL => ?_, h.p.nl, by have := h.g1.2; omega⟩, fun e => ⟨hx.o10 (.inr (.inr e)), h.out⟩, fun e => (hx.o21 e).1⟩, ?_⟩
  · obtain ⟨i, hi⟩ := List.mem_iff_getElem?.1 hL
    have := (h.ls i L hi).1; omega
  · obtain ⟨i, hi⟩ := List.mem_iff_getElem?.1 hL
    exact (h.ls i L hi).2.1
  · have hop : x.1 = 9 ∨ x.1 = 10 ∨ x.1 = 11 ∨ x.1 = 12 ∨ x.1 = 13 ∨ x.1 = 14 ∨ x.1 = 15 ∨ x.1 = 16 ∨ x.1 = 17 ∨ x.1 = 18 ∨ x.1 = 19 ∨ x.1 = 20 ∨ x.1 = 21 ∨ x.1 = 22 := by have := hx.op; omega
    rcases hop with e | e | e | e | e | e | e | e | e | e | e | e | e | e
    · rw [show deedM W g x dr go = callM W [] g x by unfold deedM; rw [e]; rfl]; exact (h.call [] ha hx e).more (by omega)
    · rw [show deedM W g x dr go = retM W [] g x by unfold deedM; rw [e]; rfl]; exact (h.ret [] ha).more (by omega)
    · rw [show deedM W g x dr go = spawnM W [] g x by unfold deedM; rw [e]; rfl]; exact (h.spawn [] ha hx e).more (by omega)
    · rw [show deedM W g x dr go = ⟨W, [], none⟩ by unfold deedM; rw [e]; rfl]; exact ⟨h.mono (by omega), Fol.refl _⟩
    · rw [show deedM W g x dr go = chanM W [] g x by unfold deedM; rw [e]; rfl]; exact (h.chan hB [] ha hx (.inl e)).2
    · rw [show deedM W g x dr go = chanM W [] g x by unfold deedM; rw [e]; rfl]; exact (h.chan hB [] ha hx (.inr e)).2
    · rw [show deedM W g x dr go = closeM W [] x by unfold deedM; rw [e]; rfl]; exact (h.close (by omega) hx e []).2.more (by omega)
    · rw [show deedM W g x dr go = chooseM W [] g x dr go by unfold deedM; rw [e]; rfl]; exact (h.choose hB ha hx e (hd e)).2
    · rw [show deedM W g x dr go = sleepM W [] g x by unfold deedM; rw [e]; rfl]; exact (h.sleep hB [] ha).more (by omega)
    · rw [show deedM W g x dr go = lockM W [] g x by unfold deedM; rw [e]; rfl]; exact (h.lock [] ha hx e).more (by omega)
    · rw [show deedM W g x dr go = unlockM W [] g x by unfold deedM; rw [e]; rfl]; exact (h.unlock [] hx e).more (by omega)
    · rw [show deedM W g x dr go = emitM W [] g x by unfold deedM; rw [e]; rfl]; exact (h.emit [] g x).more (by omega)
    · rw [show deedM W g x dr go = ⟨W.put g x.2.1 dr, [], none⟩ by unfold deedM; rw [e]; rfl]; exact ⟨(h.put g x.2.1 dr (hx.o21 e).1).mono (by omega), fol_put _ _ _ _⟩
    · rw [show deedM W g x dr go = ⟨W, [], some x.2.1⟩ by unfold deedM; rw [e]; rfl]; exact ⟨h.mono (by omega), Fol.refl _⟩
theorem pureM_none {x : In4} {o : Nat} {z : List Int} (h : pureM x o z = none) (h0 : 0 ≤ x.1) : 9 ≤ x.1 := by
  rcases Int.lt_or_le x.1 9 with e | e
  · exfalso
    have : x.1 = 0 ∨ x.1 = 1 ∨ x.1 = 2 ∨ x.1 = 3 ∨ x.1 = 4 ∨ x.1 = 5 ∨ x.1 = 6 ∨ x.1 = 7 ∨ x.1 = 8 := by omega
    unfold pureM at h
    rcases this with e | e | e | e | e | e | e | e | e <;> simp [e] at h
  · exact e
theorem pureM_some {x : In4} {o : Nat} {z z' : List Int} (h : pureM x o z = some z') (h0 : 0 ≤ x.1) : x.1 ≤ 8 := by
  rcases Int.lt_or_le 8 x.1 with e | e
  · exfalso
    unfold pureM at h
    simp only at h
    rw [if_neg (by omega), if_neg (by omega), if_neg (by omega), if_neg (by omega), if_neg (by omega), if_neg (by omega), if_neg (by omega), if_neg (by omega), if_neg (by omega)] at h
    cases h
  · exact e
theorem GW.pure {fs : List (List In4)} {G : Gt} (h : GW fs G) {nc nk nl : Nat} {x : In4} (hx : InsOk fs.length nc nk nl (fs.getD G.fn.toNat []).length x) (hpc : 0 ≤ G.pc ∧ G.pc < ((fs.getD G.fn.toNat []).length : Int)) {z' : List Int} (hz : pureM x G.o G.z = some z') : GW fs { G with z := z' } := by
  have h8 := pureM_some hz hx.op.1
  have hp := hx.pure h8
  have h1 := h.place (G.pc + 1) (by omega)
  have hr : ∀ (v : Int), 0 ≤ x.2.1 → x.2.1 < 8 → GW fs { G with z := (G.z.set (G.o + 1) (G.pc + 1)).set (G.o + 2 + x.2.1.toNat) v } := fun v a b => h1.reg (G.n - 1) x.2.1.toNat (by omega) v
  have hset : ∀ v, 0 ≤ v ∧ v ≤ ((fs.getD G.fn.toNat []).length : Int) → GW fs { G with z := (G.z.set (G.o + 1) (G.pc + 1)).set (G.o + 1) v } := fun v hv => by rw [List.set_set]; exact h.place v hv
  unfold pureM at hz
  simp only at hz
  unfold PureOk at hp
  split at hz
  · cases hz; exact h1
  split at hz
  · cases hz; exact hr _ (by omega) (by omega)
  split at hz
  · cases hz; exact hr _ (by omega) (by omega)
  split at hz
  · cases hz; exact hr _ (by omega) (by omega)
  split at hz
  · cases hz; exact hr _ (by omega) (by omega)
  split at hz
  · cases hz; exact hr _ (by omega) (by omega)
  split at hz
  · cases hz; exact hr _ (by omega) (by omega)
  split at hz
  · rename_i e; cases hz; have := hx.j7 e; exact hset _ (by omega)
  split at hz
  · rename_i e
    have := hx.j8 e
    split at hz
    · cases hz; exact h1
    · cases hz; exact hset _ (by omega)
  · cases hz
theorem Wd.ins_eq (W : Wd) (g : Nat) : W.ins g = W.insAt (W.g g).fn (W.g g).pc := rfl
theorem Gt.step_at (G : Gt) (hl : G.z.length = G.n * 11) (hn : 1 ≤ G.n) (v : Int) : ({ G with z := G.z.set (G.o + 1) v } : Gt).fn = G.fn ∧ ({ G with z := G.z.set (G.o + 1) v } : Gt).pc = v := by
  refine ⟨?_, ?_⟩
  · show (G.z.set (G.o + 1) v).getD G.o 0 = G.z.getD G.o 0
    rw [getD_set_ne (by omega)]
  · show (G.z.set (G.o + 1) v).getD (G.o + 1) 0 = v
    rw [getD_set_eq (by unfold Gt.o; omega)]
/-- Behind an instruction. -/
theorem WF.step {B : Nat} {W : Wd} (h : WF B W) {g : Nat} (hg : g < W.gs.length) (hs : (W.g g).st = 1) {x : In4} (hx : W.ins g = some x) : WF B (W.step g) ∧ At (W.step g) g x ∧ Fol W (W.step g) := by
  have hG := h.at hg
  obtain ⟨k1, k2, k3⟩ := h.insOk hx
  have e := (W.g g).step_at hG.len hG.n.1 ((W.g g).pc + 1)
  have eg : (W.step g).g g = { W.g g with z := (W.g g).z.set ((W.g g).o + 1) ((W.g g).pc + 1) } := by unfold Wd.step; rw [Wd.g_setG _ _ _ _ hg, if_pos rfl]
  refine ⟨h.setG (by rw [hs]; decide) (hG.place _ (by omega)), ⟨by unfold Wd.step Wd.setG; simpa using hg, by rw [eg]; exact hs, ?_⟩, fol_setG _ _ _⟩
  rw [eg, e.1, e.2]
  show W.insAt (W.g g).fn ((W.g g).pc + 1 - 1) = some x
  rw [Int.add_sub_cancel]; exact hx
theorem askM_cas {W V : Wd} (h : V.ks = W.ks) (x : In4) : V.cas x = W.cas x := cas_eq h x
/-- All that Exec wants, and what it leaves. -/
theorem WF.do_ {B : Nat} {W : Wd} (h : WF B W) (hB : B ≤ 80000) {g : Nat} (hl : W.lets (g : Int)) (v : Int) :
    (((W.ins g).getD (0, 0, 0, 0)).1 ≠ 17 → DoOk W g (askM W ((W.ins g).getD (0, 0, 0, 0)) v).1 (askM W ((W.ins g).getD (0, 0, 0, 0)) v).2) ∧
    DdOk (B + W.ks.length + 1) W (doM W g (W.ins g) (askM W ((W.ins g).getD (0, 0, 0, 0)) v).1 (askM W ((W.ins g).getD (0, 0, 0, 0)) v).2) := by
  obtain ⟨l1, l2, l3, l4⟩ := hl
  simp only [Int.toNat_natCast] at l4
  have hg : g < W.gs.length := by omega
  have hG := h.at hg
  have hf := hG.fr ((W.g g).n - 1) (by have := hG.n; omega)
  have hm : (W.fs.getD (W.g g).fn.toNat []).length ≤ 900 := by
    rw [List.getD_eq_getElem?_getD]
    cases e : W.fs[(W.g g).fn.toNat]? with
    | none => simp
    | some l => exact h.p.fl l (List.mem_of_getElem? e)
  have hpc : 0 ≤ (W.g g).pc ∧ (W.g g).pc ≤ ((W.fs.getD (W.g g).fn.toNat []).length : Int) := hf.2.1
  cases hx : W.ins g with
  | none =>
    refine ⟨fun _ => ⟨hg, hG.n, by omega, fun x hx' _ => (by rw [hx] at hx'; cases hx'), fun x hx' _ => (by rw [hx] at hx'; cases hx')⟩, ?_⟩
    exact ⟨h.mono (by omega), Fol.refl _⟩
  | some x =>
    obtain ⟨k1, k2, k3⟩ := h.insOk hx
    obtain ⟨s1, s2, s3⟩ := h.step hg l4 hx
    simp only [Option.getD_some]
    have hask : x.1 = 16 → (askM W x v).2 = true → (0 ≤ (askM W x v).1 ∧ (askM W x v).1 < (((W.step g).cas x).length : Int)) ∧ (((W.step g).cas x).getD (askM W x v).1.toNat (1, 0, 0)).1 ≠ 2 := fun e1 e2 => by
      rw [cas_eq s3.ks]; exact askM_place e1 e2
    refine ⟨fun h17 => ⟨hg, hG.n, by omega, fun y hy hp => ?_, fun y hy hp => ?_⟩, ?_⟩
    · rw [hx] at hy; cases hy
      cases e : pureM x (W.g g).o (W.g g).z with
      | none => exact absurd e hp
      | some z => exact k1.pure (pureM_some e k1.op.1)
    · rw [hx] at hy; cases hy
      exact (s1.deed hB s2 (k1.fol s3) (pureM_none hp k1.op.1) hask).1 h17
    · unfold doM
      simp only
      split
      · rename_i z e
        exact ⟨(h.setG (by rw [l4]; decide) (hG.pure k1 ⟨hpc.1, k3⟩ e)).mono (by omega), fol_setG _ _ _⟩
      · rename_i e
        have := (s1.deed hB s2 (k1.fol s3) (pureM_none e k1.op.1) hask).2
        rw [s3.ks] at this
        exact ⟨this.1, s3.trans this.2⟩
theorem WF.exec {B : Nat} {W : Wd} (h : WF B W) (hB : B ≤ 80000) (g v : Int) : WF (B + W.ks.length + 1) (execM W g v).1 ∧ Fol W (execM W g v).1 := by
  unfold execM
  split
  · rename_i hl
    have e : g = ((g.toNat : Nat) : Int) := by have := hl.2.1; omega
    have hl' : W.lets ((g.toNat : Nat) : Int) := by rw [← e]; exact hl
    obtain ⟨a, b⟩ := (h.do_ hB hl' v).2
    exact ⟨a.end_, fol_end b⟩
  · exact ⟨h.mono (by omega), Fol.refl _⟩
/-- Exec may be asked. -/
theorem WF.execOk {B : Nat} {W : Wd} (h : WF B W) (hB : B ≤ 80000) {g : Nat} (hl : W.lets (g : Int)) (h17 : ((W.ins g).getD (0, 0, 0, 0)).1 ≠ 17) : ExecOk W g := by
  have hl' := hl
  obtain ⟨l1, l2, l3, l4⟩ := hl
  have hg : g < W.gs.length := by omega
  have hG := h.at hg
  have hf := hG.fr ((W.g g).n - 1) (by have := hG.n; omega)
  have hm : (W.fs.getD (W.g g).fn.toNat []).length ≤ 900 := by
    rw [List.getD_eq_getElem?_getD]
    cases e : W.fs[(W.g g).fn.toNat]? with
    | none => simp
    | some l => exact h.p.fl l (List.mem_of_getElem? e)
  have hpc : 0 ≤ (W.g g).pc ∧ (W.g g).pc ≤ ((W.fs.getD (W.g g).fn.toNat []).length : Int) := hf.2.1
  have hfn : 0 ≤ (W.g g).fn ∧ (W.g g).fn < (W.fs.length : Int) := hf.1
  refine ⟨hl', ⟨hg, by have := h.g1.2; omega, hG.n, hfn, by omega⟩, ?_, fun v => (h.do_ hB hl' v).1 h17, fun v => ?_⟩
  · cases hx : W.ins g with
    | none => exact ⟨fun e => absurd e (by decide), fun e => absurd e (by decide)⟩
    | some x =>
      obtain ⟨k1, -, -⟩ := h.insOk hx
      exact ⟨fun e => ⟨k1.casX (.inr (.inr e)), by have := h.p.kl; omega, k1.casOk (.inr (.inr e)) h.p.ck⟩, fun e => by have := k1.o21 e; simp only [Option.getD_some] at *; omega⟩
  · obtain ⟨a, b⟩ := h.exec hB (g : Int) v
    have hg' : g < (execM W (g : Int) v).1.gs.length := by have := b.gl; omega
    exact ⟨hg', (a.at hg').n⟩
end Go.Proofs.YtjidcagklakjaaaGreat
/-
  Worlds that programs come to: the clock; new ones.
-/
open Go Go.RowKit
set_option linter.unusedVariables false
namespace Go.Proofs.YtjidcagklakjaaaGreat
theorem wakes_perm : ∀ (k : Nat) (l : List It) (now : Int), l.length ≤ k → ((wakes l now).1 ++ (wakes l now).2).Perm l ∧ (HeapI l → HeapI (wakes l now).2)
  | 0, l, now, h => by
    obtain rfl : l = [] := List.eq_nil_of_length_eq_zero (by omega)
    rw [wakes_stop (by simp)]; exact ⟨List.Perm.refl _, id⟩
  | k + 1, l, now, h => by
    by_cases c : 0 < l.length ∧ (gI l 0).at_ ≤ now
    · rw [wakes_go c.1 c.2]
      obtain ⟨a, b⟩ := wakes_perm k (remF l 0) now (by rw [remF_len c.1]; omega)
      exact ⟨(List.Perm.cons _ a).trans (rem_perm c.1).symm, fun hh => b (rem_heap c.1 hh)⟩
    · rw [wakes_stop c]; exact ⟨List.Perm.refl _, id⟩
theorem wokeM_wf {B : Nat} : ∀ (l : List It) (W : Wd), WF B W → (∀ x ∈ l, (0 ≤ x.id ∧ x.id < (W.gs.length : Int)) ∧ (W.g x.id.toNat).st = 3) → (l.map (·.id)).Nodup → (∀ x ∈ l, ∀ y ∈ W.hp, y.id ≠ x.id) →
    WF B (wokeM W l) ∧ Fol W (wokeM W l) ∧ (wokeM W l).hp = W.hp ∧ (wokeM W l).clock = W.clock
  | [], W, h, _, _, _ => ⟨h, Fol.refl _, rfl, rfl⟩
  | x :: t, W, h, h1, h2, h3 => by
    obtain ⟨hx1, hx2⟩ := h1 x (by simp)
    have hg : x.id.toNat < W.gs.length := by omega
    have hxn : ((x.id.toNat : Nat) : Int) = x.id := by omega
    have hG := h.at hg
    have hw : WF B (W.setSt x.id.toNat 1) := h.goes x.id.toNat _ ⟨hG.n, hG.len, hG.fr⟩ (fun C hC => by
        rw [hxn]
        obtain ⟨-, -, -, k1, k2⟩ := h.cs C hC
        exact ⟨fun w hw e => by have := (k1 w hw).2.1; rw [e, hx2] at this; omega, fun w hw e => by have := (k2 w hw).2.1; rw [e, hx2] at this; omega⟩) (fun i L hL hm => by
        rw [hxn] at hm
        have := ((h.ls i L hL).2.2.2 _ hm).1; rw [hx2] at this; omega) (fun y hy => by rw [hxn]; exact h3 x (by simp) y hy)
    rw [List.map_cons, List.nodup_cons] at h2
    obtain ⟨a, b, c, d⟩ := wokeM_wf t (W.setSt x.id.toNat 1) hw (fun y hy => by
        obtain ⟨k1, k2⟩ := h1 y (by simp [hy])
        refine ⟨by rw [setSt_len]; exact k1, ?_⟩
        rw [setSt_at hg, if_neg (fun e => h2.1 (by
          have : y.id = x.id := by omega
          rw [← this]; exact List.mem_map_of_mem (f := (·.id)) hy))]
        exact k2) h2.2 (fun y hy z hz => h3 y (by simp [hy]) z hz)
    exact ⟨a, (fol_setG _ _ _).trans b, c, d⟩
theorem WF.tick {B : Nat} {W : Wd} (h : WF B W) : WF (B + 1) (tickM W).1 ∧ Fol W (tickM W).1 := by
  unfold tickM
  split
  · simp only
    obtain ⟨a, b⟩ := wakes_perm _ W.hp ((W.clock : Int) + 1) (Nat.le_refl _)
    have hall : ∀ x, x ∈ (wakes W.hp ((W.clock : Int) + 1)).1 ∨ x ∈ (wakes W.hp ((W.clock : Int) + 1)).2 → x ∈ W.hp := fun x hx => a.mem_iff.1 (List.mem_append.2 hx)
    have hnd := (a.map (·.id)).nodup_iff.2 h.hp.2.1
    rw [List.map_append, List.nodup_append] at hnd
    obtain ⟨n1, n2, n3⟩ := hnd
    have hlen := a.length_eq
    rw [List.length_append] at hlen
    have h1 : WF (B + 1) { W with clock := W.clock + 1, hp := (wakes W.hp ((W.clock : Int) + 1)).2 } :=
      ⟨h.p, h.ns, h.g1, h.gw, fun C hC => (h.cs C hC).mono (by omega), fun i L hL => (h.ls i L hL).mono (by omega), ⟨by show (wakes W.hp _).2.length ≤ _; have := h.hp.1; omega, n2, fun x hx => h.hp.2.2.1 x (hall x (.inr hx)), b h.hp.2.2.2⟩, Nat.le_trans h.nx (by omega), by show W.clock + 1 ≤ B + 1; have := h.clock; omega, h.out⟩
    obtain ⟨c, d, -, -⟩ := wokeM_wf (wakes W.hp ((W.clock : Int) + 1)).1 _ h1 (fun x hx => by
      obtain ⟨k1, k2, -⟩ := h.hp.2.2.1 x (hall x (.inl hx)); exact ⟨k1, k2⟩) n1 (fun x hx y hy e => n3 x.id (List.mem_map_of_mem (f := (·.id)) hx) y.id (List.mem_map_of_mem (f := (·.id)) hy) e.symm)
    exact ⟨c, d.fs, d.ks, d.Ns, d.cl, d.ll, d.gl⟩
  · exact ⟨h.mono (by omega), Fol.refl _⟩
theorem newM_wf {fs : List (List In4)} {ks : List Cs3} {rooms : List Int} {locks : Nat} (h : PW fs ks rooms.length locks) : WF 0 (newM fs ks rooms locks) := by
  refine ⟨by unfold newM; simpa using h, ⟨by unfold newM; simp, fun N hN => ?_⟩, by unfold newM; simp, fun G hG => ?_, fun C hC => ?_, fun i L hL => ?_, ⟨by unfold newM; simp, by unfold newM; simp, fun x hx => by unfold newM at hx; simp at hx, fun i _ hi => by unfold newM at hi; simp at hi⟩, by unfold newM; simp, by unfold newM; simp, by unfold newM; simp⟩
  · obtain ⟨z, -, rfl⟩ := List.mem_map.1 hN
    exact roomC_le z
  · simp only [newM, List.mem_cons, List.not_mem_nil, or_false] at hG
    subst hG
    exact GW.new 1 ⟨by omega, by have := h.f; show (0 : Int) < (fs.length : Int); omega⟩ ⟨by omega, by omega⟩
  · obtain ⟨z, -, rfl⟩ := List.mem_map.1 hC
    exact ⟨by simp, by simp, by simp, fun w hw => by simp at hw, fun w hw => by simp at hw⟩
  · have hm : L ∈ List.replicate locks ([] : List Int) := List.mem_of_getElem? hL
    rw [List.mem_replicate] at hm
    rw [hm.2]
    exact ⟨by simp, fun g hg => by simp at hg, by simp, fun g hg => by simp at hg⟩
end Go.Proofs.YtjidcagklakjaaaGreat
/-
  What a world says of itself.
-/
open Go Go.RowKit
set_option linter.unusedVariables false
namespace Go.Proofs.YtjidcagklakjaaaGreat
section
variable {w0 w : World} {p : Nat} {W : Wd} {D : Wa} {T : List Value} {Y : List Asr}
set_option maxRecDepth 100000 in
theorem wlen_any (h : Own w0 w (wparts p W D T ++ Y)) :
    Calls Tryz.prog 29 #[.pointer (some ⟨p, 0, none⟩)] w fun r w' => r = .returned (.int .i64 (W.gs.length : Int)) ∧ w' = w := by
  have p2 := (h.cel 0 rfl 2 _ rfl).1
  generalize W.gs.length = n at *
  clear h
  go_enter Tryz.func29, Tryz.ntmps29
  go_wp2
  go_ret
  exact ⟨rfl, rfl⟩
set_option maxRecDepth 100000 in
theorem wclock_any (h : Own w0 w (wparts p W D T ++ Y)) :
    Calls Tryz.prog 47 #[.pointer (some ⟨p, 0, none⟩)] w fun r w' => r = .returned (.int .u64 (W.clock : Int)) ∧ w' = w := by
  have p7 := (h.cel 0 rfl 7 _ rfl).1
  generalize W.clock = n at *
  clear h
  go_enter Tryz.func47, Tryz.ntmps47
  go_wp2
  go_ret
  exact ⟨rfl, rfl⟩
set_option maxRecDepth 100000 in
theorem wend_any (h : Own w0 w (wparts p W D T ++ Y)) :
    Calls Tryz.prog 30 #[.pointer (some ⟨p, 0, none⟩)] w fun r w' => r = .returned (.tuple #[.int .i64 W.en, .int .i64 W.why]) ∧ ∃ k, w' = w.drewN k := by
  have p9 := (h.cel 0 rfl 9 _ rfl).1
  have p10 := (h.cel 0 rfl 10 _ rfl).1
  generalize W.en = n at *
  generalize W.why = m at *
  clear h
  go_enter Tryz.func30, Tryz.ntmps30
  go_upto_region 1 with fail
  go_quiet (fail)
  go_wp2
  go_ret2
  exact ⟨rfl, ⟨_, rfl⟩⟩
set_option maxRecDepth 100000 in
set_option maxHeartbeats 1000000 in
theorem wstack_any (h : Own w0 w (wparts p W D T ++ Y)) (hf : D.fits W) (k : Nat) (hk : k < W.gs.length) (hl : W.gs.length ≤ 1000) (hm : 1 ≤ (W.g k).n ∧ (W.g k).n ≤ 16) :
    Calls Tryz.prog 24 #[.pointer (some ⟨p, 0, none⟩), .int .i64 (k : Int)] w fun r w' => ∃ g' cap', r = .returned (.slice (some ⟨g', 0, none⟩) (W.g k).n cap') ∧ w.heap.size ≤ g' ∧ StkAt w' g' (W.g k).n cap' (W.g k).z ∧ Below w.heap.size w w' := by
  have p2 := (h.cel 0 rfl 2 _ rfl).1
  have HH := Lib.hid (fun w => hasG_any D.aa W.gs.length D.ac (k : Int) w)
  obtain ⟨s, cap, hs⟩ := hf.sk_at hk
  obtain ⟨b, off, haa, c0, -, c1, -⟩ := all_at h hk hs
  have hst := (stk_at h hk hs).1
  have HC := Lib.hid (stkclone_any s (W.g k).n cap (W.g k).z w hst hm.1 (by omega))
  have hd : decide (0 ≤ (k : Int) ∧ (k : Int) < (W.gs.length : Int)) = true := decide_eq_true (by omega)
  rw [hd, haa] at HH
  rw [haa] at p2
  have k0 : (0 : Int) ≤ (k : Int) := by omega
  have k8 : (k : Int) < (W.gs.length : Int) := by omega
  generalize W.gs.length = N at *
  clear h hf hk hs haa hd hst
  go_enter Tryz.func24, Tryz.ntmps24
  go_wp2_with fail
  refine (HH.out _).mono ?_
  rintro r w1 ⟨rfl, rfl⟩
  go_wp2_with fail
  refine HC.out.mono ?_
  rintro r w2 ⟨g', cap', rfl, h1, h2, h3⟩
  go_wp2
  go_ret
  exact ⟨_, _, rfl, h1, h2, h3⟩
set_option maxRecDepth 100000 in
theorem wout_any (h : Own w0 w (wparts p W D T ++ Y)) (hl : W.out.length ≤ 1000000) :
    Calls Tryz.prog 21 #[.pointer (some ⟨p, 0, none⟩)] w fun r w' => ∃ a' c', r = .returned (.slice a' W.out.length c') ∧ RowG 1 w' a' c' W.out.length (intc W.out) ∧ (∀ x ∈ blk a', w.heap.size ≤ x) ∧ Below w.heap.size w w' := by
  have p8 := (h.cel 0 rfl 8 _ rfl).1
  have HC := Lib.hid (clonei_any w D.oa W.out.length D.oc (intc W.out) (h.rowG 9 rfl) (by intro u hu; obtain ⟨v, -, rfl⟩ := List.mem_map.1 hu; rfl) hl)
  generalize W.out.length = n at *
  clear h hl
  go_enter Tryz.func21, Tryz.ntmps21
  go_wp2_with fail
  refine HC.out.mono ?_
  rintro r w2 ⟨a', c', rfl, h2⟩
  have H2 := Lib.hid h2
  clear h2
  go_wp2
  go_ret
  exact ⟨_, _, rfl, H2.out⟩
theorem st_get {w : World} {b : Nat} {k : Bool} {a1 a2 a3 : Option Addr} {n1 c1 n2 c2 n3 c3 : Nat} (e0 : w.cell? ⟨b, 0, none⟩ = some (.slice a1 n1 c1)) (e1 : w.cell? ⟨b, 1, none⟩ = some (.slice a2 n2 c2)) (e2 : w.cell? ⟨b, 2, none⟩ = some (.slice a3 n3 c3)) (e3 : w.cell? ⟨b, 3, none⟩ = some (.bool k)) :
    (loadVar 88 ⟨b, 0, none⟩).run Tryz.prog w = .ok (.agg #[.slice a1 n1 c1, .slice a2 n2 c2, .slice a3 n3 c3, .bool k]) w := by
  simp [go_sem, e0, e1, e2, e3]
set_option maxRecDepth 100000 in
set_option maxHeartbeats 4000000 in
theorem wchan_any (h : Own w0 w (wparts p W D T ++ Y)) (hf : D.fits W) (i : Nat) (hi : i < W.Cs.length) (hb : (W.ch (i : Int)).buf.length ≤ 100000) (hs : (W.ch (i : Int)).S.length ≤ 100000) (hr : (W.ch (i : Int)).R.length ≤ 100000) :
    Calls Tryz.prog 26 #[.pointer (some ⟨p, 0, none⟩), .int .i64 (i : Int)] w fun r w' => ∃ ba bc sa sc ra rc, r = .returned (.agg #[.slice ba (W.ch (i : Int)).buf.length bc, .slice sa (W.ch (i : Int)).S.length sc, .slice ra (W.ch (i : Int)).R.length rc, .bool (W.ch (i : Int)).cl]) ∧ Own w0 w' (wparts p W D T ++ Y) := by
  have o1 := (h.alloc [.slice none 0 0, .slice none 0 0, .slice none 0 0, .bool false] 88 (b := w.heap.size) rfl)
  generalize hw1 : w.alloc (.cells [.slice none 0 0, .slice none 0 0, .slice none 0 0, .bool false].toArray 88) = w1 at o1
  have o2 := o1.mid
  obtain ⟨pt, b, off, R', -, haa, hc, ho, -⟩ := own_chan o2 hf hi
  have HS := Lib.hid (cstate_any ho hb hs hr)
  have p3 := (o2.cel 0 rfl 3 _ rfl).1
  have HH := Lib.hid (fun w => hasC_any D.ha W.Cs.length D.hc (i : Int) w)
  have hd : decide (0 ≤ (i : Int) ∧ (i : Int) < (W.Cs.length : Int)) = true := decide_eq_true (by omega)
  rw [hd, haa] at HH
  rw [haa] at p3
  have k0 : (0 : Int) ≤ (i : Int) := by omega
  have k8 : (i : Int) < (W.Cs.length : Int) := by omega
  have H1 := Lib.hid o1
  generalize W.Cs.length = N at *
  generalize (W.ch (i : Int)).buf.length = l1 at *
  generalize (W.ch (i : Int)).S.length = l2 at *
  generalize (W.ch (i : Int)).R.length = l3 at *
  generalize (W.ch (i : Int)).cl = cl at *
  have HW := Lib.hid hw1
  clear h hf hi haa hd ho o1 o2 hb hs hr hw1
  go_enter Tryz.func26, Tryz.ntmps26
  go_upto_region 1 with fail
  rw [show w.alloc (.cells #[.slice none 0 0, .slice none 0 0, .slice none 0 0, .bool false] 88) = w1 from HW.out]
  generalize w.heap.size = b4 at *
  clear HW
  go_wp2_with fail
  refine (HH.out _).mono ?_
  rintro r w2 ⟨rfl, rfl⟩
  go_wp2_with fail
  refine HS.out.mono ?_
  rintro r w3 ⟨ba, bc, sa, sc, ra, rc, rfl, -, hb3⟩
  have o3 := H1.out.step hb3
  obtain ⟨z0, y0⟩ := o3.cel 0 rfl 0 _ rfl
  obtain ⟨z1, y1⟩ := o3.cel 0 rfl 1 _ rfl
  obtain ⟨z2, y2⟩ := o3.cel 0 rfl 2 _ rfl
  obtain ⟨z3, y3⟩ := o3.cel 0 rfl 3 _ rfl
  have H4 := Lib.hid ((((o3.set 0 (.slice ba l1 bc)).set 1 (.slice sa l2 sc)).set 2 (.slice ra l3 rc)).set 3 (.bool cl))
  clear o3 H1 HS hb3
  go_wp2
  exact bodyPost_ret (results_cell Tryz.results26 _ ⟨b4, 0, none⟩ rfl (st_get (H4.out.cel 0 rfl 0 _ rfl).1 (H4.out.cel 0 rfl 1 _ rfl).1 (H4.out.cel 0 rfl 2 _ rfl).1 (H4.out.cel 0 rfl 3 _ rfl).1)) rfl ⟨ba, bc, sa, sc, ra, rc, rfl, H4.out.drop⟩
end
end Go.Proofs.YtjidcagklakjaaaGreat
/-
  A program's parts, cloned.
-/
open Go Go.RowKit
set_option linter.unusedVariables false
namespace Go.Proofs.YtjidcagklakjaaaGreat
theorem info_case : (Tryz.prog.info? 80).map (fun i => (i.zero, i.size, i.bytes)) = some (some (.agg #[.int .i64 0, .int .i64 0, .int .i64 0]), 3, 24) := by kernel_rfl
theorem info_ins : (Tryz.prog.info? 73).map (fun i => (i.zero, i.size, i.bytes)) = some (some (.agg #[.int .i64 0, .int .i64 0, .int .i64 0, .int .i64 0]), 4, 32) := by kernel_rfl
set_option maxRecDepth 100000 in
set_option maxHeartbeats 4000000 in
theorem clonek_any (w : World) (a : Option Addr) (n c : Nat) (cs : List Value) (h : CellsAt w a cs) (hlen : cs.length = n * 3) (hnil : a = none → c = 0) (hone : ∀ u ∈ cs, u.oneCell' = true) (hl : n ≤ 1000000) :
    Calls Tryz.prog 34 #[.slice a n c] w fun r w' => ∃ a' c', r = .returned (.slice a' n c') ∧ RowG 3 w' a' c' n cs ∧ (∀ x ∈ blk a', w.heap.size ≤ x) ∧ Below w.heap.size w w' := by
  cases a with
  | none =>
    have hcs : cs = [] := by
      cases cs with
      | nil => rfl
      | cons u t => obtain ⟨b, off, hx, -⟩ := h 0 u rfl; cases hx
    subst hcs
    obtain rfl : c = 0 := hnil rfl
    obtain rfl : n = 0 := by simp at hlen; omega
    clear h hone hlen hnil
    have he : ∀ w : World, (binOp .eql 33 (.slice none 0 0) (.slice none 0 0)).run Tryz.prog w = .ok (.bool true) w := fun _ => rfl
    go_enter Tryz.func34, Tryz.ntmps34
    go_wp2
    go_ret
    exact ⟨none, 0, rfl, RowG.nil _ _, fun x hx => by simp [blk] at hx, Below.refl _ _⟩
  | some ad =>
    obtain ⟨i0, hi0, hz0, hz1, hz2⟩ := info_parts info_case
    have Hi := Lib.hid hi0; clear hi0
    have Hz0 := Lib.hid hz0; clear hz0
    have Hz1 := Lib.hid hz1; clear hz1
    have Hz2 := Lib.hid hz2; clear hz2
    have H := Lib.hid h
    have HN := Lib.hid hlen
    have HO := Lib.hid hone
    clear h hone hlen hnil
    have he : ∀ w : World, (binOp .eql 33 (.slice (some ad) n c) (.slice none 0 0)).run Tryz.prog w = .ok (.bool false) w := fun _ => rfl
    go_enter Tryz.func34, Tryz.ntmps34
    go_wp2_with (at_builtin; refine wpList_append_rowG (m := n) (n := 0) (cs := []) (ds := cs) rfl _ _ 33 rfl 80 i0 _ Tryz.underlying33 Hi.out Hz0.out Hz1.out Hz2.out rfl (by omega) (by omega) rfl rfl (RowG.zero (by simp)) (H.out.below (below_alloc1 _ _)) HN.out HO.out (by omega) ?_)
    intro a1 c1 w1 k1 ch1 f1
    have hf : RowG 3 w1 a1 c1 n cs ∧ (∀ x ∈ blk a1, w.heap.size ≤ x) ∧ Below w.heap.size w w1 := by
      refine ⟨by simpa using k1, fun x hx => ?_, Chg.below (below_alloc1 _ _) ch1 (fun x hx => by simp [blk] at hx; omega)⟩
      rcases f1 x hx with h | h
      · simp [blk] at h; omega
      · first | omega | (simp at h; omega)
    have HF := Lib.hid hf
    clear hf k1 ch1 f1
    go_wp2
    go_ret
    exact ⟨a1, c1, by simp, HF.out⟩
set_option maxRecDepth 100000 in
set_option maxHeartbeats 4000000 in
theorem clonef_any (w : World) (a : Option Addr) (n c : Nat) (cs : List Value) (h : CellsAt w a cs) (hlen : cs.length = n * 4) (hnil : a = none → c = 0) (hone : ∀ u ∈ cs, u.oneCell' = true) (hl : n ≤ 1000000) :
    Calls Tryz.prog 36 #[.slice a n c] w fun r w' => ∃ a' c', r = .returned (.slice a' n c') ∧ RowG 4 w' a' c' n cs ∧ (∀ x ∈ blk a', w.heap.size ≤ x) ∧ Below w.heap.size w w' := by
  cases a with
  | none =>
    have hcs : cs = [] := by
      cases cs with
      | nil => rfl
      | cons u t => obtain ⟨b, off, hx, -⟩ := h 0 u rfl; cases hx
    subst hcs
    obtain rfl : c = 0 := hnil rfl
    obtain rfl : n = 0 := by simp at hlen; omega
    clear h hone hlen hnil
    have he : ∀ w : World, (binOp .eql 70 (.slice none 0 0) (.slice none 0 0)).run Tryz.prog w = .ok (.bool true) w := fun _ => rfl
    go_enter Tryz.func36, Tryz.ntmps36
    go_wp2
    go_ret
    exact ⟨none, 0, rfl, RowG.nil _ _, fun x hx => by simp [blk] at hx, Below.refl _ _⟩
  | some ad =>
    obtain ⟨i0, hi0, hz0, hz1, hz2⟩ := info_parts info_ins
    have Hi := Lib.hid hi0; clear hi0
    have Hz0 := Lib.hid hz0; clear hz0
    have Hz1 := Lib.hid hz1; clear hz1
    have Hz2 := Lib.hid hz2; clear hz2
    have H := Lib.hid h
    have HN := Lib.hid hlen
    have HO := Lib.hid hone
    clear h hone hlen hnil
    have he : ∀ w : World, (binOp .eql 70 (.slice (some ad) n c) (.slice none 0 0)).run Tryz.prog w = .ok (.bool false) w := fun _ => rfl
    go_enter Tryz.func36, Tryz.ntmps36
    go_wp2_with (at_builtin; refine wpList_append_rowG (m := n) (n := 0) (cs := []) (ds := cs) rfl _ _ 70 rfl 73 i0 _ Tryz.underlying70 Hi.out Hz0.out Hz1.out Hz2.out rfl (by omega) (by omega) rfl rfl (RowG.zero (by simp)) (H.out.below (below_alloc1 _ _)) HN.out HO.out (by omega) ?_)
    intro a1 c1 w1 k1 ch1 f1
    have hf : RowG 4 w1 a1 c1 n cs ∧ (∀ x ∈ blk a1, w.heap.size ≤ x) ∧ Below w.heap.size w w1 := by
      refine ⟨by simpa using k1, fun x hx => ?_, Chg.below (below_alloc1 _ _) ch1 (fun x hx => by simp [blk] at hx; omega)⟩
      rcases f1 x hx with h | h
      · simp [blk] at h; omega
      · first | omega | (simp at h; omega)
    have HF := Lib.hid hf
    clear hf k1 ch1 f1
    go_wp2
    go_ret
    exact ⟨a1, c1, by simp, HF.out⟩
end Go.Proofs.YtjidcagklakjaaaGreat
/-
  A new world.
-/
open Go Go.RowKit
set_option linter.unusedVariables false
namespace Go.Proofs.YtjidcagklakjaaaGreat
theorem info_code : (Tryz.prog.info? 70).map (fun i => (i.zero, i.size, i.bytes)) = some (some (.slice none 0 0), 1, 24) := by kernel_rfl
theorem Own.rowNil {w0 w : World} {As : List Asr} (h : Own w0 w As) (s : Nat) : Own w0 w (RowGA s none 0 0 [] :: As) := h.add (Below.refl _ _) (A := RowGA s none 0 0 []) (F := []) ⟨rfl, RowG.nil s w⟩ (fun x hx => by simp at hx)
theorem frw_app {fr : List (Option Addr × Nat)} {fs : List (List In4)} (h : fr.length = fs.length) (r : Option Addr × Nat) (l : List In4) : frw (fr ++ [r]) (fs ++ [l]) = frw fr fs ++ [.slice r.1 l.length r.2] := by
  unfold frw; rw [List.zipWith_append h]; rfl
theorem info_chp : (Tryz.prog.info? 111).map (fun i => (i.zero, i.size, i.bytes)) = some (some (.pointer none), 1, 8) := by kernel_rfl
theorem info_lkp : (Tryz.prog.info? 113).map (fun i => (i.zero, i.size, i.bytes)) = some (some (.pointer none), 1, 8) := by kernel_rfl
theorem ptrs_app (ps : List Pl) (x : Pl) : ptrs (ps ++ [x]) = ptrs ps ++ [.pointer (some ⟨x.1, 0, none⟩)] := by unfold ptrs; rw [List.map_append]; rfl
theorem chs_app {ps : List Pl} {Cs : List Ch} (h : ps.length = Cs.length) (x : Pl) (C : Ch) : chs (ps ++ [x]) (Cs ++ [C]) = chs ps Cs ++ [ChanA x.1 x.2 C] := by unfold chs; rw [List.zipWith_append h]; rfl
theorem lptr_app (lp : List Nat) (x : Nat) : lptr (lp ++ [x]) = lptr lp ++ [.pointer (some ⟨x, 0, none⟩)] := by unfold lptr; rw [List.map_append]; rfl
theorem lks_app {lp : List Nat} {Ls : List (List Int)} (h : lp.length = Ls.length) (x : Nat) (L : List Int) : lks (lp ++ [x]) (Ls ++ [L]) = lks lp Ls ++ [LockA x L] := by unfold lks; rw [List.zipWith_append h]; rfl
theorem Sep.mem {w : World} : ∀ {l : List Asr} {F : List Nat} {i : Nat} {A : Asr}, Sep w l F → l[i]? = some A → ∃ G, A.at_ w G ∧ ∀ x ∈ G, x ∈ F
  | [], _, _, _, _, hi => by simp at hi
  | B :: t, F, 0, A, h, hi => by
    obtain ⟨F1, F2, rfl, h1, -, h2⟩ := h
    simp at hi; subst hi
    exact ⟨F1, h1, fun x hx => by simp [hx]⟩
  | B :: t, F, i + 1, A, h, hi => by
    obtain ⟨F1, F2, rfl, h1, -, h2⟩ := h
    obtain ⟨G, g1, g2⟩ := Sep.mem h2 (by simpa using hi)
    exact ⟨G, g1, fun x hx => by simp [g2 x hx]⟩
/-- A program that is given. -/
structure ProgIn (w : World) (fa : Option Addr) (fr : List (Option Addr × Nat)) (fs : List (List In4)) (ra : Option Addr) (rooms : List Int) (ca : Option Addr) (cc : Nat) (ks : List Cs3) : Prop where
  f : CellsAt w fa (frw fr fs)
  fl : fr.length = fs.length
  each : ∀ (i : Nat) (r : Option Addr × Nat) (l : List In4), fr[i]? = some r → fs[i]? = some l → CellsAt w r.1 (i4s l) ∧ (r.1 = none → r.2 = 0) ∧ l.length ≤ 1000000
  c : CellsAt w ra (intc rooms)
  k : CellsAt w ca (c3s ks)
  kn : ca = none → cc = 0
  kl : ks.length ≤ 1000
  nf : fs.length ≤ 1000
  nc : rooms.length ≤ 1000
def clns (fr : List (Option Addr × Nat)) (fs : List (List In4)) : List Asr := List.zipWith (fun r l => RowGA 4 r.1 r.2 l.length (i4s l)) fr fs
theorem clns_app {fr : List (Option Addr × Nat)} {fs : List (List In4)} (h : fr.length = fs.length) (r : Option Addr × Nat) (l : List In4) : clns (fr ++ [r]) (fs ++ [l]) = clns fr fs ++ [RowGA 4 r.1 r.2 l.length (i4s l)] := by
  unfold clns; rw [List.zipWith_append h]; rfl
/-- The functions' row, their rows and the cases' row are a program. -/
theorem code_fold {w0 w : World} {fA : Option Addr} {fC n m cc : Nat} {fr : List (Option Addr × Nat)} {fs : List (List In4)} {ca : Option Addr} {ks : List Cs3} {R : List Asr} (h : Own w0 w (RowGA 1 fA fC n (frw fr fs) :: LstA (clns fr fs) :: RowGA 3 ca cc m (c3s ks) :: R)) : Own w0 w (CodeA fA fr fs ca ks :: R) := by
  refine Own.turn (As := [RowGA 1 fA fC n (frw fr fs), LstA (clns fr fs), RowGA 3 ca cc m (c3s ks)]) (As' := [CodeA fA fr fs ca ks]) (R := R) h (fun F hF => ?_)
  refine ⟨F, sep_one.2 ?_, Chg.refl _ _, fun x hx => .inl hx⟩
  have hlt := hF.lt
  obtain ⟨F1, Fa, rfl, ⟨rfl, h1⟩, -, F2, Fb, rfl, h2, -, F3, F4, rfl, ⟨rfl, h3⟩, -, rfl⟩ := hF
  refine ⟨hlt, ⟨fun x hx => by simp [hx], h1.cells⟩, ⟨fun x hx => by simp [hx], h3.cells⟩, fun i r l hr hl => ?_⟩
  have hi : (clns fr fs)[i]? = some (RowGA 4 r.1 r.2 l.length (i4s l)) := by unfold clns; rw [List.getElem?_zipWith, hr, hl]
  obtain ⟨G, ⟨rfl, g1⟩, g2⟩ := Sep.mem h2 hi
  exact ⟨fun x hx => by simp [g2 x hx], g1.cells⟩
theorem i4s_len2 (l : List In4) : (i4s l).length = l.length * 4 := by
  induction l with
  | nil => rfl
  | cons x t ih => simp only [i4s, List.flatMap_cons, List.length_append, List.length_cons] at ih ⊢; rw [ih]; simp [i4c]; omega
def nwc (fA : Option Addr) (i fC : Nat) (hA : Option Addr) (j hC : Nat) (lA : Option Addr) (k lC : Nat) (ca : Option Addr) (nk cc : Nat) (aa : Option Addr) : List Value :=
  [.slice fA i fC, .slice ca nk cc, .slice aa 1 1, .slice hA j hC, .slice lA k lC, .slice none 0 0, .int .u64 0, .int .u64 0, .slice none 0 0, .int .i64 0, .int .i64 0]
/-- The pieces while a world is made. -/
def npts (b : Nat) (fA : Option Addr) (fC : Nat) (fr : List (Option Addr × Nat)) (fs : List (List In4)) (hA : Option Addr) (hC : Nat) (ps : List Pl) (Cs : List Ch) (lA : Option Addr) (lC : Nat) (lp : List Nat) (Ls : List (List Int)) (ca : Option Addr) (cc : Nat) (ks : List Cs3) (aa : Option Addr) (g : Nat) : List Asr :=
  [CelA b (nwc fA fs.length fC hA Cs.length hC lA Ls.length lC ca ks.length cc aa), RowGA 1 fA fC fs.length (frw fr fs), LstA (clns fr fs), RowGA 3 ca cc ks.length (c3s ks), RowGA 2 aa 1 1 [.int .i64 1, .slice (some ⟨g, 0, none⟩) 1 1], LstA [StkA g 1 1 (newF 0 0 0)],
   RowGA 1 hA hC Cs.length (ptrs ps), LstA (chs ps Cs), RowGA 1 lA lC Ls.length (lptr lp), LstA (lks lp Ls)]
theorem c3s_one (ks : List Cs3) : ∀ u ∈ c3s ks, u.oneCell' = true := by
  intro u hu
  unfold c3s at hu
  obtain ⟨k, -, hk⟩ := List.mem_flatMap.1 hu
  simp only [c3c, List.mem_cons, List.not_mem_nil, or_false] at hk
  rcases hk with rfl | rfl | rfl <;> rfl
theorem i4s_one (l : List In4) : ∀ u ∈ i4s l, u.oneCell' = true := by
  intro u hu
  unfold i4s at hu
  obtain ⟨k, -, hk⟩ := List.mem_flatMap.1 hu
  simp [i4c] at hk
  rcases hk with rfl | rfl | rfl | rfl <;> rfl
set_option maxRecDepth 100000 in
set_option maxHeartbeats 16000000 in
theorem wnew_any (w : World) (fa : Option Addr) (fc : Nat) (fr : List (Option Addr × Nat)) (fs : List (List In4)) (ra : Option Addr) (rc : Nat) (rooms : List Int) (locks : Nat) (ca : Option Addr) (cc : Nat) (ks : List Cs3) (hp : ProgIn w fa fr fs ra rooms ca cc ks) (hlk : locks ≤ 1000) :
    Calls Tryz.prog 10 #[.agg #[.slice fa fs.length fc, .slice ra rooms.length rc, .int .i64 (locks : Int), .slice ca ks.length cc]] w fun r w' => ∃ b D, r = .returned (.pointer (some ⟨b, 0, none⟩)) ∧ D.fits (newM fs ks rooms locks) ∧ Own w w' (wparts b (newM fs ks rooms locks) D []) := by
  obtain ⟨hf, hfl, heach, hc, hk, hkn, hkl, hnf, hnc⟩ := hp
  have b1 := below_alloc1 w (.cells #[.slice fa fs.length fc, .slice ra rooms.length rc, .int .i64 (locks : Int), .slice ca ks.length cc] 35)
  have x0 := Blk.mk w [.slice fa fs.length fc, .slice ra rooms.length rc, .int .i64 (locks : Int), .slice ca ks.length cc] 35 w.heap.size rfl
  have o1 : Own w (w.alloc (.cells #[.slice fa fs.length fc, .slice ra rooms.length rc, .int .i64 (locks : Int), .slice ca ks.length cc] 35)) [CelA w.heap.size [.slice fa fs.length fc, .slice ra rooms.length rc, .int .i64 (locks : Int), .slice ca ks.length cc]] :=
    (Own.nil (Below.refl _ _)).alloc _ _ rfl
  have HO1 := Lib.hid o1
  have HKC := Lib.hid (clonek_any _ ca ks.length cc (c3s ks) (hk.below b1) (c3s_len ks) hkn (c3s_one ks) (by omega))
  have HF := Lib.hid hf
  have HC := Lib.hid hc
  have HE := Lib.hid heach
  have HFL := Lib.hid hfl
  obtain ⟨i1, -⟩ := x0 0 _ rfl
  obtain ⟨i2, -⟩ := x0 1 _ rfl
  obtain ⟨i3, -⟩ := x0 2 _ rfl
  obtain ⟨i4, -⟩ := x0 3 _ rfl
  clear hf hfl heach hc hk hkn x0 o1 b1
  go_enter Tryz.func10, Tryz.ntmps10
  go_wp2_with fail
  refine HKC.out.mono ?_
  rintro r w2 ⟨ca', cc', rfl, hr2, hf2, hb2⟩
  have o2 := HO1.out.add hb2 (A := RowGA 3 ca' cc' ks.length (c3s ks)) (F := blk ca') ⟨rfl, hr2⟩ hf2
  have H2 := Lib.hid o2
  clear o2 hr2 hf2 hb2 HKC HO1
  go_wp2_with fail
  refine (gbegin_any 0 0 _).mono ?_
  rintro r w3 ⟨g, rfl, hg, hs, hb3⟩
  have o3 := H2.out.add hb3 (A := StkA g 1 1 (newF 0 0 0)) (F := [g]) ⟨rfl, hs⟩ (by intro x hx; simp at hx; omega)
  have H3 := Lib.hid o3
  clear o3 hg hs hb3 H2
  have H4 := Lib.hid (((((((H3.out.pick 2 rfl).lst (l := [])).rowNil 1).lst (l := [])).rowNil 1).pick 5 rfl).lst (l := [StkA g 1 1 (newF 0 0 0)]))
  clear H3
  have o5 := H4.out.add (below_alloc1 w3 (.cells #[.int .i64 1, .slice (some ⟨g, 0, none⟩) 1 1] 101)) (A := RowGA 2 (some ⟨w3.heap.size, 0, none⟩) 1 1 [.int .i64 1, .slice (some ⟨g, 0, none⟩) 1 1]) (F := [w3.heap.size]) ⟨rfl, RowG.new 2 1 w3 [.int .i64 1, .slice (some ⟨g, 0, none⟩) 1 1] _ rfl (by simp [maxLen]) rfl⟩ (by intro x hx; simp at hx; subst hx; exact Nat.le_refl _)
  have o6 := (((o5.pick 7 rfl).lst (l := [])).rowNil 1).alloc (nwc none 0 0 none 0 0 none 0 0 ca' ks.length cc' (some ⟨w3.heap.size, 0, none⟩)) 109 (b := w3.heap.size + 1) (by simp)
  have H6 : Hid (Own w ((w3.alloc (.cells #[.int .i64 1, .slice (some ⟨g, 0, none⟩) 1 1] 101)).alloc (.cells #[.slice none 0 0, .slice ca' ks.length cc', .slice (some ⟨w3.heap.size, 0, none⟩) 1 1, .slice none 0 0, .slice none 0 0, .slice none 0 0, .int .u64 0, .int .u64 0, .slice none 0 0, .int .i64 0, .int .i64 0] 109)) (npts (w3.heap.size + 1) none 0 [] [] none 0 [] [] none 0 [] [] ca' cc' ks (some ⟨w3.heap.size, 0, none⟩) g ++ [CelA w.heap.size [.slice fa fs.length fc, .slice ra rooms.length rc, .int .i64 (locks : Int), .slice ca ks.length cc]])) := Lib.hid o6
  clear o5 o6 H4
  go_upto_region 2 with fail
  generalize ((w3.alloc (.cells #[.int .i64 1, .slice (some ⟨g, 0, none⟩) 1 1] 101)).alloc (.cells #[.slice none 0 0, .slice ca' ks.length cc', .slice (some ⟨w3.heap.size, 0, none⟩) 1 1, .slice none 0 0, .slice none 0 0, .slice none 0 0, .int .u64 0, .int .u64 0, .slice none 0 0, .int .i64 0, .int .i64 0] 109)) = w6 at *
  generalize w3.heap.size + 1 = b at *
  generalize w3.heap.size = sa at *
  generalize w.heap.size = pb at *
  have z0 := (H6.out.cel 10 rfl 0 _ rfl).1
  clear i1 i2 i3 i4
  go_wp2_with fail
  go_loopw [18] (fun iv wr => ∃ i : Nat, ∃ fA fC fr', i ≤ fs.length ∧ iv = .int .i64 i ∧ Hid (fr'.length = i ∧ Own w wr (npts b fA fC fr' (fs.take i) none 0 [] [] none 0 [] [] ca' cc' ks (some ⟨sa, 0, none⟩) g ++ [CelA pb [.slice fa fs.length fc, .slice ra rooms.length rc, .int .i64 (locks : Int), .slice ca ks.length cc]]))) (fun iv _ => fs.length - (intOf iv).toNat)
  case atStart => exact ⟨0, none, 0, [], by omega, rfl, Lib.hid ⟨rfl, H6.out⟩⟩
  case round =>
    obtain ⟨i, fA, fC, fr', hi, rfl, hr⟩ := hrel
    by_cases hlt : i < fs.length
    · have hifr : i < fr.length := by rw [HFL.out]; exact hlt
      obtain ⟨l, hl⟩ : ∃ l, l = fs[i] := ⟨_, rfl⟩
      have hle : fs[i]? = some l := by rw [hl]; exact List.getElem?_eq_getElem hlt
      obtain ⟨r0, hr0⟩ : ∃ r, r = fr[i] := ⟨_, rfl⟩
      have hre : fr[i]? = some r0 := by rw [hr0]; exact List.getElem?_eq_getElem hifr
      obtain ⟨hrl, ho⟩ := hr.out
      obtain ⟨e1, e2, e3⟩ := HE.out i r0 l hre hle
      obtain ⟨r1, rcap⟩ := r0
      simp only at e1 e2 e3
      obtain ⟨bf, off, rfl, hcf⟩ := HF.out i (.slice r1 l.length rcap) (by unfold frw; rw [List.getElem?_zipWith, hre, hle])
      have hcf2 := cell_below hcf ho.bel
      have htl : (fs.take i).length = i := by rw [List.length_take]; omega
      have SB : ∀ (wx : World) (L : List Asr), Own w wx L → ∀ k : Nat, L[k]? = some (CelA b (nwc fA (fs.take i).length fC none 0 0 none 0 0 ca' ks.length cc' (some ⟨sa, 0, none⟩))) → wx.cell? ⟨b, 0, none⟩ = some (.slice fA i fC) := fun wx L ho k hk => by
        have := (ho.cel k hk 0 _ rfl).1
        rw [htl] at this
        exact this
      have HSB := Lib.hid SB
      have o1 := ho.step (below_drew1 wr)
      have HCl := Lib.hid (clonef_any wr.drew r1 l.length rcap (i4s l) (e1.below o1.bel) (i4s_len2 l) e2 (i4s_one l) e3)
      have HT : Hid (fs.take (i + 1) = fs.take i ++ [l]) := Lib.hid (by rw [hl]; exact List.take_succ_eq_append_getElem hlt)
      have HTL := Lib.hid htl
      have HRL := Lib.hid hrl
      obtain ⟨i0, hi0, hz0, hz1, hz2⟩ := info_parts info_code
      have Hi := Lib.hid hi0; clear hi0
      have Hz0 := Lib.hid hz0; clear hz0
      have Hz1 := Lib.hid hz1; clear hz1
      have Hz2 := Lib.hid hz2; clear hz2
      have hli : (i : Int) < (fs.length : Int) := by omega
      have hl0 : (0 : Int) ≤ (i : Int) := by omega
      generalize hln : l.length = ln at *
      have HLN := Lib.hid hln
      clear hln
      clear hl hr0 hre hle e1 e2 e3 hcf SB htl hrl hr hifr
      go_upto_region 5 with fail
      refine wp_region_lexY (fun wx => wx.cell? ⟨b, 0, none⟩ = some (.slice fA i fC)) 11 12 (Array.replicate 12 false) (by kernel_rfl) (by kernel_rfl) ?_
      refine wpAnyY_seg 0 6 _ #[true, true, true, true, true, true, false, false, false, false, false, false] 6 (by kernel_rfl) noPanic_put (HSB.out _ _ o1 0 rfl) (by kernel_rfl) ?_
      simp only [List.take_succ_cons, List.take_zero, List.drop_zero]
      repeat (first
        | (refine wpSegH_no (by rfl) ?_; simp only [Act.put, List.setIfInBounds_toArray, List.set_cons_zero, List.set_cons_succ])
        | (refine wpSegH_yes (by rfl) ?_; apply Exists.intro; apply And.intro; (· (intro wx hS; (try dsimp only at hS); go_simp; first | done | with_reducible rfl)); simp only [Act.put, List.setIfInBounds_toArray, List.set_cons_zero, List.set_cons_succ]))
      refine wpSegH_nil ?_
      refine wpAnyY_one 6 _ #[true, true, true, true, true, true, true, false, false, false, false, false] 5 (by kernel_rfl) (fun K hK => ?_)
      have HKK := Lib.hid hK
      clear hK
      simp only [List.drop_succ_cons, List.drop_zero]
      refine headH_mk (by rfl) ?_
      go_simp
      refine HCl.out.mono ?_
      rintro r w2 ⟨r1', c1', rfl, hrow, hfr, hb⟩
      have o2 := o1.add hb (A := RowGA 4 r1' c1' ln (i4s l)) (F := blk r1') ⟨rfl, hrow⟩ hfr
      refine HKK.out _ _ (HSB.out _ _ o2 1 rfl) ?_
      clear HKK K
      refine wpAnyY_one 7 _ #[true, true, true, true, true, true, true, true, false, false, false, false] 4 (by kernel_rfl) (fun K hK => ?_)
      have HKK := Lib.hid hK
      clear hK
      simp only [List.drop_succ_cons, List.drop_zero]
      refine headH_mk (by rfl) ?_
      go_simp
      have o3 := o2.step (below_alloc1 _ (.cells #[.slice r1' ln c1'] 70))
      refine HKK.out _ _ (HSB.out _ _ o3 1 rfl) ?_
      clear HKK K
      refine wpAnyY_one 8 _ #[true, true, true, true, true, true, true, true, true, false, false, false] 3 (by kernel_rfl) (fun K hK => ?_)
      have HKK := Lib.hid hK
      clear hK
      simp only [List.drop_succ_cons, List.drop_zero]
      refine headH_mk (by rfl) ?_
      have hrow3 := o3.rowG 2 rfl
      rw [HTL.out] at hrow3
      refine wp_append_rowG (n := i) (m := 1) (cs := frw fr' (fs.take i)) (ds := [.slice r1' ln c1']) _ _ 32 (by rfl) 70 i0 _ Tryz.underlying32 Hi.out Hz0.out Hz1.out Hz2.out rfl (by omega) (by omega) (by rfl) (by rfl) hrow3 (CellsAt.new _ [.slice r1' ln c1'] _ rfl) rfl (by simp [Value.oneCell']) (by omega) ?_
      intro a9 c9 w9 k9 ch9 f9
      have o4 := (Own.rowTurn (o3.pick 2 rfl) k9 ch9 f9)
      refine HKK.out _ _ (HSB.out _ _ o4 2 rfl) ?_
      clear HKK K
      refine wpAnyY_segT 9 1 _ #[true, true, true, true, true, true, true, true, true, true, false, false] 2 (by kernel_rfl) noPanic_put (by kernel_rfl) ?_
      simp only [List.take_succ_cons, List.take_zero, List.drop_succ_cons, List.drop_zero]
      repeat (first
        | (refine wpSegH_no (by rfl) ?_; simp only [Act.put, List.setIfInBounds_toArray, List.set_cons_zero, List.set_cons_succ])
        | (refine wpSegH_yes (by rfl) ?_; apply Exists.intro; apply And.intro; (· (intro wx hS; (try dsimp only at hS); go_simp; first | done | with_reducible rfl)); simp only [Act.put, List.setIfInBounds_toArray, List.set_cons_zero, List.set_cons_succ]))
      refine wpSegH_nil ?_
      refine wpAnyY_seg 10 1 _ #[true, true, true, true, true, true, true, true, true, true, true, false] 1 (by kernel_rfl) noPanic_put (HSB.out _ _ o4 2 rfl) (by kernel_rfl) ?_
      simp only [List.take_succ_cons, List.take_zero, List.drop_succ_cons, List.drop_zero]
      repeat (first
        | (refine wpSegH_no (by rfl) ?_; simp only [Act.put, List.setIfInBounds_toArray, List.set_cons_zero, List.set_cons_succ])
        | (refine wpSegH_yes (by rfl) ?_; apply Exists.intro; apply And.intro; (· (intro wx hS; (try dsimp only at hS); go_simp; first | done | with_reducible rfl)); simp only [Act.put, List.setIfInBounds_toArray, List.set_cons_zero, List.set_cons_succ]))
      refine wpSegH_nil ?_
      obtain ⟨z8, f8⟩ := o4.cel 2 rfl 0 _ rfl
      have o5 := ((((((o4.setAt 2 rfl 0 (.slice a9 (i + 1) c9)).pick 1 rfl).pick 3 rfl).pick 1 rfl).lstAdd).pick 1 rfl).pick 2 rfl
      have H5 := Lib.hid o5
      clear o1 o2 o3 o4 o5 k9 ch9 f9 hrow3 hrow hfr hb HSB HCl ho
      refine wpAnyY_late 11 _ #[true, true, true, true, true, true, true, true, true, true, true, true] 0 (by kernel_rfl) (fun K hK => ?_)
      have HKK := Lib.hid hK
      clear hK
      simp only [List.drop_succ_cons, List.drop_zero]
      refine headH_mk (by rfl) ?_
      go_simp
      refine HKK.out _ _ ?_
      clear HKK K
      refine wpAnyY_done (by kernel_rfl) (NoPanic.normal ?_) _
      have HFIN : Hid ((fr' ++ [(r1', c1')]).length = i + 1 ∧ Own w (w9.setCell ⟨b, 0, none⟩ (.slice a9 (i + 1) c9)) (npts b a9 c9 (fr' ++ [(r1', c1')]) (fs.take (i + 1)) none 0 [] [] none 0 [] [] ca' cc' ks (some ⟨sa, 0, none⟩) g ++ [CelA pb [.slice (some ⟨bf, off, none⟩) fs.length fc, .slice ra rooms.length rc, .int .i64 (locks : Int), .slice ca ks.length cc]])) := Lib.hid ⟨by simp [HRL.out], by
        have e : (fs.take i ++ [l]).length = i + 1 := by rw [List.length_append, HTL.out]; rfl
        rw [HT.out]
        unfold npts
        rw [frw_app (by rw [HRL.out, HTL.out]), clns_app (by rw [HRL.out, HTL.out]), e, HLN.out]
        exact H5.out⟩
      clear H5 HT HTL HRL HLN
      go_wp2
      exact ⟨⟨i + 1, a9, c9, _, by omega, by go_num, HFIN⟩, by simp [intOf]; omega⟩
    · have hge : ¬ (i : Int) < (fs.length : Int) := by omega
      obtain rfl : i = fs.length := by omega
      have HR1 : Hid (fr'.length = fs.length ∧ Own w wr (npts b fA fC fr' fs none 0 [] [] none 0 [] [] ca' cc' ks (some ⟨sa, 0, none⟩) g ++ [CelA pb [.slice fa fs.length fc, .slice ra rooms.length rc, .int .i64 (locks : Int), .slice ca ks.length cc]])) := Lib.hid (by
        have := hr.out
        rw [List.take_length] at this
        exact this)
      obtain ⟨z1, -⟩ := HR1.out.2.cel 10 rfl 1 _ rfl
      clear hr
      go_wp2_with fail
      go_loopw [37] (fun iv wr => ∃ i : Nat, ∃ hA hC pa, i ≤ rooms.length ∧ iv = .int .i64 i ∧ Hid (pa.length = i ∧ Own w wr (npts b fA fC fr' fs hA hC (List.zip pa ((rooms.take i).map roomC)) ((rooms.take i).map fun _ => ⟨[], [], [], false⟩) none 0 [] [] ca' cc' ks (some ⟨sa, 0, none⟩) g ++ [CelA pb [.slice fa fs.length fc, .slice ra rooms.length rc, .int .i64 (locks : Int), .slice ca ks.length cc]]))) (fun iv _ => rooms.length - (intOf iv).toNat)
      case atStart => exact ⟨0, none, 0, [], by omega, rfl, Lib.hid ⟨rfl, HR1.out.2⟩⟩
      case round =>
        obtain ⟨i, hA, hC, pa, hi, rfl, hr⟩ := hrel
        by_cases hlt : i < rooms.length
        · obtain ⟨z, hz⟩ : ∃ z, z = rooms[i] := ⟨_, rfl⟩
          have hze : rooms[i]? = some z := by rw [hz]; exact List.getElem?_eq_getElem hlt
          obtain ⟨hrl, ho⟩ := hr.out
          obtain ⟨bf, off, rfl, hcf⟩ := HC.out i (.int .i64 z) (by rw [intc_get, hze]; rfl)
          have hcf2 := cell_below hcf ho.bel
          have htl : ((rooms.take i).map fun _ => (⟨[], [], [], false⟩ : Ch)).length = i := by rw [List.length_map, List.length_take]; omega
          have hzl : (List.zip pa ((rooms.take i).map roomC)).length = i := by rw [List.length_zip, List.length_map, List.length_take]; omega
          have SB : ∀ (wx : World) (L : List Asr), Own w wx L → ∀ k : Nat, L[k]? = some (CelA b (nwc fA fs.length fC hA ((rooms.take i).map fun _ => (⟨[], [], [], false⟩ : Ch)).length hC none 0 0 ca' ks.length cc' (some ⟨sa, 0, none⟩))) → wx.cell? ⟨b, 3, none⟩ = some (.slice hA i hC) := fun wx L ho k hk => by
            have := (ho.cel k hk 3 _ rfl).1
            rw [htl] at this
            exact this
          have HSB := Lib.hid SB
          have o1 := ho.step (below_drew1 wr)
          have HCl := Lib.hid (cnew_any o1 z)
          have HT : Hid (rooms.take (i + 1) = rooms.take i ++ [z]) := Lib.hid (by rw [hz]; exact List.take_succ_eq_append_getElem hlt)
          have HTL := Lib.hid htl
          have HRL := Lib.hid hrl
          have HZL := Lib.hid hzl
          obtain ⟨i0, hi0, hz0, hz1, hz2⟩ := info_parts info_chp
          have Hi := Lib.hid hi0; clear hi0
          have Hz0 := Lib.hid hz0; clear hz0
          have Hz1 := Lib.hid hz1; clear hz1
          have Hz2 := Lib.hid hz2; clear hz2
          have hli : (i : Int) < (rooms.length : Int) := by omega
          have hl0 : (0 : Int) ≤ (i : Int) := by omega
          clear hz hze hcf SB htl hrl hr hzl
          go_upto_region 10 with fail
          refine wp_region_lexY (fun wx => wx.cell? ⟨b, 3, none⟩ = some (.slice hA i hC)) 11 12 (Array.replicate 12 false) (by kernel_rfl) (by kernel_rfl) ?_
          refine wpAnyY_seg 0 6 _ #[true, true, true, true, true, true, false, false, false, false, false, false] 6 (by kernel_rfl) noPanic_put (HSB.out _ _ o1 0 rfl) (by kernel_rfl) ?_
          simp only [List.take_succ_cons, List.take_zero, List.drop_zero]
          repeat (first
            | (refine wpSegH_no (by rfl) ?_; simp only [Act.put, List.setIfInBounds_toArray, List.set_cons_zero, List.set_cons_succ])
            | (refine wpSegH_yes (by rfl) ?_; apply Exists.intro; apply And.intro; (· (intro wx hS; (try dsimp only at hS); go_simp; first | done | with_reducible rfl)); simp only [Act.put, List.setIfInBounds_toArray, List.set_cons_zero, List.set_cons_succ]))
          refine wpSegH_nil ?_
          refine wpAnyY_one 6 _ #[true, true, true, true, true, true, true, false, false, false, false, false] 5 (by kernel_rfl) (fun K hK => ?_)
          have HKK := Lib.hid hK
          clear hK
          simp only [List.drop_succ_cons, List.drop_zero]
          refine headH_mk (by rfl) ?_
          go_simp
          refine HCl.out.mono ?_
          rintro r w2 ⟨pt, rfl, o2, hb⟩
          refine HKK.out _ _ (HSB.out _ _ o2 1 rfl) ?_
          clear HKK K
          refine wpAnyY_one 7 _ #[true, true, true, true, true, true, true, true, false, false, false, false] 4 (by kernel_rfl) (fun K hK => ?_)
          have HKK := Lib.hid hK
          clear hK
          simp only [List.drop_succ_cons, List.drop_zero]
          refine headH_mk (by rfl) ?_
          go_simp
          have o3 := o2.step (below_alloc1 _ (.cells #[.pointer (some ⟨pt, 0, none⟩)] 111))
          refine HKK.out _ _ (HSB.out _ _ o3 1 rfl) ?_
          clear HKK K
          refine wpAnyY_one 8 _ #[true, true, true, true, true, true, true, true, true, false, false, false] 3 (by kernel_rfl) (fun K hK => ?_)
          have HKK := Lib.hid hK
          clear hK
          simp only [List.drop_succ_cons, List.drop_zero]
          refine headH_mk (by rfl) ?_
          have hrow3 := o3.rowG 7 rfl
          rw [HTL.out] at hrow3
          refine wp_append_rowG (n := i) (m := 1) (cs := ptrs (List.zip pa ((rooms.take i).map roomC))) (ds := [.pointer (some ⟨pt, 0, none⟩)]) _ _ 104 (by rfl) 111 i0 _ Tryz.underlying104 Hi.out Hz0.out Hz1.out Hz2.out rfl (by omega) (by omega) (by rfl) (by rfl) hrow3 (CellsAt.new _ [.pointer (some ⟨pt, 0, none⟩)] _ rfl) rfl (by simp [Value.oneCell']) (by omega) ?_
          intro a9 c9 w9 k9 ch9 f9
          have o4 := (Own.rowTurn (o3.pick 7 rfl) k9 ch9 f9)
          refine HKK.out _ _ (HSB.out _ _ o4 2 rfl) ?_
          clear HKK K
          refine wpAnyY_segT 9 1 _ #[true, true, true, true, true, true, true, true, true, true, false, false] 2 (by kernel_rfl) noPanic_put (by kernel_rfl) ?_
          simp only [List.take_succ_cons, List.take_zero, List.drop_succ_cons, List.drop_zero]
          repeat (first
            | (refine wpSegH_no (by rfl) ?_; simp only [Act.put, List.setIfInBounds_toArray, List.set_cons_zero, List.set_cons_succ])
            | (refine wpSegH_yes (by rfl) ?_; apply Exists.intro; apply And.intro; (· (intro wx hS; (try dsimp only at hS); go_simp; first | done | with_reducible rfl)); simp only [Act.put, List.setIfInBounds_toArray, List.set_cons_zero, List.set_cons_succ]))
          refine wpSegH_nil ?_
          refine wpAnyY_seg 10 1 _ #[true, true, true, true, true, true, true, true, true, true, true, false] 1 (by kernel_rfl) noPanic_put (HSB.out _ _ o4 2 rfl) (by kernel_rfl) ?_
          simp only [List.take_succ_cons, List.take_zero, List.drop_succ_cons, List.drop_zero]
          repeat (first
            | (refine wpSegH_no (by rfl) ?_; simp only [Act.put, List.setIfInBounds_toArray, List.set_cons_zero, List.set_cons_succ])
            | (refine wpSegH_yes (by rfl) ?_; apply Exists.intro; apply And.intro; (· (intro wx hS; (try dsimp only at hS); go_simp; first | done | with_reducible rfl)); simp only [Act.put, List.setIfInBounds_toArray, List.set_cons_zero, List.set_cons_succ]))
          refine wpSegH_nil ?_
          obtain ⟨z8, f8⟩ := o4.cel 2 rfl 3 _ rfl
          have o5 := ((((((((((((o4.setAt 2 rfl 3 (.slice a9 (i + 1) c9)).pick 1 rfl).pick 8 rfl).pick 1 rfl).lstAdd).pick 1 rfl).pick 7 rfl).pick 7 rfl).pick 7 rfl).pick 7 rfl).pick 7 rfl).pick 7 rfl)
          have H5 := Lib.hid o5
          clear o1 o2 o3 o4 o5 k9 ch9 f9 hrow3 hb HSB HCl ho
          refine wpAnyY_late 11 _ #[true, true, true, true, true, true, true, true, true, true, true, true] 0 (by kernel_rfl) (fun K hK => ?_)
          have HKK := Lib.hid hK
          clear hK
          simp only [List.drop_succ_cons, List.drop_zero]
          refine headH_mk (by rfl) ?_
          go_simp
          refine HKK.out _ _ ?_
          clear HKK K
          refine wpAnyY_done (by kernel_rfl) (NoPanic.normal ?_) _
          have HFIN : Hid ((pa ++ [pt]).length = i + 1 ∧ Own w (w9.setCell ⟨b, 3, none⟩ (.slice a9 (i + 1) c9)) (npts b fA fC fr' fs a9 c9 (List.zip (pa ++ [pt]) ((rooms.take (i + 1)).map roomC)) ((rooms.take (i + 1)).map fun _ => (⟨[], [], [], false⟩ : Ch)) none 0 [] [] ca' cc' ks (some ⟨sa, 0, none⟩) g ++ [CelA pb [.slice fa fs.length fc, .slice (some ⟨bf, off, none⟩) rooms.length rc, .int .i64 (locks : Int), .slice ca ks.length cc]])) := Lib.hid ⟨by simp [HRL.out], by
            have e : (((rooms.take i).map fun _ => (⟨[], [], [], false⟩ : Ch)) ++ [(⟨[], [], [], false⟩ : Ch)]).length = i + 1 := by rw [List.length_append, HTL.out]; rfl
            have e2 : List.zip (pa ++ [pt]) ((rooms.take i).map roomC ++ [roomC z]) = (List.zip pa ((rooms.take i).map roomC)) ++ [(pt, roomC z)] := List.zip_append (by rw [HRL.out, List.length_map, List.length_take]; have := hi; omega)
            rw [HT.out, List.map_append, List.map_append]
            unfold npts
            rw [show List.map roomC [z] = [roomC z] from rfl, show List.map (fun _ => (⟨[], [], [], false⟩ : Ch)) [z] = [(⟨[], [], [], false⟩ : Ch)] from rfl, e2, ptrs_app, chs_app (by rw [HZL.out, HTL.out]), e]
            exact H5.out⟩
          clear H5 HT HTL HRL HZL
          go_wp2
          exact ⟨⟨i + 1, a9, c9, _, by omega, by go_num, HFIN⟩, by simp [intOf]; omega⟩
        · have hge : ¬ (i : Int) < (rooms.length : Int) := by omega
          obtain rfl : i = rooms.length := by omega
          have HR2 : Hid (pa.length = rooms.length ∧ Own w wr (npts b fA fC fr' fs hA hC (List.zip pa (rooms.map roomC)) (rooms.map fun _ => (⟨[], [], [], false⟩ : Ch)) none 0 [] [] ca' cc' ks (some ⟨sa, 0, none⟩) g ++ [CelA pb [.slice fa fs.length fc, .slice ra rooms.length rc, .int .i64 (locks : Int), .slice ca ks.length cc]])) := Lib.hid (by
            have := hr.out
            rw [List.take_length] at this
            exact this)
          obtain ⟨z1, -⟩ := HR2.out.2.cel 10 rfl 2 _ rfl
          have HCL : Hid ((rooms.map fun _ => (⟨[], [], [], false⟩ : Ch)).length = rooms.length) := Lib.hid (by simp)
          have HFR : Hid (fr'.length = fs.length) := Lib.hid HR1.out.1
          clear hr HR1
          generalize hZP : (List.zip pa (rooms.map roomC)) = zp at *
          generalize hCP : (rooms.map fun _ => (⟨[], [], [], false⟩ : Ch)) = cp at *
          have HZP := Lib.hid hZP
          have HCP := Lib.hid hCP
          clear hZP hCP
          go_wp2_with fail
          go_loopw [55] (fun iv wr => ∃ i : Nat, ∃ lA lC lp, i ≤ locks ∧ iv = .int .i64 i ∧ Hid (lp.length = i ∧ Own w wr (npts b fA fC fr' fs hA hC zp cp lA lC lp (List.replicate i []) ca' cc' ks (some ⟨sa, 0, none⟩) g ++ [CelA pb [.slice fa fs.length fc, .slice ra rooms.length rc, .int .i64 (locks : Int), .slice ca ks.length cc]]))) (fun iv _ => locks - (intOf iv).toNat)
          case atStart => exact ⟨0, none, 0, [], by omega, rfl, Lib.hid ⟨rfl, HR2.out.2⟩⟩
          case round =>
            obtain ⟨i, lA, lC, lp, hi, rfl, hr⟩ := hrel
            by_cases hlt : i < locks
            · obtain ⟨hrl, ho⟩ := hr.out
              have htl : (List.replicate i ([] : List Int)).length = i := List.length_replicate
              have SB : ∀ (wx : World) (L : List Asr), Own w wx L → ∀ k : Nat, L[k]? = some (CelA b (nwc fA fs.length fC hA cp.length hC lA (List.replicate i ([] : List Int)).length lC ca' ks.length cc' (some ⟨sa, 0, none⟩))) → wx.cell? ⟨b, 4, none⟩ = some (.slice lA i lC) := fun wx L ho k hk => by
                have := (ho.cel k hk 4 _ rfl).1
                rw [htl] at this
                exact this
              have HSB := Lib.hid SB
              have o1 := ho.step (below_drew1 wr)
              have HTL := Lib.hid htl
              have HRL := Lib.hid hrl
              obtain ⟨i0, hi0, hz0, hz1, hz2⟩ := info_parts info_lkp
              have Hi := Lib.hid hi0; clear hi0
              have Hz0 := Lib.hid hz0; clear hz0
              have Hz1 := Lib.hid hz1; clear hz1
              have Hz2 := Lib.hid hz2; clear hz2
              have hli : (i : Int) < (locks : Int) := by omega
              have hl0 : (0 : Int) ≤ (i : Int) := by omega
              clear SB htl hrl hr
              go_upto_region 14 with fail
              refine wp_region_lexY (fun wx => wx.cell? ⟨b, 4, none⟩ = some (.slice lA i lC)) 10 11 (Array.replicate 11 false) (by kernel_rfl) (by kernel_rfl) ?_
              refine wpAnyY_seg 0 5 _ #[true, true, true, true, true, false, false, false, false, false, false] 6 (by kernel_rfl) noPanic_put (HSB.out _ _ o1 0 rfl) (by kernel_rfl) ?_
              simp only [List.take_succ_cons, List.take_zero, List.drop_zero]
              repeat (first
                | (refine wpSegH_no (by rfl) ?_; simp only [Act.put, List.setIfInBounds_toArray, List.set_cons_zero, List.set_cons_succ])
                | (refine wpSegH_yes (by rfl) ?_; apply Exists.intro; apply And.intro; (· (intro wx hS; (try dsimp only at hS); go_simp; first | done | with_reducible rfl)); simp only [Act.put, List.setIfInBounds_toArray, List.set_cons_zero, List.set_cons_succ]))
              refine wpSegH_nil ?_
              refine wpAnyY_one 5 _ #[true, true, true, true, true, true, false, false, false, false, false] 5 (by kernel_rfl) (fun K hK => ?_)
              have HKK := Lib.hid hK
              clear hK
              simp only [List.drop_succ_cons, List.drop_zero]
              refine headH_mk (by rfl) ?_
              go_simp
              refine (knew_any _).mono ?_
              rintro r w2 ⟨pt, rfl, hk1, hk2, hb⟩
              have o2 := o1.add hb (A := LockA pt []) (F := [pt]) hk1 (by intro x hx; simp at hx; omega)
              refine HKK.out _ _ (HSB.out _ _ o2 1 rfl) ?_
              clear HKK K
              refine wpAnyY_one 6 _ #[true, true, true, true, true, true, true, false, false, false, false] 4 (by kernel_rfl) (fun K hK => ?_)
              have HKK := Lib.hid hK
              clear hK
              simp only [List.drop_succ_cons, List.drop_zero]
              refine headH_mk (by rfl) ?_
              go_simp
              have o3 := o2.step (below_alloc1 _ (.cells #[.pointer (some ⟨pt, 0, none⟩)] 113))
              refine HKK.out _ _ (HSB.out _ _ o3 1 rfl) ?_
              clear HKK K
              refine wpAnyY_one 7 _ #[true, true, true, true, true, true, true, true, false, false, false] 3 (by kernel_rfl) (fun K hK => ?_)
              have HKK := Lib.hid hK
              clear hK
              simp only [List.drop_succ_cons, List.drop_zero]
              refine headH_mk (by rfl) ?_
              have hrow3 := o3.rowG 9 rfl
              rw [HTL.out] at hrow3
              refine wp_append_rowG (n := i) (m := 1) (cs := lptr lp) (ds := [.pointer (some ⟨pt, 0, none⟩)]) _ _ 105 (by rfl) 113 i0 _ Tryz.underlying105 Hi.out Hz0.out Hz1.out Hz2.out rfl (by omega) (by omega) (by rfl) (by rfl) hrow3 (CellsAt.new _ [.pointer (some ⟨pt, 0, none⟩)] _ rfl) rfl (by simp [Value.oneCell']) (by omega) ?_
              intro a9 c9 w9 k9 ch9 f9
              have o4 := (Own.rowTurn (o3.pick 9 rfl) k9 ch9 f9)
              refine HKK.out _ _ (HSB.out _ _ o4 2 rfl) ?_
              clear HKK K
              refine wpAnyY_segT 8 1 _ #[true, true, true, true, true, true, true, true, true, false, false] 2 (by kernel_rfl) noPanic_put (by kernel_rfl) ?_
              simp only [List.take_succ_cons, List.take_zero, List.drop_succ_cons, List.drop_zero]
              repeat (first
                | (refine wpSegH_no (by rfl) ?_; simp only [Act.put, List.setIfInBounds_toArray, List.set_cons_zero, List.set_cons_succ])
                | (refine wpSegH_yes (by rfl) ?_; apply Exists.intro; apply And.intro; (· (intro wx hS; (try dsimp only at hS); go_simp; first | done | with_reducible rfl)); simp only [Act.put, List.setIfInBounds_toArray, List.set_cons_zero, List.set_cons_succ]))
              refine wpSegH_nil ?_
              refine wpAnyY_seg 9 1 _ #[true, true, true, true, true, true, true, true, true, true, false] 1 (by kernel_rfl) noPanic_put (HSB.out _ _ o4 2 rfl) (by kernel_rfl) ?_
              simp only [List.take_succ_cons, List.take_zero, List.drop_succ_cons, List.drop_zero]
              repeat (first
                | (refine wpSegH_no (by rfl) ?_; simp only [Act.put, List.setIfInBounds_toArray, List.set_cons_zero, List.set_cons_succ])
                | (refine wpSegH_yes (by rfl) ?_; apply Exists.intro; apply And.intro; (· (intro wx hS; (try dsimp only at hS); go_simp; first | done | with_reducible rfl)); simp only [Act.put, List.setIfInBounds_toArray, List.set_cons_zero, List.set_cons_succ]))
              refine wpSegH_nil ?_
              obtain ⟨z8, f8⟩ := o4.cel 2 rfl 4 _ rfl
              have o5 := ((((((((((((((o4.setAt 2 rfl 4 (.slice a9 (i + 1) c9)).pick 1 rfl).pick 10 rfl).pick 1 rfl).lstAdd).pick 1 rfl).pick 9 rfl).pick 9 rfl).pick 9 rfl).pick 9 rfl).pick 9 rfl).pick 9 rfl).pick 9 rfl).pick 9 rfl)
              have H5 := Lib.hid o5
              clear o1 o2 o3 o4 o5 k9 ch9 f9 hrow3 hb hk1 hk2 HSB ho
              refine wpAnyY_late 10 _ #[true, true, true, true, true, true, true, true, true, true, true] 0 (by kernel_rfl) (fun K hK => ?_)
              have HKK := Lib.hid hK
              clear hK
              simp only [List.drop_succ_cons, List.drop_zero]
              refine headH_mk (by rfl) ?_
              go_simp
              refine HKK.out _ _ ?_
              clear HKK K
              refine wpAnyY_done (by kernel_rfl) (NoPanic.normal ?_) _
              have HFIN : Hid ((lp ++ [pt]).length = i + 1 ∧ Own w (w9.setCell ⟨b, 4, none⟩ (.slice a9 (i + 1) c9)) (npts b fA fC fr' fs hA hC zp cp a9 c9 (lp ++ [pt]) (List.replicate (i + 1) []) ca' cc' ks (some ⟨sa, 0, none⟩) g ++ [CelA pb [.slice fa fs.length fc, .slice ra rooms.length rc, .int .i64 (locks : Int), .slice ca ks.length cc]])) := Lib.hid ⟨by simp [HRL.out], by
                rw [List.replicate_succ']
                have e : (List.replicate i ([] : List Int) ++ [[]]).length = i + 1 := by rw [List.length_append, HTL.out]; rfl
                unfold npts
                rw [lptr_app, lks_app (by rw [HRL.out, HTL.out]), e]
                exact H5.out⟩
              clear H5 HTL HRL
              go_wp2
              exact ⟨⟨i + 1, a9, c9, _, by omega, by go_num, HFIN⟩, by simp [intOf]; omega⟩
            · have hge : ¬ (i : Int) < (locks : Int) := by omega
              obtain rfl : i = locks := by omega
              have h0 := hr.out.2
              have hk := (h0.rowG 3 rfl).2.1
              have h1 := code_fold (((((h0.pick 10 rfl).drop).pick 3 rfl).pick 3 rfl).pick 3 rfl)
              have h2 := ((h1.pick 1 rfl).rowNil 1).add (Below.refl _ _) (A := ItemsA (.slice none 0 0) []) (F := []) ⟨rfl, World.ownsRow_nil _ _ _ _⟩ (fun x hx => by simp at hx)
              have h3 := (((((((h2.pick 9 rfl).pick 9 rfl).pick 9 rfl).pick 9 rfl).pick 9 rfl).pick 9 rfl).pick 9 rfl).pick 9 rfl
              have hrl := hr.out.1
              have hpl := HR2.out.1
              have hfl := HFR.out
              have e1 := HZP.out
              have e2 := HCP.out
              subst e1 e2
              have HE3 : Hid ((⟨fA, fC, fr', ca', cc', some ⟨sa, 0, none⟩, 1, [(g, 1)], hA, hC, pa, lA, lC, lp, .slice none 0 0, none, 0⟩ : Wa).fits (newM fs ks rooms i) ∧ Own w wr (wparts b (newM fs ks rooms i) ⟨fA, fC, fr', ca', cc', some ⟨sa, 0, none⟩, 1, [(g, 1)], hA, hC, pa, lA, lC, lp, .slice none 0 0, none, 0⟩ [])) :=
                Lib.hid ⟨⟨hfl, rfl, by simp [newM, hpl], by simp [newM], by simp [newM, hrl], hk⟩, h3⟩
              clear h0 h1 h2 h3 hk hr HR2
              go_wp2
              go_ret
              exact ⟨_, rfl, _, HE3.out⟩
end Go.Proofs.YtjidcagklakjaaaGreat
/-
  A world as one piece of memory; what it is asked.
-/
open Go Go.RowKit
set_option linter.unusedVariables false
namespace Go.Proofs.YtjidcagklakjaaaGreat
/-- A world that begins at block p, whose block has a tail. -/
def WldA (p : Nat) (W : Wd) (T : List Value) : Asr where
  at_ w F := ∃ D : Wa, D.fits W ∧ Sep w (wparts p W D T) F
  lt := by rintro w F ⟨D, -, h⟩; exact h.lt
  chg := by rintro w w' F G ⟨D, h1, h⟩ c hd; exact ⟨D, h1, h.chg c hd⟩
theorem Own.wld {w0 w : World} {p : Nat} {W : Wd} {T : List Value} {R : List Asr} (h : Own w0 w (WldA p W T :: R)) : ∃ D : Wa, D.fits W ∧ Own w0 w (wparts p W D T ++ R) := by
  obtain ⟨As, ⟨D, hf, rfl⟩, h1⟩ := Own.unfold h (P := fun As => ∃ D : Wa, D.fits W ∧ As = wparts p W D T) (fun F ⟨D, hf, hF⟩ => ⟨_, ⟨D, hf, rfl⟩, hF⟩)
  exact ⟨D, hf, h1⟩
theorem Own.toWld {w0 w : World} {p : Nat} {W : Wd} {T : List Value} {R : List Asr} {D : Wa} (hf : D.fits W) (h : Own w0 w (wparts p W D T ++ R)) : Own w0 w (WldA p W T :: R) := Own.fold h (fun F hF => ⟨D, hf, hF⟩)
theorem Own.rowNil0 {w0 w : World} {R : List Asr} (s : Nat) (h : Own w0 w R) : Own w0 w (RowGA s none 0 0 [] :: R) := h.add (Below.refl _ _) (F := []) ⟨rfl, RowG.nil s w⟩ (by intro x hx; simp at hx)
theorem Own.wldBack {w0 w : World} {p : Nat} {W : Wd} {T : List Value} {R : List Asr} {A : Asr} {D : Wa} (hf : D.fits W) (h : Own w0 w (A :: (wparts p W D T ++ R))) : Own w0 w (A :: WldA p W T :: R) := by
  have h1 : Own w0 w (wparts p W D T ++ (A :: R)) := h.perm (by
    have := (List.perm_middle (a := A) (l₁ := wparts p W D T) (l₂ := R)).symm
    exact this)
  have h2 := Own.toWld hf h1
  exact h2.perm (List.Perm.swap _ _ _)
/-- A draw that changes nothing of what stands. -/
theorem drawOk_quiet {w0 : World} {p : Nat} {T : List Value} {W : Wd} {F : Nat} {fst cap : Array Value} {kind n : Int} {R : List Asr} (v : Int)
    (hq : ∀ w', Calls Tryz.prog F (fst ++ (#[.int .i64 kind, .int .i64 n] ++ cap)) w' fun r w'' => r = .returned (.int .i64 v) ∧ Below w'.heap.size w' w'') :
    DrawOk w0 p T W F fst cap kind n R (fun u R' => u = v ∧ R' = R) (fun _ _ => False) := fun Z d w' hD => by
  refine (hq w').mono (fun r w'' hh => .inl ⟨v, R, hh.1, ⟨rfl, rfl⟩, hD.step hh.2⟩)
theorem execM_none {B : Nat} {W : Wd} (wf : WF B W) {g : Int} (h : W.lets g → askN W ((W.ins g.toNat).getD (0, 0, 0, 0)) = 0) (u v : Int) : execM W g u = execM W g v := by
  unfold execM
  by_cases hl : W.lets g
  · rw [if_pos hl, if_pos hl]
    have hk : AskIn W ((W.ins g.toNat).getD (0, 0, 0, 0)) := by
      cases hx : W.ins g.toNat with
      | none => exact ⟨fun e => absurd e (by decide), fun e => absurd e (by decide)⟩
      | some x =>
        obtain ⟨k1, -, -⟩ := wf.insOk hx
        exact ⟨fun e => ⟨k1.casX (.inr (.inr e)), by have := wf.p.kl; omega, k1.casOk (.inr (.inr e)) wf.p.ck⟩, fun e => by have := k1.o21 e; simp only [Option.getD_some] at *; omega⟩
    simp only [askM_none hk (h hl)]
  · rw [if_neg hl, if_neg hl]
/-- Exec of a world that may be, by a draw of whatever kind. -/
def ExecW (w0 : World) (p : Nat) (T : List Value) (W : Wd) (g : Int) (R : List Asr) (Qd : Int → List Asr → Prop) (Qp : Ending → List Asr → Prop) (r : Ending) (w' : World) : Prop :=
  (∃ v R' ra rc, ((¬ W.lets g ∨ askN W ((W.ins g.toNat).getD (0, 0, 0, 0)) = 0) ∧ R' = R ∨ (W.lets g ∧ 1 ≤ askN W ((W.ins g.toNat).getD (0, 0, 0, 0))) ∧ Qd v R') ∧
    r = .returned (.agg #[.bool (execM W g v).2.1, .slice ra (execM W g v).2.2.length rc]) ∧ Own w0 w' (RowGA 1 ra rc (execM W g v).2.2.length (intc (execM W g v).2.2) :: WldA p (execM W g v).1 T :: R')) ∨
  (∃ chain R', r = .panicked chain ∧ (W.lets g ∧ 1 ≤ askN W ((W.ins g.toNat).getD (0, 0, 0, 0))) ∧ Qp r R' ∧ Own w0 w' (WldA p W T :: R'))
theorem exec_w {w0 w : World} {p : Nat} {T : List Value} {W : Wd} {R : List Asr} {F : Nat} {fst cap : Array Value} {Qd : Int → List Asr → Prop} {Qp : Ending → List Asr → Prop} {B : Nat} (h : Own w0 w (WldA p W T :: R)) (wf : WF B W) (hB : B ≤ 80000) (g : Int)
    (h17 : W.lets g → ((W.ins g.toNat).getD (0, 0, 0, 0)).1 ≠ 17)
    (en : ∀ (args : Array Value) (w : World), (callFunc F args).run Tryz.prog w = .ok (.enter F args) w) (hd : W.lets g → 1 ≤ askN W ((W.ins g.toNat).getD (0, 0, 0, 0)) → DrawOk w0 p T W F fst cap (askK ((W.ins g.toNat).getD (0, 0, 0, 0))) (askN W ((W.ins g.toNat).getD (0, 0, 0, 0)) : Int) R Qd Qp) :
    Calls Tryz.prog 16 #[.pointer (some ⟨p, 0, none⟩), .int .i64 g, .func (.func F) fst cap] w fun r w' => ExecW w0 p T W g R Qd Qp r w' := by
  obtain ⟨D, hf, ho⟩ := h.wld
  by_cases hl : W.lets g
  · obtain ⟨k, rfl⟩ : ∃ k : Nat, g = (k : Int) := ⟨g.toNat, by have := hl.2.1; omega⟩
    have hl2 := hl
    refine (exec_all (Qd := Qd) (Qp := Qp) ho hf k (wf.execOk hB hl (h17 hl)) en (hd hl)).mono (fun r w' hh => ?_)
    rcases hh with ⟨v, R', D', ra, rc, hq, h1, h2, h3⟩ | ⟨D', ch, R', h1, h2, h3, h4, h5⟩
    · refine .inl ⟨v, R', ra, rc, ?_, h1, Own.wldBack h2 h3⟩
      rcases hq with ⟨a, b⟩ | ⟨a, b⟩
      · exact .inl ⟨.inr a, b⟩
      · exact .inr ⟨⟨hl2, a⟩, b⟩
    · exact .inr ⟨ch, R', h1, ⟨hl2, h2⟩, h3, Own.toWld h4 h5⟩
  · refine (exec_no ho hf g hl (.func (.func F) fst cap)).mono (fun r w' hh => ?_)
    have e : execM W g 0 = (W, false, []) := by unfold execM; rw [if_neg hl]
    refine .inl ⟨0, R, none, 0, .inl ⟨.inl hl, rfl⟩, ?_, ?_⟩
    · rw [e]; exact hh.1
    · rw [e]; exact Own.rowNil0 1 (Own.toWld hf hh.2)
/-- .. by a draw that always answers the same. -/
theorem exec_q {w0 w : World} {p : Nat} {T : List Value} {W : Wd} {R : List Asr} {F : Nat} {fst cap : Array Value} {B : Nat} (h : Own w0 w (WldA p W T :: R)) (wf : WF B W) (hB : B ≤ 80000) (g : Int)
    (h17 : W.lets g → ((W.ins g.toNat).getD (0, 0, 0, 0)).1 ≠ 17)
    (en : ∀ (args : Array Value) (w : World), (callFunc F args).run Tryz.prog w = .ok (.enter F args) w) (v : Int)
    (hq : ∀ kind n w', Calls Tryz.prog F (fst ++ (#[.int .i64 kind, .int .i64 n] ++ cap)) w' fun r w'' => r = .returned (.int .i64 v) ∧ Below w'.heap.size w' w'') :
    Calls Tryz.prog 16 #[.pointer (some ⟨p, 0, none⟩), .int .i64 g, .func (.func F) fst cap] w fun r w' => ∃ ra rc, r = .returned (.agg #[.bool (execM W g v).2.1, .slice ra (execM W g v).2.2.length rc]) ∧ Own w0 w' (RowGA 1 ra rc (execM W g v).2.2.length (intc (execM W g v).2.2) :: WldA p (execM W g v).1 T :: R) := by
  refine (exec_w (Qd := fun u R' => u = v ∧ R' = R) (Qp := fun _ _ => False) h wf hB g h17 en (fun _ _ => drawOk_quiet v (fun w' => hq _ _ w'))).mono (fun r w' hh => ?_)
  rcases hh with ⟨u, R', ra, rc, hq, h1, h2⟩ | ⟨ch, R', h1, h2, h3, h4⟩
  · rcases hq with ⟨hn, rfl⟩ | ⟨-, rfl, rfl⟩
    · have e : execM W g u = execM W g v := execM_none wf (fun hl => by rcases hn with hn | hn; exact absurd hl hn; exact hn) u v
      rw [e] at h1 h2
      exact ⟨ra, rc, h1, h2⟩
    · exact ⟨ra, rc, h1, h2⟩
  · exact h3.elim
section
variable {w0 w : World} {p : Nat} {W : Wd} {T : List Value} {R : List Asr}
theorem len_w (h : Own w0 w (WldA p W T :: R)) : Calls Tryz.prog 29 #[.pointer (some ⟨p, 0, none⟩)] w fun r w' => r = .returned (.int .i64 (W.gs.length : Int)) ∧ w' = w := by
  obtain ⟨D, hf, ho⟩ := h.wld
  exact wlen_any ho
theorem end_w (h : Own w0 w (WldA p W T :: R)) : Calls Tryz.prog 30 #[.pointer (some ⟨p, 0, none⟩)] w fun r w' => r = .returned (.tuple #[.int .i64 W.en, .int .i64 W.why]) ∧ ∃ k, w' = w.drewN k := by
  obtain ⟨D, hf, ho⟩ := h.wld
  exact wend_any ho
theorem status_w (h : Own w0 w (WldA p W T :: R)) (g : Int) : Calls Tryz.prog 27 #[.pointer (some ⟨p, 0, none⟩), .int .i64 g] w fun r w' => r = .returned (.int .i64 (statusM W g)) ∧ w' = w := by
  obtain ⟨D, hf, ho⟩ := h.wld
  exact status_any ho hf g
theorem stack_w (h : Own w0 w (WldA p W T :: R)) {B : Nat} (wf : WF B W) (k : Nat) (hk : k < W.gs.length) : Calls Tryz.prog 24 #[.pointer (some ⟨p, 0, none⟩), .int .i64 (k : Int)] w fun r w' => ∃ g' cap', r = .returned (.slice (some ⟨g', 0, none⟩) (W.g k).n cap') ∧ w.heap.size ≤ g' ∧ StkAt w' g' (W.g k).n cap' (W.g k).z ∧ Below w.heap.size w w' := by
  obtain ⟨D, hf, ho⟩ := h.wld
  exact wstack_any ho hf k hk (by have := wf.g1; omega) (wf.at hk).n
theorem out_w (h : Own w0 w (WldA p W T :: R)) {B : Nat} (wf : WF B W) : Calls Tryz.prog 21 #[.pointer (some ⟨p, 0, none⟩)] w fun r w' => ∃ a' c', r = .returned (.slice a' W.out.length c') ∧ RowG 1 w' a' c' W.out.length (intc W.out) ∧ (∀ x ∈ blk a', w.heap.size ≤ x) ∧ Below w.heap.size w w' := by
  obtain ⟨D, hf, ho⟩ := h.wld
  exact wout_any ho (by have := wf.out; omega)
theorem chan_w (h : Own w0 w (WldA p W T :: R)) {B : Nat} (wf : WF B W) (hB : B ≤ 80000) (i : Nat) (hi : i < W.Cs.length) : Calls Tryz.prog 26 #[.pointer (some ⟨p, 0, none⟩), .int .i64 (i : Int)] w fun r w' => ∃ ba bc sa sc ra rc, r = .returned (.agg #[.slice ba (W.ch (i : Int)).buf.length bc, .slice sa (W.ch (i : Int)).S.length sc, .slice ra (W.ch (i : Int)).R.length rc, .bool (W.ch (i : Int)).cl]) ∧ Own w0 w' (WldA p W T :: R) := by
  obtain ⟨D, hf, ho⟩ := h.wld
  obtain ⟨c1, c2, c3, -⟩ := wf.cs _ (ch_mem (W := W) (i := (i : Int)) ⟨by omega, by omega⟩)
  refine (wchan_any ho hf i hi (by omega) (by omega) (by omega)).mono (fun r w' hh => ?_)
  obtain ⟨ba, bc, sa, sc, ra, rc, h1, h2⟩ := hh
  exact ⟨ba, bc, sa, sc, ra, rc, h1, Own.toWld hf h2⟩
end
theorem new_w (w : World) (fa : Option Addr) (fc : Nat) (fr : List (Option Addr × Nat)) (fs : List (List In4)) (ra : Option Addr) (rc : Nat) (rooms : List Int) (locks : Nat) (ca : Option Addr) (cc : Nat) (ks : List Cs3) (hp : ProgIn w fa fr fs ra rooms ca cc ks) (hlk : locks ≤ 1000) :
    Calls Tryz.prog 10 #[.agg #[.slice fa fs.length fc, .slice ra rooms.length rc, .int .i64 (locks : Int), .slice ca ks.length cc]] w fun r w' => ∃ b, r = .returned (.pointer (some ⟨b, 0, none⟩)) ∧ Own w w' [WldA b (newM fs ks rooms locks) []] := by
  refine (wnew_any w fa fc fr fs ra rc rooms locks ca cc ks hp hlk).mono (fun r w' hh => ?_)
  obtain ⟨b, D, h1, hf, ho⟩ := hh
  exact ⟨b, h1, Own.toWld (R := []) hf (by rw [List.append_nil]; exact ho)⟩
/-- An op that a program hasn't. -/
theorem no_op {B : Nat} {W : Wd} (k : Int) (hk : k ≠ 0) (h : ∀ l ∈ W.fs, ∀ x ∈ l, x.1 ≠ k) (g : Nat) : ((W.ins g).getD (0, 0, 0, 0)).1 ≠ k := by
  cases hx : W.ins g with
  | none => exact fun e => hk e.symm
  | some x =>
    simp only [Option.getD_some]
    rw [Wd.ins_eq] at hx
    unfold Wd.insAt at hx
    split at hx
    · cases hx
    · have hm := List.mem_of_getElem? hx
      rw [List.getD_eq_getElem?_getD] at hm
      cases e : W.fs[(W.g g).fn.toNat]? with
      | none => rw [e] at hm; simp at hm
      | some l => rw [e] at hm; exact h l (List.mem_of_getElem? e) x hm
end Go.Proofs.YtjidcagklakjaaaGreat
/-
  The law WorldCloses: its worlds, in plain numbers.
-/
open Go Go.RowKit
set_option linter.unusedVariables false
namespace Go.Proofs.YtjidcagklakjaaaGreat
/-- One goroutine's instructions, one behind the other. -/
def runK (W : Wd) (g : Int) : Nat → Wd
  | 0 => W
  | k + 1 => (execM (runK W g k) g 0).1
theorem runK_wf {B : Nat} {W : Wd} (h : WF B W) (g : Int) : ∀ k, B + k * (W.ks.length + 1) ≤ 80000 → WF (B + k * (W.ks.length + 1)) (runK W g k) ∧ Fol W (runK W g k)
  | 0, _ => ⟨by simpa [runK] using h, Fol.refl _⟩
  | k + 1, hb => by
    rw [Nat.add_mul] at hb
    obtain ⟨a, b⟩ := runK_wf h g k (by omega)
    obtain ⟨c, d⟩ := a.exec (by omega) g 0
    rw [b.ks] at c
    exact ⟨c.mono (by rw [Nat.add_mul]; omega), b.trans d⟩
def clHead (n : Nat) (s : Bool) : List In4 := List.replicate n (11, 1, 0, 1) ++ (if s then [(11, 2, 0, 1)] else [])
def clMain (n : Nat) (s : Bool) : List In4 := clHead n s ++ [(15, 0, 0, 0), (15, 1, 0, 0)]
theorem clHead_len (n : Nat) (s : Bool) : (clHead n s).length = n + (if s then 1 else 0) := by unfold clHead; split <;> simp
def clFs (n : Nat) (s : Bool) : List (List In4) := [clMain n s, [(1, 1, 7, 0), (1, 2, 7, 0), (14, 0, 1, 2)], [(13, 1, 0, 0)]]
def clW (n : Nat) (s : Bool) : Wd := newM (clFs n s) [] [0, 0] 0
def clN (n : Nat) (s : Bool) : Nat := n + (if s then 1 else 0)
def cl1 (n : Nat) (s : Bool) (k : Nat) : Wd := runK (clW n s) 0 k
/-- .. each of the others three. -/
def cl2 (n : Nat) (s : Bool) : Nat → Wd
  | 0 => cl1 n s (clN n s)
  | g + 1 => runK (cl2 n s g) ((g : Int) + 1) 3
def cl3 (n : Nat) (s : Bool) : Wd := (execM (cl2 n s (clN n s)) 0 0).1
def cl4 (n : Nat) (s : Bool) : Wd := (execM (cl3 n s) 0 0).1
def clOk (n : Nat) (s : Bool) : Bool :=
  (List.range (clN n s + 1)).all (fun g => (cl2 n s g).gs.length == clN n s + 1) &&
  ((execM (cl2 n s (clN n s)) 0 0).2.2 == (List.range n).map (fun i => ((i + 1 : Nat) : Int))) &&
  (List.range n).all (fun i => ((cl3 n s).g (i + 1)).rg 1 == 0 && ((cl3 n s).g (i + 1)).rg 2 == 0 && statusM (cl3 n s) ((i + 1 : Nat) : Int) == 1) &&
  (if s then decide ((cl4 n s).en = 2) && decide ((cl4 n s).why = -1) && ((cl4 n s).ch 1).cl && ((cl4 n s).ch 1).S.isEmpty else decide ((cl4 n s).en = 0) && ((cl4 n s).ch 0).cl && ((cl4 n s).ch 1).cl)
theorem cl_all : ∀ n, n < 21 → 1 ≤ n → ∀ s, clOk n s = true := by decide +kernel
theorem cl_good : ∀ n, n < 21 → 1 ≤ n → ∀ s, ((clFs n s).all fun l => decide (l.length ≤ 900) && l.all fun x => decide (0 ≤ x.1) && decide (x.1 ≠ 17) && (goodB 3 2 0 0 l.length x == some true)) = true := by decide +kernel
theorem cl_wf {n : Nat} {s : Bool} (h : 1 ≤ n ∧ n ≤ 20) : WF 0 (clW n s) := by
  have hg := cl_good n (by omega) h.1 s
  rw [List.all_eq_true] at hg
  refine newM_wf ⟨by show 1 ≤ 3 ∧ 3 ≤ 1000; omega, fun l hl => ?_, fun l hl x hx => ?_, by simp, fun k hk => by simp at hk, by decide, by decide⟩
  · have := hg l hl; simp at this; exact this.1
  · have := hg l hl
    simp only [Bool.and_eq_true, List.all_eq_true, decide_eq_true_eq, beq_iff_eq] at this
    exact ⟨(this.2 x hx).1.1, (this.2 x hx).2⟩
theorem cl_17 {n : Nat} {s : Bool} (h : 1 ≤ n ∧ n ≤ 20) {W : Wd} (hf : W.fs = clFs n s) (g : Nat) : ((W.ins g).getD (0, 0, 0, 0)).1 ≠ 17 := by
  refine no_op 17 (by decide) (fun l hl x hx => ?_) g (B := 0)
  rw [hf] at hl
  have hg := cl_good n (by omega) h.1 s
  rw [List.all_eq_true] at hg
  have := hg l hl
  simp only [Bool.and_eq_true, List.all_eq_true, decide_eq_true_eq, beq_iff_eq] at this
  exact (this.2 x hx).1.2
theorem clN_le {n : Nat} {s : Bool} (h : n ≤ 20) : clN n s ≤ 21 := by unfold clN; split <;> omega
theorem cl1_wf {n : Nat} {s : Bool} (h : 1 ≤ n ∧ n ≤ 20) (k : Nat) (hk : k ≤ 21) : WF 21 (cl1 n s k) ∧ Fol (clW n s) (cl1 n s k) := by
  obtain ⟨a, b⟩ := runK_wf (cl_wf (s := s) h) 0 k (by show 0 + k * (0 + 1) ≤ _; omega)
  exact ⟨a.mono (by show 0 + k * (0 + 1) ≤ _; omega), b⟩
theorem cl2_wf {n : Nat} {s : Bool} (h : 1 ≤ n ∧ n ≤ 20) : ∀ g k, g ≤ 21 → k ≤ 3 → WF (21 + g * 3 + k) (runK (cl2 n s g) ((g : Int) + 1) k) ∧ Fol (clW n s) (runK (cl2 n s g) ((g : Int) + 1) k)
  | 0, k, _, hk => by
    obtain ⟨a, b⟩ := cl1_wf (s := s) h (clN n s) (clN_le h.2)
    obtain ⟨c, d⟩ := runK_wf a (((0 : Nat) : Int) + 1) k (by rw [b.ks]; show 21 + k * (0 + 1) ≤ _; omega)
    rw [b.ks] at c
    exact ⟨c.mono (by show 21 + k * (0 + 1) ≤ _; omega), b.trans d⟩
  | g + 1, k, hg, hk => by
    obtain ⟨a, b⟩ := cl2_wf h g 3 (by omega) (by omega)
    obtain ⟨c, d⟩ := runK_wf (W := cl2 n s (g + 1)) a (((g + 1 : Nat) : Int) + 1) k (by rw [show (cl2 n s (g + 1)).ks = [] from b.ks]; show 21 + g * 3 + 3 + k * (0 + 1) ≤ _; omega)
    rw [show (cl2 n s (g + 1)).ks = [] from b.ks] at c
    exact ⟨c.mono (by show 21 + g * 3 + 3 + k * (0 + 1) ≤ _; omega), b.trans d⟩
theorem cl2_wf0 {n : Nat} {s : Bool} (h : 1 ≤ n ∧ n ≤ 20) (g : Nat) (hg : g ≤ 21) : WF 200 (cl2 n s g) ∧ Fol (clW n s) (cl2 n s g) := by
  obtain ⟨a, b⟩ := cl2_wf (s := s) h g 0 hg (by omega)
  exact ⟨a.mono (by omega), b⟩
theorem cl3_wf {n : Nat} {s : Bool} (h : 1 ≤ n ∧ n ≤ 20) : WF 300 (cl3 n s) ∧ Fol (clW n s) (cl3 n s) := by
  obtain ⟨a, b⟩ := cl2_wf0 (s := s) h (clN n s) (clN_le h.2)
  obtain ⟨c, d⟩ := a.exec (by omega) 0 0
  rw [b.ks] at c
  exact ⟨c.mono (by show 200 + 0 + 1 ≤ _; omega), b.trans d⟩
theorem cl4_wf {n : Nat} {s : Bool} (h : 1 ≤ n ∧ n ≤ 20) : WF 400 (cl4 n s) ∧ Fol (clW n s) (cl4 n s) := by
  obtain ⟨a, b⟩ := cl3_wf (s := s) h
  obtain ⟨c, d⟩ := a.exec (by omega) 0 0
  rw [b.ks] at c
  exact ⟨c.mono (by show 300 + 0 + 1 ≤ _; omega), b.trans d⟩
/-- What the law looks at. -/
structure ClF (n : Nat) (s : Bool) : Prop where
  len : ∀ g, g ≤ clN n s → (cl2 n s g).gs.length = clN n s + 1
  rd : (execM (cl2 n s (clN n s)) 0 0).2.2 = (List.range n).map (fun i => ((i + 1 : Nat) : Int))
  each : ∀ i, i < n → ((cl3 n s).g (i + 1)).rg 1 = 0 ∧ ((cl3 n s).g (i + 1)).rg 2 = 0 ∧ statusM (cl3 n s) ((i : Int) + 1) = 1
  yes : s = true → (cl4 n s).en = 2 ∧ (cl4 n s).why = -1 ∧ ((cl4 n s).ch 1).cl = true ∧ ((cl4 n s).ch 1).S.length = 0
  no : s = false → (cl4 n s).en = 0 ∧ ((cl4 n s).ch 0).cl = true ∧ ((cl4 n s).ch 1).cl = true
theorem clF_of {n : Nat} {s : Bool} (h : 1 ≤ n ∧ n ≤ 20) : ClF n s := by
  have hk := cl_all n (by omega) h.1 s
  unfold clOk at hk
  simp only [Bool.and_eq_true, List.all_eq_true, List.mem_range, beq_iff_eq] at hk
  obtain ⟨⟨⟨h1, h2⟩, h3⟩, h4⟩ := hk
  refine ⟨fun g hg => h1 g (by omega), h2, fun i hi => ⟨(h3 i hi).1.1, (h3 i hi).1.2, (h3 i hi).2⟩, fun e => ?_, fun e => ?_⟩
  · rw [if_pos e] at h4
    simp only [Bool.and_eq_true, decide_eq_true_eq, List.isEmpty_iff] at h4
    exact ⟨h4.1.1.1, h4.1.1.2, h4.1.2, by rw [h4.2]; rfl⟩
  · rw [if_neg (by rw [e]; decide)] at h4
    simp only [Bool.and_eq_true, decide_eq_true_eq] at h4
    exact ⟨h4.1.1, h4.1.2, h4.2⟩
theorem cl3_lt {n : Nat} {s : Bool} (h : 1 ≤ n ∧ n ≤ 20) (i : Nat) (hi : i < n) : i + 1 < (cl3 n s).gs.length := by
  have h1 := (clF_of (s := s) h).len _ (Nat.le_refl _)
  obtain ⟨a, b⟩ := cl2_wf0 (s := s) h (clN n s) (clN_le h.2)
  have h2 := (a.exec (by omega) 0 0).2.gl
  have h3 : n ≤ clN n s := by unfold clN; omega
  have e : (cl3 n s).gs.length = (execM (cl2 n s (clN n s)) 0 0).1.gs.length := rfl
  omega
end Go.Proofs.YtjidcagklakjaaaGreat
/-
  The law's awake: a world of one function, twice on.
-/
open Go Go.RowKit
set_option linter.unusedVariables false
namespace Go.Proofs.YtjidcagklakjaaaGreat
def awW : Wd := newM [[(20, 0, 0, 0), (10, 0, 0, 0)]] [] [] 0
def awW1 (v : Int) : Wd := (execM awW 0 v).1
theorem aw_ins : awW.ins 0 = some (20, 0, 0, 0) := rfl
theorem aw_pure : pureM (20, 0, 0, 0) (awW.g 0).o (awW.g 0).z = none := rfl
theorem aw_ok : ExecOk awW 0 := by
  refine ⟨by decide, ⟨by decide, by decide, by decide, by decide, by decide⟩, ⟨fun h => absurd h (by rw [aw_ins]; decide), fun h => absurd h (by rw [aw_ins]; decide)⟩, fun v => ⟨by decide, by decide, by decide, fun x hx hp => ?_, fun x hx hp => ?_⟩, fun v => ?_⟩
  · rw [aw_ins] at hx; cases hx; exact absurd aw_pure hp
  · rw [aw_ins] at hx; cases hx
    exact ⟨by decide, fun h => absurd h (by decide), fun h => absurd h (by decide), fun h => absurd h (by decide), fun h => absurd h (by decide), fun h => absurd h (by decide), fun h => absurd h (by decide), fun h => absurd h (by decide), fun h => absurd h (by decide), fun _ => ⟨by decide, by decide⟩, fun h => absurd h (by decide)⟩
  · show 0 < (execM awW 0 0).1.gs.length ∧ 1 ≤ ((execM awW 0 0).1.g 0).n ∧ ((execM awW 0 0).1.g 0).n ≤ 16
    decide
theorem aw_1 (v : Int) : execM awW 0 v = ((execM awW 0 0).1, true, []) := rfl
theorem aw_ins1 : (awW1 0).ins 0 = some (10, 0, 0, 0) := rfl
theorem aw_pure1 : pureM (10, 0, 0, 0) ((awW1 0).g 0).o ((awW1 0).g 0).z = none := rfl
theorem aw_ok1 : ExecOk (awW1 0) 0 := by
  refine ⟨by decide, ⟨by decide, by decide, by decide, by decide, by decide⟩, ⟨fun h => absurd h (by rw [aw_ins1]; decide), fun h => absurd h (by rw [aw_ins1]; decide)⟩, fun v => ⟨by decide, by decide, by decide, fun x hx hp => ?_, fun x hx hp => ?_⟩, fun v => ?_⟩
  · rw [aw_ins1] at hx; cases hx; exact absurd aw_pure1 hp
  · rw [aw_ins1] at hx; cases hx
    exact ⟨by decide, fun h => absurd h (by decide), fun _ => ⟨by decide, fun h => absurd h (by decide)⟩, fun h => absurd h (by decide), fun h => absurd h (by decide), fun h => absurd h (by decide), fun h => absurd h (by decide), fun h => absurd h (by decide), fun h => absurd h (by decide), fun h => absurd h (by decide), fun h => absurd h (by decide)⟩
  · show 0 < (execM (awW1 0) 0 0).1.gs.length ∧ 1 ≤ ((execM (awW1 0) 0 0).1.g 0).n ∧ ((execM (awW1 0) 0 0).1.g 0).n ≤ 16
    decide
theorem aw_2 (v : Int) : (execM (awW1 0) 0 v).2 = (false, []) ∧ (execM (awW1 0) 0 v).1.en = 1 ∧ (execM (awW1 0) 0 v).1.out = [0] ∧ statusM (execM (awW1 0) 0 v).1 0 = 4 := ⟨rfl, rfl, rfl, rfl⟩
set_option maxRecDepth 100000 in
set_option maxHeartbeats 4000000 in
theorem awake16_any (w : World) : Calls Tryz.prog 8 #[] w fun r w' => r = .returned (.bool true) ∧ Below w.heap.size w w' := by
  go_enter Tryz.func8, Tryz.ntmps8
  go_wp2_with fail
  have hp : ProgIn ((w.alloc (.cells #[.int .i64 20, .int .i64 0, .int .i64 0, .int .i64 0, .int .i64 10, .int .i64 0, .int .i64 0, .int .i64 0] 73)).alloc (.cells #[.slice (some ⟨w.heap.size, 0, none⟩) 2 2] 70)) (some ⟨w.heap.size + 1, 0, none⟩) [(some ⟨w.heap.size, 0, none⟩, 2)] [[(20, 0, 0, 0), (10, 0, 0, 0)]] none [] none 0 [] := by
    refine ⟨CellsAt.new _ [.slice (some ⟨w.heap.size, 0, none⟩) 2 2] _ (by simp), rfl, fun i r l hr hl => ?_, CellsAt.nil _ _, CellsAt.nil _ _, fun _ => rfl, by decide, by decide, by decide⟩
    cases i with
    | zero =>
      simp at hr hl
      subst hr hl
      exact ⟨(CellsAt.new w [.int .i64 20, .int .i64 0, .int .i64 0, .int .i64 0, .int .i64 10, .int .i64 0, .int .i64 0, .int .i64 0] _ rfl).below (below_alloc1 _ _), (fun h => by cases h), by decide⟩
    | succ i => simp at hr
  have hbw : Below w.heap.size w ((w.alloc (.cells #[.int .i64 20, .int .i64 0, .int .i64 0, .int .i64 0, .int .i64 10, .int .i64 0, .int .i64 0, .int .i64 0] 73)).alloc (.cells #[.slice (some ⟨w.heap.size, 0, none⟩) 2 2] 70)) := below_on (below_alloc1 _ _) (below_alloc1 _ _)
  refine (wnew_any _ _ 1 _ _ none 0 [] 0 none 0 [] hp (by decide)).mono ?_
  rintro r w3 ⟨b, D, rfl, hf, ho⟩
  clear hp
  generalize ((w.alloc (.cells #[.int .i64 20, .int .i64 0, .int .i64 0, .int .i64 0, .int .i64 10, .int .i64 0, .int .i64 0, .int .i64 0] 73)).alloc (.cells #[.slice (some ⟨w.heap.size, 0, none⟩) 2 2] 70)) = w2 at *
  have HB := Lib.hid hbw
  clear hbw
  have en : ∀ (args : Array Value) (w : World), (callFunc 31 args).run Tryz.prog w = .ok (.enter 31 args) w := fun _ _ => by kernel_rfl
  have HX : Hid (Calls Tryz.prog 16 #[.pointer (some ⟨b, 0, none⟩), .int .i64 0, .func (.func 31) #[] #[]] w3 fun r w' => ∃ a c D', r = .returned (.agg #[.bool true, .slice a 0 c]) ∧ D'.fits (awW1 0) ∧ Own w2 w' (wparts b (awW1 0) D' [] ++ [])) := Lib.hid (by
    refine (exec_all (Qd := fun _ _ => False) (Qp := fun _ _ => False) (R := []) (by rw [List.append_nil]; exact ho) hf 0 aw_ok en (fun h => absurd h (by show ¬ 1 ≤ askN awW ((awW.ins 0).getD (0, 0, 0, 0)); rw [aw_ins]; decide))).mono (fun r w' hh => ?_)
    rcases hh with ⟨v, R', D', ra, rc, hq, h1, h2, h3⟩ | ⟨D', ch, R', h1, h2, h3, -⟩
    · rcases hq with ⟨-, rfl⟩ | ⟨-, h⟩
      · exact ⟨ra, rc, D', h1, h2, h3.drop⟩
      · exact h.elim
    · exact h3.elim)
  have HY : Hid (∀ (wx : World) (D' : Wa), D'.fits (awW1 0) → Own w2 wx (wparts b (awW1 0) D' [] ++ []) → Calls Tryz.prog 16 #[.pointer (some ⟨b, 0, none⟩), .int .i64 0, .func (.func 31) #[] #[]] wx fun r w' => ∃ a c D', r = .returned (.agg #[.bool false, .slice a 0 c]) ∧ D'.fits (execM (awW1 0) 0 0).1 ∧ Own w2 w' (wparts b (execM (awW1 0) 0 0).1 D' [] ++ [])) := Lib.hid (fun wx D hf ho => by
    refine (exec_all (Qd := fun _ _ => False) (Qp := fun _ _ => False) (R := []) ho hf 0 aw_ok1 en (fun h => absurd h (by show ¬ 1 ≤ askN (awW1 0) (((awW1 0).ins 0).getD (0, 0, 0, 0)); rw [aw_ins1]; decide))).mono (fun r w' hh => ?_)
    rcases hh with ⟨v, R', D', ra, rc, hq, h1, h2, h3⟩ | ⟨D', ch, R', h1, h2, h3, -⟩
    · rcases hq with ⟨-, rfl⟩ | ⟨-, h⟩
      · exact ⟨ra, rc, D', h1, h2, h3.drop⟩
      · exact h.elim
    · exact h3.elim)
  obtain ⟨f1, f2, f3, f4⟩ := aw_2 0
  generalize (execM (awW1 0) 0 0).1 = X2 at *
  generalize awW1 0 = X1 at *
  clear hf ho en f1
  go_wp2_with fail
  refine HX.out.mono ?_
  rintro r w4 ⟨a4, c4, D4, rfl, hf4, ho4⟩
  have HZ := Lib.hid (HY.out _ _ hf4 ho4)
  clear hf4 ho4 HX HY
  go_wp2_with fail
  refine HZ.out.mono ?_
  rintro r w5 ⟨a5, c5, D5, rfl, hf5, ho5⟩
  clear HZ
  go_wp2_with fail
  have o6 : Own w2 ((w5.alloc (.cells #[.bool true, .slice a4 0 c4] 65)).alloc (.cells #[.bool false, .slice a5 0 c5] 65)) (CelA (w5.heap.size + 1) [.bool false, .slice a5 0 c5] :: CelA w5.heap.size [.bool true, .slice a4 0 c4] :: (wparts b X2 D5 [] ++ [])) := (ho5.alloc [.bool true, .slice a4 0 c4] 65 rfl).alloc [.bool false, .slice a5 0 c5] 65 (by simp)
  clear ho5
  generalize ((w5.alloc (.cells #[.bool true, .slice a4 0 c4] 65)).alloc (.cells #[.bool false, .slice a5 0 c5] 65)) = w6 at *
  generalize w5.heap.size + 1 = q1 at *
  generalize w5.heap.size = q0 at *
  have H6 := Lib.hid o6
  have HF5 := Lib.hid hf5
  have HE := Lib.hid (wend_any (p := b) (D := D5) (T := []) (Y := []) (W := X2) (o6.drop.drop))
  clear o6 hf5
  refine HE.out.mono ?_
  rintro r w7 ⟨rfl, k7, hw7⟩
  have H7 := Lib.hid (H6.out.q1 hw7)
  clear hw7 HE H6
  rw [f2]
  have HO := Lib.hid (wout_any (p := b) (D := D5) (T := []) (Y := []) (W := X2) H7.out.drop.drop (by rw [f3]; decide))
  rw [f3] at HO
  go_wp2_with fail
  refine HO.out.mono ?_
  rintro r w8 ⟨ao, co, rfl, hrow, -, hb8⟩
  obtain ⟨bo, oo, rfl, hco⟩ := hrow.cells 0 (.int .i64 0) rfl
  have hco0 : w8.cell? ⟨bo, oo, none⟩ = some (.int .i64 0) := hco
  clear hco
  have o8 := H7.out.step hb8
  have HS := Lib.hid (status_any (p := b) (D := D5) (T := []) (Y := []) (W := X2) o8.drop.drop HF5.out 0)
  rw [f4] at HS
  have z1 := (o8.cel 0 rfl 0 _ rfl).1
  have z0 := (o8.cel 1 rfl 0 _ rfl).1
  have HBEL := Lib.hid (below_on HB.out o8.bel)
  clear o8 H7 HO hrow hb8 HF5
  go_wp2_with fail
  refine HS.out.mono ?_
  rintro r w9 ⟨rfl, rfl⟩
  clear HS
  go_wp2
  go_ret
  exact ⟨rfl, HBEL.out⟩
end Go.Proofs.YtjidcagklakjaaaGreat
/-
  The walk of the law WorldCloses.
-/
open Go Go.RowKit
set_option linter.unusedVariables false
namespace Go.Proofs.YtjidcagklakjaaaGreat.worldCloses
theorem quiet28 (kind n : Int) (w : World) : Calls Tryz.prog 28 (#[] ++ (#[.int .i64 kind, .int .i64 n] ++ #[])) w fun r w' => r = .returned (.int .i64 0) ∧ Below w.heap.size w w' := by
  show Calls Tryz.prog 28 #[.int .i64 kind, .int .i64 n] w _
  go_enter Tryz.func28, Tryz.ntmps28
  go_wp2
  go_ret
  exact ⟨rfl, Below.refl _ _⟩
theorem fld3 (a b c : Value) (k : Bool) (w : World) : (Instr.field 88 (.agg #[a, b, c, .bool k]) 3).run Tryz.prog w = .ok (.bool k) w := by kernel_rfl
theorem fld1 (a b c : Value) (k : Bool) (w : World) : (Instr.field 88 (.agg #[a, b, c, .bool k]) 1).run Tryz.prog w = .ok b w := by kernel_rfl
theorem i4s_app (l m : List In4) : i4s (l ++ m) = i4s l ++ i4s m := by unfold i4s; rw [List.flatMap_append]
theorem rep_succ (i : Nat) (x : In4) : i4s (List.replicate (i + 1) x) = i4s (List.replicate i x) ++ i4c x := by
  rw [List.replicate_succ', i4s_app]; simp [i4s]
theorem cells_of {w : World} {b : Nat} {cs : List Value} (h : Blk w b cs) : CellsAt w (some ⟨b, 0, none⟩) cs := fun j v hj => ⟨b, 0, rfl, by rw [Nat.zero_add]; exact (h j v hj).1⟩
/-- The rows of a program in the making. -/
theorem rows_prog {w : World} {a : Option Addr} {cap N : Nat} {s : Bool} {c1 c2 cf : Nat} (h0 : CellsAt w a (i4s (clMain N s))) (hn : a = none → cap = 0) (h1 : CellsAt w (some ⟨c1, 0, none⟩) (i4s [(1, 1, 7, 0), (1, 2, 7, 0), (14, 0, 1, 2)])) (h2 : CellsAt w (some ⟨c2, 0, none⟩) (i4s [(13, 1, 0, 0)]))
    (hf : CellsAt w (some ⟨cf, 0, none⟩) [.slice a (clMain N s).length cap, .slice (some ⟨c1, 0, none⟩) 3 3, .slice (some ⟨c2, 0, none⟩) 1 1]) {ch : Nat} (hc : CellsAt w (some ⟨ch, 0, none⟩) [.int .i64 0, .int .i64 0]) (hN : N ≤ 20) :
    ProgIn w (some ⟨cf, 0, none⟩) [(a, cap), (some ⟨c1, 0, none⟩, 3), (some ⟨c2, 0, none⟩, 1)] (clFs N s) (some ⟨ch, 0, none⟩) [0, 0] none 0 [] := by
  refine ⟨hf, rfl, fun i r l hr hl => ?_, hc, CellsAt.nil _ _, fun _ => rfl, by decide, by show 3 ≤ 1000; omega, by decide⟩
  match i with
  | 0 => simp [clFs] at hr hl; subst hr hl; exact ⟨h0, hn, by unfold clMain; rw [List.length_append, clHead_len]; split <;> simp <;> omega⟩
  | 1 => simp [clFs] at hr hl; subst hr hl; exact ⟨h1, (fun h => by cases h), by decide⟩
  | 2 => simp [clFs] at hr hl; subst hr hl; exact ⟨h2, (fun h => by cases h), by decide⟩
  | i + 3 => simp at hr
set_option maxRecDepth 100000 in
set_option maxHeartbeats 8000000 in
theorem walk (a0 : Int) (a1 : Bool) (w : World) (w0 : (Lit.int .i64 a0).wf = true) :
    Calls Tryz.prog 7 #[.int .i64 a0, .bool a1] w fun e w' => e = .returned (.bool true) ∧ Below w.heap.size w w' := by
  obtain ⟨N, hN', hN2, -⟩ := small_of a0 20 (by omega)
  have hN : (bits BinOp.and IntKind.i64 a0 255).tmod 20 = (N : Int) := hN'
  clear hN' w0
  obtain ⟨i0, hi0, hz0, hz1, hz2⟩ := info_parts info_ins
  have Hi := Lib.hid hi0; clear hi0
  have Hz0 := Lib.hid hz0; clear hz0
  have Hz1 := Lib.hid hz1; clear hz1
  have Hz2 := Lib.hid hz2; clear hz2
  go_enter Tryz.func7, Tryz.ntmps7
  go_wp2_with fail
  refine (awake16_any _).mono ?_
  rintro e w1 ⟨rfl, hb⟩
  have HB := Lib.hid hb; clear hb
  go_upto_region 5 with fail
  have ho0 : Own w1 (w1.alloc (.cells #[] 73)) [RowGA 4 (some ⟨w1.heap.size, 0, none⟩) 0 0 []] := (Own.nil (Below.refl _ _)).add (below_alloc1 _ _) (A := RowGA 4 (some ⟨w1.heap.size, 0, none⟩) 0 0 []) (F := [w1.heap.size]) ⟨rfl, RowG.zero (by simp)⟩ (by intro x hx; simp at hx; omega)
  have HO := Lib.hid ho0; clear ho0
  go_wp2_with fail
  go_loopw [5, 24] (fun s iv wr => ∃ i : Nat, ∃ a cap, i ≤ N + 1 ∧ iv = .int .i64 i ∧ s = .slice a i cap ∧ Hid (Own w1 wr [RowGA 4 a cap i (i4s (List.replicate i (11, 1, 0, 1)))])) (fun _ iv _ => N + 1 - (intOf iv).toNat)
  case atStart => exact ⟨0, some ⟨w1.heap.size, 0, none⟩, 0, by omega, rfl, rfl, HO⟩
  case round =>
    obtain ⟨i, a, cap, hi, rfl, rfl, hr⟩ := hrel
    by_cases hlt : i < N + 1
    · have hlt2 : (i : Int) < 1 + (N : Int) := by omega
      have o1 := hr.out.step (below_alloc1 wr (.cells #[.int .i64 11, .int .i64 1, .int .i64 0, .int .i64 1] 73))
      have H1 := Lib.hid o1
      clear o1 hr
      go_wp2_with (at_builtin; go_loud (refine wpList_append_rowG rfl _ _ 70 rfl 73 i0 _ Tryz.underlying70 Hi.out Hz0.out Hz1.out Hz2.out rfl (by decide) (by decide) (n := i) (m := 1) (cs := i4s (List.replicate i (11, 1, 0, 1))) (ds := [.int .i64 11, .int .i64 1, .int .i64 0, .int .i64 1]) (by rfl) (by rfl) (H1.out.rowG 0 rfl) (CellsAt.new _ [.int .i64 11, .int .i64 1, .int .i64 0, .int .i64 1] _ rfl) rfl (by simp [Value.oneCell']) (by omega) ?_))
      intro a9 c9 w9 k9 ch9 f9
      have o2 := Own.rowTurn H1.out k9 ch9 (fun x hx => by simpa using f9 x hx)
      have H2 : Hid (Own w1 w9 [RowGA 4 a9 c9 (i + 1) (i4s (List.replicate (i + 1) (11, 1, 0, 1)))]) := Lib.hid (by rw [rep_succ]; exact o2)
      clear o2 k9 ch9 f9 H1
      go_wp2
      exact ⟨⟨i + 1, a9, c9, by omega, by go_num, rfl, H2⟩, by simp [intOf]; omega⟩
    · obtain rfl : i = N + 1 := by omega
      have hge : ¬ (((N + 1 : Nat) : Int) < 1 + (N : Int)) := by omega
      go_upto_if 31 with fail
      clear hge hlt hi
      go_cut [5] (fun s wx => ∃ a' cap', s = .slice a' (clN (N + 1) a1) cap' ∧ Hid (Own w1 wx [RowGA 4 a' cap' (clN (N + 1) a1) (i4s (clHead (N + 1) a1))]))
      case first =>
        cases a1 with
        | false =>
          go_wp2_with fail
          go_meet
          exact ⟨a, cap, rfl, by unfold clHead; rw [if_neg (by decide), List.append_nil]; exact hr⟩
        | true =>
          have o1 := hr.out.step (below_alloc1 wr (.cells #[.int .i64 11, .int .i64 2, .int .i64 0, .int .i64 1] 73))
          have H1 := Lib.hid o1
          clear o1 hr
          go_wp2_with (at_builtin; go_loud (refine wpList_append_rowG rfl _ _ 70 rfl 73 i0 _ Tryz.underlying70 Hi.out Hz0.out Hz1.out Hz2.out rfl (by decide) (by decide) (n := N + 1) (m := 1) (cs := i4s (List.replicate (N + 1) (11, 1, 0, 1))) (ds := [.int .i64 11, .int .i64 2, .int .i64 0, .int .i64 1]) (by rfl) (by rfl) (H1.out.rowG 0 rfl) (CellsAt.new _ [.int .i64 11, .int .i64 2, .int .i64 0, .int .i64 1] _ rfl) rfl (by simp [Value.oneCell']) (by omega) ?_))
          intro a9 c9 w9 k9 ch9 f9
          have o2 := Own.rowTurn H1.out k9 ch9 (fun x hx => by simpa using f9 x hx)
          have H2 : Hid (Own w1 w9 [RowGA 4 a9 c9 (N + 1 + 1) (i4s (clHead (N + 1) true))]) := Lib.hid (by unfold clHead; rw [i4s_app]; exact o2)
          clear o2 k9 ch9 f9 H1
          go_wp2_with fail
          go_meet
          exact ⟨a9, c9, rfl, H2⟩
      case rest =>
        obtain ⟨a', cap', rfl, hr⟩ := hcut
        have hM : clN (N + 1) a1 ≤ 21 := clN_le (by omega)
        obtain ⟨M, hMe⟩ : ∃ M, M = clN (N + 1) a1 := ⟨_, rfl⟩
        rw [← hMe] at hM hr ⊢
        have HM := Lib.hid hMe; clear hMe
        go_upto_region 11 with fail
        have o1 := hr.out.step (below_alloc1 wc (.cells #[.int .i64 15, .int .i64 0, .int .i64 0, .int .i64 0, .int .i64 15, .int .i64 1, .int .i64 0, .int .i64 0] 73))
        have H1 := Lib.hid o1
        clear o1 hr
        go_wp2_with (at_builtin; go_loud (refine wpList_append_rowG rfl _ _ 70 rfl 73 i0 _ Tryz.underlying70 Hi.out Hz0.out Hz1.out Hz2.out rfl (by decide) (by decide) (n := M) (m := 2) (ds := [.int .i64 15, .int .i64 0, .int .i64 0, .int .i64 0, .int .i64 15, .int .i64 1, .int .i64 0, .int .i64 0]) (by rfl) (by rfl) (H1.out.rowG 0 rfl) (CellsAt.new _ [.int .i64 15, .int .i64 0, .int .i64 0, .int .i64 0, .int .i64 15, .int .i64 1, .int .i64 0, .int .i64 0] _ rfl) rfl (by simp [Value.oneCell']) (by omega) ?_))
        intro a9 c9 w9 k9 ch9 f9
        have o2 := Own.rowTurn H1.out k9 ch9 (fun x hx => by simpa using f9 x hx)
        have H2 : Hid (Own w1 w9 [RowGA 4 a9 c9 (M + 2) (i4s (clMain (N + 1) a1))]) := Lib.hid (by
          unfold clMain
          rw [i4s_app]; exact o2)
        clear o2 k9 ch9 f9 H1
        go_upto_region 13 with fail
        have o3 : Own w1 (((((w9.alloc (.cells #[.int .i64 0, .int .i64 0] 3)).alloc (.cells #[.int .i64 1, .int .i64 1, .int .i64 7, .int .i64 0, .int .i64 1, .int .i64 2, .int .i64 7, .int .i64 0, .int .i64 14, .int .i64 0, .int .i64 1, .int .i64 2] 73)).alloc (.cells #[.int .i64 13, .int .i64 1, .int .i64 0, .int .i64 0] 73)).alloc (.cells #[.slice a9 (M + 2) c9, .slice (some ⟨w9.heap.size + 1, 0, none⟩) 3 3, .slice (some ⟨w9.heap.size + 1 + 1, 0, none⟩) 1 1] 70)).alloc (.cells #[.slice (some ⟨w9.heap.size + 1 + 1 + 1, 0, none⟩) 3 3, .slice (some ⟨w9.heap.size, 0, none⟩) 2 2, .int .i64 0, .slice none 0 0] 35)) [CelA (w9.heap.size + 1 + 1 + 1 + 1) [.slice (some ⟨w9.heap.size + 1 + 1 + 1, 0, none⟩) 3 3, .slice (some ⟨w9.heap.size, 0, none⟩) 2 2, .int .i64 0, .slice none 0 0], CelA (w9.heap.size + 1 + 1 + 1) [.slice a9 (M + 2) c9, .slice (some ⟨w9.heap.size + 1, 0, none⟩) 3 3, .slice (some ⟨w9.heap.size + 1 + 1, 0, none⟩) 1 1], CelA (w9.heap.size + 1 + 1) [.int .i64 13, .int .i64 1, .int .i64 0, .int .i64 0], CelA (w9.heap.size + 1) [.int .i64 1, .int .i64 1, .int .i64 7, .int .i64 0, .int .i64 1, .int .i64 2, .int .i64 7, .int .i64 0, .int .i64 14, .int .i64 0, .int .i64 1, .int .i64 2], CelA w9.heap.size [.int .i64 0, .int .i64 0], RowGA 4 a9 c9 (M + 2) (i4s (clMain (N + 1) a1))] :=
          ((((H2.out.alloc _ 3 rfl).alloc _ 73 (by simp)).alloc _ 73 (by simp)).alloc _ 70 (by simp)).alloc _ 35 (by simp)
        generalize (((((w9.alloc (.cells #[.int .i64 0, .int .i64 0] 3)).alloc (.cells #[.int .i64 1, .int .i64 1, .int .i64 7, .int .i64 0, .int .i64 1, .int .i64 2, .int .i64 7, .int .i64 0, .int .i64 14, .int .i64 0, .int .i64 1, .int .i64 2] 73)).alloc (.cells #[.int .i64 13, .int .i64 1, .int .i64 0, .int .i64 0] 73)).alloc (.cells #[.slice a9 (M + 2) c9, .slice (some ⟨w9.heap.size + 1, 0, none⟩) 3 3, .slice (some ⟨w9.heap.size + 1 + 1, 0, none⟩) 1 1] 70)).alloc (.cells #[.slice (some ⟨w9.heap.size + 1 + 1 + 1, 0, none⟩) 3 3, .slice (some ⟨w9.heap.size, 0, none⟩) 2 2, .int .i64 0, .slice none 0 0] 35)) = w13 at *
        generalize w9.heap.size + 1 + 1 + 1 + 1 = pg at *
        generalize w9.heap.size + 1 + 1 + 1 = cf at *
        generalize w9.heap.size + 1 + 1 = c2 at *
        generalize w9.heap.size + 1 = c1 at *
        generalize w9.heap.size = ch at *
        have hml : (clMain (N + 1) a1).length = M + 2 := by
          unfold clMain; rw [List.length_append, clHead_len, HM.out]; rfl
        have hP := rows_prog (w := w13) (N := N + 1) (s := a1) (o3.rowG 5 rfl).cells (o3.rowG 5 rfl).none0 (cells_of (o3.cel 3 rfl)) (cells_of (o3.cel 2 rfl)) (by rw [hml]; exact cells_of (o3.cel 1 rfl)) (cells_of (o3.cel 4 rfl)) (by omega)
        have HP := Lib.hid hP; clear hP
        obtain ⟨p0, -⟩ := o3.cel 0 rfl 0 _ rfl
        obtain ⟨p1, -⟩ := o3.cel 0 rfl 1 _ rfl
        obtain ⟨p2, -⟩ := o3.cel 0 rfl 2 _ rfl
        obtain ⟨p3, -⟩ := o3.cel 0 rfl 3 _ rfl
        have HB3 := Lib.hid (below_on HB.out o3.bel)
        clear o3 hml H2 HO
        go_wp2_with fail
        refine (new_w w13 (some ⟨cf, 0, none⟩) 3 _ (clFs (N + 1) a1) (some ⟨ch, 0, none⟩) 2 [0, 0] 0 none 0 [] HP.out (by decide)).mono ?_
        rintro r w14 ⟨b, rfl, ho⟩
        have HW : Hid (Own w13 w14 [WldA b (cl1 (N + 1) a1 0) []]) := Lib.hid ho
        clear ho HP p0 p1 p2 p3
        have en : ∀ (args : Array Value) (w : World), (callFunc 28 args).run Tryz.prog w = .ok (.enter 28 args) w := fun _ _ => by kernel_rfl
        have EN := Lib.hid en; clear en
        have hNN : 1 ≤ N + 1 ∧ N + 1 ≤ 20 := by omega
        have HNN := Lib.hid hNN; clear hNN
        go_wp2_with fail
        go_loopw [56] (fun iv wr => ∃ i : Nat, i ≤ M ∧ iv = .int .i64 i ∧ Hid (Own w13 wr [WldA b (cl1 (N + 1) a1 i) []])) (fun iv _ => M - (intOf iv).toNat)
        case atStart => exact ⟨0, by omega, rfl, HW⟩
        case round =>
          obtain ⟨i, hi, rfl, hr⟩ := hrel
          by_cases hlt : i < M
          · have hlt2 : (i : Int) < (M : Int) := by omega
            have HX := Lib.hid (exec_q hr.out (cl1_wf HNN.out i (by omega)).1 (by omega) 0 (fun _ => cl_17 HNN.out (cl1_wf HNN.out i (by omega)).2.fs _) EN.out 0 quiet28)
            clear hr
            go_wp2_with fail
            refine HX.out.mono ?_
            rintro r w2 ⟨ra, rc, rfl, ho⟩
            have HF : Hid (Own w13 w2 [WldA b (cl1 (N + 1) a1 (i + 1)) []]) := Lib.hid ho.drop
            clear ho HX
            go_wp2
            exact ⟨⟨i + 1, by omega, by go_num, HF⟩, by simp [intOf]; omega⟩
          · obtain rfl : i = M := by omega
            have HR : Hid (Own w13 wr [WldA b (cl2 (N + 1) a1 0) []]) := Lib.hid (by
              have := hr.out
              rw [HM.out] at this
              exact this)
            clear hr HW
            go_wp2_with fail
            go_loopw [9] (fun gv wr => ∃ g : Nat, g ≤ i ∧ gv = .int .i64 ((g : Int) + 1) ∧ Hid (Own w13 wr [WldA b (cl2 (N + 1) a1 g) []])) (fun gv _ => i + 1 - (intOf gv).toNat)
            case atStart => exact ⟨0, by omega, rfl, HR⟩
            case round =>
              obtain ⟨g, hg, rfl, hr⟩ := hrel
              have HL := Lib.hid (len_w hr.out)
              rw [(clF_of HNN.out).len g (by rw [← HM.out]; exact hg), ← HM.out] at HL
              by_cases hlt : g < i
              · have hlt2 : (g : Int) < (i : Int) := by omega
                go_wp2_with fail
                refine HL.out.mono ?_
                rintro r w2 ⟨rfl, rfl⟩
                clear HL
                go_wp2_with fail
                have HG : Hid (Own w13 w2 [WldA b (runK (cl2 (N + 1) a1 g) ((g : Int) + 1) 0) []]) := hr
                clear hr
                go_loopw [68] (fun kv wq => ∃ k : Nat, k ≤ 3 ∧ kv = .int .i64 k ∧ Hid (Own w13 wq [WldA b (runK (cl2 (N + 1) a1 g) ((g : Int) + 1) k) []])) (fun kv _ => 3 - (intOf kv).toNat)
                case atStart => exact ⟨0, by omega, rfl, HG⟩
                case round =>
                  obtain ⟨k, hk, rfl, hr⟩ := hrel
                  by_cases hlt3 : k < 3
                  · have hlt4 : (k : Int) < 3 := by omega
                    have HX := Lib.hid (exec_q hr.out (cl2_wf HNN.out g k (by omega) (by omega)).1 (by omega) ((g : Int) + 1) (fun _ => cl_17 HNN.out (cl2_wf HNN.out g k (by omega) (by omega)).2.fs _) EN.out 0 quiet28)
                    clear hr
                    go_wp2_with fail
                    refine HX.out.mono ?_
                    rintro r w3 ⟨ra, rc, rfl, ho⟩
                    have HF : Hid (Own w13 w3 [WldA b (runK (cl2 (N + 1) a1 g) ((g : Int) + 1) (k + 1)) []]) := Lib.hid ho.drop
                    clear ho HX
                    go_wp2
                    exact ⟨⟨k + 1, by omega, by go_num, HF⟩, by simp [intOf]; omega⟩
                  · obtain rfl : k = 3 := by omega
                    have HF : Hid (Own w13 wr [WldA b (cl2 (N + 1) a1 (g + 1)) []]) := hr
                    clear hr
                    go_wp2
                    exact ⟨⟨g + 1, by omega, by go_num, HF⟩, by simp [intOf]; omega⟩
              · obtain rfl : g = i := by omega
                go_wp2_with fail
                refine HL.out.mono ?_
                rintro r w2 ⟨rfl, rfl⟩
                clear HL
                have HE := Lib.hid (clF_of (s := a1) HNN.out)
                have HX : Hid (Calls Tryz.prog 16 #[.pointer (some ⟨b, 0, none⟩), .int .i64 0, .func (.func 28) #[] #[]] w2 fun r w' => ∃ ra rc kp, r = .returned (.agg #[.bool kp, .slice ra (N + 1) rc]) ∧ Own w13 w' [RowGA 1 ra rc (N + 1) (intc ((List.range (N + 1)).map (fun i => ((i + 1 : Nat) : Int)))), WldA b (cl3 (N + 1) a1) []]) := Lib.hid (by
                  have h0 := hr.out
                  rw [HM.out] at h0
                  obtain ⟨c1, c2⟩ := cl2_wf0 (s := a1) HNN.out (clN (N + 1) a1) (clN_le HNN.out.2)
                  refine (exec_q h0 c1 (by omega) 0 (fun _ => cl_17 HNN.out c2.fs _) EN.out 0 quiet28).mono (fun r w' hh => ?_)
                  obtain ⟨ra, rc, h1, h2⟩ := hh
                  rw [HE.out.rd] at h1 h2
                  rw [List.length_map, List.length_range] at h1 h2
                  exact ⟨ra, rc, _, h1, h2⟩)
                clear hr
                go_wp2_with fail
                refine HX.out.mono ?_
                rintro r w3 ⟨ra, rc, kp, rfl, ho⟩
                have o4 := ho.alloc [.bool kp, .slice ra (N + 1) rc] 65 (b := w3.heap.size) rfl
                have H4 := Lib.hid o4
                clear ho o4 HX
                go_upto_region 27 with fail
                generalize w3.alloc (.cells #[.bool kp, .slice ra (N + 1) rc] 65) = w4 at *
                generalize w3.heap.size = q at *
                obtain ⟨q1, -⟩ := H4.out.cel 0 rfl 1 _ rfl
                have hNe : ((N : Int) + 1 == 1 + (N : Int)) = true := by rw [beq_iff_eq]; omega
                go_wp2_with fail
                have hNe2 : ((N : Int) + 1 != 1 + (N : Int)) = false := by rw [bne_eq_false_iff_eq]; omega
                rw [hNe2]
                clear hNe2
                go_loopw [86] (fun iv wr => ∃ i : Nat, i ≤ N + 1 ∧ iv = .int .i64 i ∧ Hid (Own w13 wr [CelA q [.bool kp, .slice ra (N + 1) rc], RowGA 1 ra rc (N + 1) (intc ((List.range (N + 1)).map (fun i => ((i + 1 : Nat) : Int)))), WldA b (cl3 (N + 1) a1) []])) (fun iv _ => N + 1 - (intOf iv).toNat)
                case atStart => exact ⟨0, by omega, rfl, H4⟩
                case round =>
                  obtain ⟨i, hi, rfl, hr⟩ := hrel
                  clear q1 H4 hNe
                  by_cases hlt5 : i < N + 1
                  · have hlt6 : (i : Int) < (N : Int) + 1 := by omega
                    have hi0 : (0 : Int) ≤ (i : Int) := by omega
                    obtain ⟨rb, ro, hra, hcell⟩ := (hr.out.rowG 1 rfl).cells i (.int .i64 ((i : Int) + 1)) (by rw [intc_get, List.getElem?_map, List.getElem?_range hlt5]; rfl)
                    subst hra
                    obtain ⟨e1, e2, e3⟩ := HE.out.each i (by omega)
                    have c3 := cl3_wf (s := a1) HNN.out
                    have hgl := cl3_lt (s := a1) HNN.out i hlt5
                    have HS := Lib.hid (stack_w hr.out.drop.drop c3.1 (i + 1) hgl)
                    have HT := Lib.hid (fun wx (hx : Own w13 wx [CelA q [.bool kp, .slice (some ⟨rb, ro, none⟩) (N + 1) rc], RowGA 1 (some ⟨rb, ro, none⟩) rc (N + 1) (intc ((List.range (N + 1)).map (fun i => ((i + 1 : Nat) : Int)))), WldA b (cl3 (N + 1) a1) []]) => status_w hx.drop.drop ((i : Int) + 1))
                    rw [e3] at HT
                    have hn1 := (c3.1.at hgl).n
                    generalize (cl3 (N + 1) a1).g (i + 1) = G at *
                    have htop : ∀ (s cap : Nat) wx, Calls Tryz.prog 25 #[.slice (some ⟨s, 0, none⟩) G.n cap] wx fun e w' => e = .returned (.pointer (some ⟨s, (G.n - 1) * 11, none⟩)) ∧ w' = wx := fun s cap wx => by
                      have := top_any s (G.n - 1) cap wx (by omega)
                      rw [show G.n - 1 + 1 = G.n by omega] at this
                      exact this
                    have HTOP := Lib.hid htop
                    have HN1 := Lib.hid hn1.1
                    clear htop hn1 c3 hgl e3
                    go_wp2_with fail
                    refine HS.out.mono ?_
                    rintro r w5 ⟨s', cap', rfl, -, hst, hb5⟩
                    have o5 := hr.out.step hb5
                    have HT5 := Lib.hid (HT.out _ o5)
                    have H5 := Lib.hid o5
                    obtain ⟨x1, -⟩ := reg_at hst HN1.out 1 (by omega)
                    obtain ⟨x2, -⟩ := reg_at hst HN1.out 2 (by omega)
                    rw [show ((1 : Nat) : Int) = 1 from rfl, e1] at x1
                    rw [show ((2 : Nat) : Int) = 2 from rfl, e2] at x2
                    clear hst hb5 o5 HS HT e1 e2
                    go_wp2_with fail
                    refine (HTOP.out s' cap' w5).mono ?_
                    rintro r w6 ⟨rfl, rfl⟩
                    generalize (G.n - 1) * 11 = fo at *
                    go_wp2_with fail
                    refine HT5.out.mono ?_
                    rintro r w7 ⟨rfl, rfl⟩
                    clear HT5 x1 x2 HTOP
                    go_wp2
                    exact ⟨⟨i + 1, by omega, by go_num, H5⟩, by simp [intOf]; omega⟩
                  · obtain rfl : i = N + 1 := by omega
                    have hge2 : ¬ ((N + 1 : Nat) : Int) < (N : Int) + 1 := by omega
                    have HX : Hid (Calls Tryz.prog 16 #[.pointer (some ⟨b, 0, none⟩), .int .i64 0, .func (.func 28) #[] #[]] wr fun r w' => ∃ ra rc m kp, r = .returned (.agg #[.bool kp, .slice ra m rc]) ∧ Own w13 w' [WldA b (cl4 (N + 1) a1) []]) := Lib.hid (by
                      obtain ⟨c1, c2⟩ := cl3_wf (s := a1) HNN.out
                      refine (exec_q hr.out.drop.drop c1 (by omega) 0 (fun _ => cl_17 HNN.out c2.fs _) EN.out 0 quiet28).mono (fun r w' hh => ?_)
                      obtain ⟨ra, rc, h1, h2⟩ := hh
                      exact ⟨ra, rc, _, _, h1, h2.drop⟩)
                    clear hr
                    go_wp2_with fail
                    refine HX.out.mono ?_
                    rintro r w8 ⟨ra8, rc8, m8, k8, rfl, ho⟩
                    have H8 := Lib.hid ho
                    clear ho HX
                    have HEN := Lib.hid (end_w H8.out)
                    go_wp2_with fail
                    refine HEN.out.mono ?_
                    rintro r w9 ⟨rfl, k9, hk9⟩
                    have H9 := Lib.hid (H8.out.q1 hk9)
                    clear hk9 HEN H8
                    have c4 := cl4_wf (s := a1) HNN.out
                    have hcl : (cl4 (N + 1) a1).Cs.length = 2 := by rw [c4.2.cl]; rfl
                    have HC := Lib.hid (fun wx (hx : Own w13 wx [WldA b (cl4 (N + 1) a1) []]) (i : Nat) (hi : i < 2) => chan_w hx c4.1 (by omega) i (by rw [hcl]; exact hi))
                    clear c4 hcl
                    have f3 := fld3
                    have f1 := fld1
                    cases a1 with
                    | true =>
                      obtain ⟨e1, e2, e3, e4⟩ := HE.out.yes rfl
                      rw [e1, e2]
                      have HC1 := Lib.hid (fun wx (hx : Own w13 wx [WldA b (cl4 (N + 1) true) []]) => HC.out wx hx 1 (by omega))
                      rw [show ((1 : Nat) : Int) = 1 from rfl, e3, e4] at HC1
                      clear e1 e2 e3 e4 HC HE
                      go_wp2_with fail
                      refine (HC1.out _ H9.out).mono ?_
                      rintro r w10 ⟨ba, bc, sa, sc, ra', rc', rfl, ho⟩
                      have H10 := Lib.hid ho
                      clear ho
                      go_wp2_with fail
                      refine (HC1.out _ H10.out).mono ?_
                      rintro r w11 ⟨ba, bc, sa, sc, ra', rc', rfl, ho⟩
                      have HBB := Lib.hid (below_on HB3.out ho.bel)
                      clear ho HC1
                      go_wp2
                      go_ret
                      exact ⟨rfl, HBB.out⟩
                    | false =>
                      obtain ⟨e1, e2, e3⟩ := HE.out.no rfl
                      rw [e1]
                      have HC0 := Lib.hid (fun wx (hx : Own w13 wx [WldA b (cl4 (N + 1) false) []]) => HC.out wx hx 0 (by omega))
                      have HC1 := Lib.hid (fun wx (hx : Own w13 wx [WldA b (cl4 (N + 1) false) []]) => HC.out wx hx 1 (by omega))
                      rw [show ((0 : Nat) : Int) = 0 from rfl, e2] at HC0
                      rw [show ((1 : Nat) : Int) = 1 from rfl, e3] at HC1
                      clear e1 e2 e3 HC HE
                      go_wp2_with fail
                      refine (HC0.out _ H9.out).mono ?_
                      rintro r w10 ⟨ba, bc, sa, sc, ra', rc', rfl, ho⟩
                      have H10 := Lib.hid ho
                      clear ho
                      go_wp2_with fail
                      refine (HC1.out _ H10.out).mono ?_
                      rintro r w11 ⟨ba, bc, sa, sc, ra', rc', rfl, ho⟩
                      have HBB := Lib.hid (below_on HB3.out ho.bel)
                      clear ho HC1
                      go_wp2
                      go_ret
                      exact ⟨rfl, HBB.out⟩
end Go.Proofs.YtjidcagklakjaaaGreat.worldCloses
