/-
  Texts put together: WdWF2, WdWF3, WdWF4, WdGets, WdCln, WdNew, WdWld, SdA, SdB, RdM, SdInv, SdQ, SdNear, RowG3, Nums, Get, Back, Ints, Bld, Recs, RecsIn, WSrc1.
-/
import Derived.Test.YtodjgipiomnnfaaGreatMv5
import Derived.Test.YtodjgipiomnnfaaGreatMv3
import Derived.Test.YtodjgipiomnnfaaGreatMv4
import Derived.Test.YtodjgipiomnnfaaGreatMv2
import Derived.Test.YtodjgipiomnnfaaGreatMv1
import Derived.WalkKit
import Derived.IntWalk
import Derived.Lib.BitFns
import Derived.OpenShut
import Derived.ProofKit
import Derived.Lib.Builder
import Derived.Deep.SlicePairs
import Derived.Lib.SmallJoins
import Derived.Test.YtodjgipiomnnfaaGreatRows
set_option maxRecDepth 100000
set_option maxHeartbeats 16000000
open Go Go.RowKit
set_option linter.unusedVariables false
namespace Go.Proofs.YtodjgipiomnnfaaGreat
structure Fol (W V : Wd) : Prop where
 fs : V.fs = W.fs
 ks : V.ks = W.ks
 Ns : V.Ns = W.Ns
 cl : V.Cs.length = W.Cs.length
 ll : V.Ls.length = W.Ls.length
 gl : W.gs.length ≤ V.gs.length
theorem Fol.refl (W : Wd) : Fol W W := ⟨rfl, rfl, rfl, rfl, rfl, Nat.le_refl _⟩
theorem Fol.trans {A B C : Wd} (h : Fol A B) (k : Fol B C) : Fol A C := ⟨k.fs.trans h.fs, k.ks.trans h.ks, k.Ns.trans h.Ns, k.cl.trans h.cl, k.ll.trans h.ll, Nat.le_trans h.gl k.gl⟩
theorem cas_eq {W V : Wd} (h : V.ks = W.ks) (x : In4) : V.cas x = W.cas x := by unfold Wd.cas; rw [h]
theorem insAt_eq {W V : Wd} (h : V.fs = W.fs) (fn pc : Int) : V.insAt fn pc = W.insAt fn pc := by unfold Wd.insAt; rw [h]
abbrev InsW (W : Wd) (n : Nat) (x : In4) : Prop := InsOk W.fs.length W.Cs.length W.ks.length W.Ls.length n x
theorem InsOk.fol {W V : Wd} {n : Nat} {x : In4} (h : InsW W n x) (f : Fol W V) : InsW V n x := by
 unfold InsW; rw [f.fs, f.cl, f.ks, f.ll]; exact h
theorem fol_goOn {B : Nat} {W : Wd} (h : WF B W) (hB : B ≤ 90000) (rd : List Int) {w : Wt} (hw : WtIf W w) (s : Bool) : Fol W (goOnM W rd w s).1 := by
 obtain ⟨-, h1, h2, h3, h4, h5, -⟩ := h.goOn hB rd hw s
 refine ⟨h2, h3, ?_, h4, h5, by omega⟩
 unfold goOnM
 simp only
 split
 ·split
  ·rename_i x hx
   obtain ⟨-, -, -, -, -, -, e⟩ := fin_same W x w s
   exact e
  ·rfl
 ·rfl
theorem fol_setCh (W : Wd) (i : Int) (C : Ch) : Fol W (W.setCh i C) := ⟨rfl, rfl, rfl, by unfold Wd.setCh; simp, rfl, Nat.le_refl _⟩
theorem fol_fin (W : Wd) (x : In4) (w : Wt) (s : Bool) : Fol W (W.fin x w s) := by
 obtain ⟨a, b, c, d, e, f, g⟩ := fin_same W x w s
 exact ⟨a, b, g, by rw [c], by rw [d], by omega⟩
theorem fol_setG (W : Wd) (g : Nat) (G : Gt) : Fol W (W.setG g G) := ⟨rfl, rfl, rfl, rfl, rfl, by unfold Wd.setG; simp⟩
theorem fol_put (W : Wd) (g : Nat) (k v : Int) : Fol W (W.put g k v) := fol_setG _ _ _
theorem ch_mem {W : Wd} {i : Int} (h : 0 ≤ i ∧ i < (W.Cs.length : Int)) : W.ch i ∈ W.Cs := by
 have e : i = ((i.toNat : Nat) : Int) := by omega
 rw [e]
 exact List.mem_of_getElem? (Wd.ch_at (by omega))
theorem mSend_ok {B : Nat} {W : Wd} {C : Ch} (h : ChOk B W C) (N : Nat) (hN : N ≤ 16) (v : Int) : ChOk B W (mSend N C v).1 ∧ ((mSend N C v).2.2.1 = true → WtOk W (mSend N C v).2.1) := by
 obtain ⟨h1, h2, h3, h4, h5⟩ := h
 unfold mSend
 split
 ·exact ⟨⟨h1, h2, h3, h4, h5⟩, fun e => by cases e⟩
 ·split
  ·rename_i x t e
   rw [e] at h3 h5
   refine ⟨⟨h1, h2, by simp at h3; show t.length ≤ B; omega, h4, fun w hw => h5 w (by simp [hw])⟩, fun _ => h5 x (by simp)⟩
  ·rename_i e
   split
   ·exact ⟨⟨by simp; omega, h2, by rw [e]; simp, h4, fun w hw => by simp only [e] at hw; cases hw⟩, fun e => by cases e⟩
   ·exact ⟨⟨h1, h2, h3, h4, h5⟩, fun e => by cases e⟩
theorem mRecv_ok {B : Nat} {W : Wd} {C : Ch} (h : ChOk B W C) : ChOk B W (mRecv C).1 ∧ ((mRecv C).2.1.2.2.2 = true → WtOk W (mRecv C).2.1.2.2.1) := by
 obtain ⟨h1, h2, h3, h4, h5⟩ := h
 unfold mRecv
 split
 ·rename_i x t e
  rw [e] at h2 h4
  have ht : t.length ≤ B := by simp at h2; omega
  have ht2 : ∀ w ∈ t, WtOk W w := fun w hw => h4 w (by simp [hw])
  split
  ·rename_i y b e2
   refine ⟨⟨?_, ht, h3, ht2, h5⟩, fun _ => h4 x (by simp)⟩
   have := congrArg List.length e2
   simp at this; show b.length ≤ 16; omega
  ·exact ⟨⟨by simp, ht, h3, ht2, h5⟩, fun _ => h4 x (by simp)⟩
 ·split
  ·rename_i y b e2
   refine ⟨⟨?_, by simp, h3, fun w hw => by simp at hw, h5⟩, fun e => by cases e⟩
   rw [e2] at h1; simp at h1; show b.length ≤ 16; omega
  ·exact ⟨⟨h1, h2, h3, h4, h5⟩, fun e => by cases e⟩
theorem ns_le {B : Nat} {W : Wd} (h : WF B W) (i : Nat) : W.Ns.getD i 0 ≤ 16 := by
 rw [List.getD_eq_getElem?_getD]
 cases e : W.Ns[i]? with
 | none => simp
 | some N => exact h.ns.2 N (List.mem_of_getElem? e)
def DdOk (B : Nat) (W : Wd) (d : Dd) : Prop := WF B d.W ∧ Fol W d.W
theorem WF.send {B : Nat} {W : Wd} (h : WF B W) (hB : B ≤ 90000) (rd : List Int) {g : Nat} (hg : g < W.gs.length) {n : Nat} {x : In4} (hx : InsW W n x) (ho : x.1 = 13 ∨ x.1 = 14 ∨ x.1 = 16) {c : Cs3} (hc : c ∈ W.cas x) (h1 : c.1 = 1) {place : Int} (hp : 0 ≤ place ∧ place < ((W.cas x).length : Int)) :
  SendOk W rd g x c place ∧ ∀ d, sendM W rd g x c place = some d → DdOk B W d := by
 have hk := hx.casOk ho h.p.ck c hc
 have c0 : 0 ≤ c.2.1 ∧ c.2.1 < (W.Cs.length : Int) := ⟨hk.2.1, hk.2.2.1 (by omega)⟩
 have hC := h.cs _ (ch_mem c0)
 have hr := mSend_ok hC (W.Ns.getD c.2.1.toNat 0) (ns_le h _) ((W.g g).rg c.2.2)
 have hW1 := h.setCh c.2.1 hr.1
 have hY : ∀ rd', WF B (if (mSend (W.Ns.getD c.2.1.toNat 0) (W.ch c.2.1) ((W.g g).rg c.2.2)).2.2.1 then goOnM (W.setCh c.2.1 (mSend (W.Ns.getD c.2.1.toNat 0) (W.ch c.2.1) ((W.g g).rg c.2.2)).1) rd' (mSend (W.Ns.getD c.2.1.toNat 0) (W.ch c.2.1) ((W.g g).rg c.2.2)).2.1 true else (W.setCh c.2.1 (mSend (W.Ns.getD c.2.1.toNat 0) (W.ch c.2.1) ((W.g g).rg c.2.2)).1, rd')).1 ∧
   Fol W (if (mSend (W.Ns.getD c.2.1.toNat 0) (W.ch c.2.1) ((W.g g).rg c.2.2)).2.2.1 then goOnM (W.setCh c.2.1 (mSend (W.Ns.getD c.2.1.toNat 0) (W.ch c.2.1) ((W.g g).rg c.2.2)).1) rd' (mSend (W.Ns.getD c.2.1.toNat 0) (W.ch c.2.1) ((W.g g).rg c.2.2)).2.1 true else (W.setCh c.2.1 (mSend (W.Ns.getD c.2.1.toNat 0) (W.ch c.2.1) ((W.g g).rg c.2.2)).1, rd')).1 := fun rd' => by
  split
  ·rename_i e
   have hw : WtIf (W.setCh c.2.1 (mSend (W.Ns.getD c.2.1.toNat 0) (W.ch c.2.1) ((W.g g).rg c.2.2)).1) (mSend (W.Ns.getD c.2.1.toNat 0) (W.ch c.2.1) ((W.g g).rg c.2.2)).2.1 := (hr.2 e).toIf
   exact ⟨(hW1.goOn hB rd' hw true).1, (fol_setCh W _ _).trans (fol_goOn hW1 hB rd' hw true)⟩
  ·exact ⟨hW1, fol_setCh W _ _⟩
 have hF : ∀ rd' w, w.1 = (g : Int) → w.2.1 = place → FinOk (if (mSend (W.Ns.getD c.2.1.toNat 0) (W.ch c.2.1) ((W.g g).rg c.2.2)).2.2.1 then goOnM (W.setCh c.2.1 (mSend (W.Ns.getD c.2.1.toNat 0) (W.ch c.2.1) ((W.g g).rg c.2.2)).1) rd' (mSend (W.Ns.getD c.2.1.toNat 0) (W.ch c.2.1) ((W.g g).rg c.2.2)).2.1 true else (W.setCh c.2.1 (mSend (W.Ns.getD c.2.1.toNat 0) (W.ch c.2.1) ((W.g g).rg c.2.2)).1, rd')).1 x w := fun rd' w e1 e2 => by
  obtain ⟨y1, y2⟩ := hY rd'
  exact y1.finOk (hx.fol y2) ho w (by rw [e1]; have := y2.gl; omega) (by rw [cas_eq y2.ks, e2]; exact hp)
 refine ⟨⟨c0, by have := h.p.nc; omega, ⟨hk.2.2.2.1, hk.2.2.2.2⟩, h.lim hB, fun e => hW1.goOk hB (hr.2 e).toIf, fun _ => hF rd _ rfl rfl⟩, fun d hd => ?_⟩
 unfold sendM at hd
 simp only at hd
 split at hd
 ·cases hd; exact ⟨h, Fol.refl _⟩
 ·split at hd
  ·cases hd
   obtain ⟨y1, y2⟩ := hY rd
   exact ⟨y1.fin (hF rd _ rfl rfl) false, y2.trans (fol_fin _ _ _ _)⟩
  ·cases hd
theorem WF.recv {B : Nat} {W : Wd} (h : WF B W) (hB : B ≤ 90000) (rd : List Int) {g : Nat} (hg : g < W.gs.length) {n : Nat} {x : In4} (hx : InsW W n x) (ho : x.1 = 13 ∨ x.1 = 14 ∨ x.1 = 16) {c : Cs3} (hc : c ∈ W.cas x) (h1 : c.1 ≠ 2) {place : Int} (hp : 0 ≤ place ∧ place < ((W.cas x).length : Int)) :
  RecvOk W rd g x c place ∧ ∀ d, recvM W rd g x c place = some d → DdOk B W d := by
 have hk := hx.casOk ho h.p.ck c hc
 have c0 : 0 ≤ c.2.1 ∧ c.2.1 < (W.Cs.length : Int) := ⟨hk.2.1, hk.2.2.1 h1⟩
 have hC := h.cs _ (ch_mem c0)
 have hr := mRecv_ok hC
 have hW1 := h.setCh c.2.1 hr.1
 have hY : ∀ rd', WF B (if (mRecv (W.ch c.2.1)).2.1.2.2.2 then goOnM (W.setCh c.2.1 (mRecv (W.ch c.2.1)).1) rd' (mRecv (W.ch c.2.1)).2.1.2.2.1 false else (W.setCh c.2.1 (mRecv (W.ch c.2.1)).1, rd')).1 ∧ Fol W (if (mRecv (W.ch c.2.1)).2.1.2.2.2 then goOnM (W.setCh c.2.1 (mRecv (W.ch c.2.1)).1) rd' (mRecv (W.ch c.2.1)).2.1.2.2.1 false else (W.setCh c.2.1 (mRecv (W.ch c.2.1)).1, rd')).1 := fun rd' => by
  split
  ·rename_i e
   have hw : WtIf (W.setCh c.2.1 (mRecv (W.ch c.2.1)).1) (mRecv (W.ch c.2.1)).2.1.2.2.1 := (hr.2 e).toIf
   exact ⟨(hW1.goOn hB rd' hw false).1, (fol_setCh W _ _).trans (fol_goOn hW1 hB rd' hw false)⟩
  ·exact ⟨hW1, fol_setCh W _ _⟩
 have hF : ∀ rd' w, w.1 = (g : Int) → w.2.1 = place → FinOk (if (mRecv (W.ch c.2.1)).2.1.2.2.2 then goOnM (W.setCh c.2.1 (mRecv (W.ch c.2.1)).1) rd' (mRecv (W.ch c.2.1)).2.1.2.2.1 false else (W.setCh c.2.1 (mRecv (W.ch c.2.1)).1, rd')).1 x w := fun rd' w e1 e2 => by
  obtain ⟨y1, y2⟩ := hY rd'
  exact y1.finOk (hx.fol y2) ho w (by rw [e1]; have := y2.gl; omega) (by rw [cas_eq y2.ks, e2]; exact hp)
 refine ⟨⟨c0, by have := h.p.nc; omega, h.lim hB, fun e => hW1.goOk hB (hr.2 e).toIf, fun _ => hF rd _ rfl rfl⟩, fun d hd => ?_⟩
 unfold recvM at hd
 simp only at hd
 split at hd
 ·cases hd
  obtain ⟨y1, y2⟩ := hY rd
  exact ⟨y1.fin (hF rd _ rfl rfl) _, y2.trans (fol_fin _ _ _ _)⟩
 ·cases hd
theorem cas_mem {W : Wd} {x : In4} {place : Int} (hp : 0 ≤ place ∧ place < ((W.cas x).length : Int)) : (W.cas x).getD place.toNat (1, 0, 0) ∈ W.cas x := by
 rw [List.getD_eq_getElem?_getD, List.getElem?_eq_getElem (by omega)]
 exact List.getElem_mem _
theorem WF.try_ {B : Nat} {W : Wd} (h : WF B W) (hB : B ≤ 90000) (rd : List Int) {g : Nat} (hg : g < W.gs.length) {n : Nat} {x : In4} (hx : InsW W n x) (ho : x.1 = 13 ∨ x.1 = 14 ∨ x.1 = 16) {place : Int} (hp : 0 ≤ place ∧ place < ((W.cas x).length : Int)) (h2 : ((W.cas x).getD place.toNat (1, 0, 0)).1 ≠ 2) :
  TryOk W rd g x place ∧ ∀ d, tryM W rd g x place = some d → DdOk B W d := by
 have hc := cas_mem hp
 refine ⟨⟨hx.casX ho, by have := h.p.kl; omega, hp, fun e => (h.send hB rd hg hx ho hc e hp).1, fun e => (h.recv hB rd hg hx ho hc h2 hp).1⟩, fun d hd => ?_⟩
 unfold tryM at hd
 simp only at hd
 split at hd
 ·rename_i e; exact (h.send hB rd hg hx ho hc e hp).2 d hd
 ·exact (h.recv hB rd hg hx ho hc h2 hp).2 d hd
theorem waF_ok {B : Nat} {W : Wd} {g : Int} (regs : List Int) (i : Nat) (k : Cs3) (Cs : List Ch) (h : ∀ C ∈ Cs, ChOk B W C) (hw : ∀ v, WtOk W (g, (i : Int), v)) : ∀ C ∈ waF g regs i k Cs, ChOk (B + 1) W C := by
 unfold waF
 split
 ·rename_i C hC
  obtain ⟨h1, h2, h3, h4, h5⟩ := h C (List.mem_of_getElem? hC)
  split
  ·intro D hD
   rcases mem_set hD with e | e
   ·exact (h D e).mono (by omega)
   ·rw [e]
    refine ⟨h1, Nat.le_trans h2 (by omega), by simp; omega, h4, fun w hw' => ?_⟩
    simp only [List.mem_append, List.mem_cons, List.not_mem_nil, or_false] at hw'
    rcases hw' with e1 | e1
    ·exact h5 w e1
    ·rw [e1]; exact hw _
  ·split
   ·intro D hD
    rcases mem_set hD with e | e
    ·exact (h D e).mono (by omega)
    ·rw [e]
     refine ⟨h1, by simp; omega, Nat.le_trans h3 (by omega), fun w hw' => ?_, h5⟩
     simp only [List.mem_append, List.mem_cons, List.not_mem_nil, or_false] at hw'
     rcases hw' with e1 | e1
     ·exact h4 w e1
     ·rw [e1]; exact hw _
   ·exact fun D hD => (h D hD).mono (by omega)
 ·exact fun D hD => (h D hD).mono (by omega)
theorem wasF_ok {W : Wd} {g : Int} (regs : List Int) : ∀ (ks : List Cs3) (i B : Nat) (Cs : List Ch), (∀ C ∈ Cs, ChOk B W C) → (∀ j v, i ≤ j → j < i + ks.length → WtOk W (g, (j : Int), v)) → ∀ C ∈ wasF g regs i ks Cs, ChOk (B + ks.length) W C
 | [], i, B, Cs, h, _ => by unfold wasF; exact h
 | k :: t, i, B, Cs, h, hw => by
  unfold wasF
  have h1 := waF_ok regs i k Cs h (fun v => hw i v (Nat.le_refl _) (by simp))
  have h2 := wasF_ok regs t (i + 1) (B + 1) _ h1 (fun j v a b => hw j v (by omega) (by simp; omega))
  rw [List.length_cons, show B + (t.length + 1) = B + 1 + t.length by omega]
  exact h2
structure At (W : Wd) (g : Nat) (x : In4) : Prop where
 lt : g < W.gs.length
 st : (W.g g).st = 1
 ins : W.insAt (W.g g).fn ((W.g g).pc - 1) = some x
theorem WF.setSt {B : Nat} {W : Wd} (h : WF B W) {g : Nat} (hg : g < W.gs.length) (hs : (W.g g).st = 1) (s : Int) : WF B (W.setSt g s) :=
 h.setG (by rw [hs]; decide) ⟨(h.at hg).n, (h.at hg).len, (h.at hg).fr⟩
theorem WF.wait {B : Nat} {W : Wd} (h : WF B W) {g : Nat} {n : Nat} {x : In4} (ha : At W g x) (hx : InsW W n x) (ho : x.1 = 13 ∨ x.1 = 14 ∨ x.1 = 16) : WF (B + W.ks.length + 1) (waitM W g x) ∧ Fol W (waitM W g x) := by
 have h1 := h.setSt ha.lt ha.st 2
 have hg2 : (W.setSt g 2).g g = { W.g g with st := 2 } := by unfold Wd.setSt; rw [Wd.g_setG _ _ _ _ ha.lt, if_pos rfl]
 have hl : (W.setSt g 2).gs.length = W.gs.length := by unfold Wd.setSt Wd.setG; simp
 have hcl := hx.casLen ho
 have hw : ∀ j v, 0 ≤ j → j < 0 + (W.cas x).length → WtOk (W.setSt g 2) ((g : Int), (j : Int), v) := fun j v _ hj => by
  refine ⟨⟨by simp, by rw [hl]; have := ha.lt; simp; omega⟩, by simp only [Int.toNat_natCast]; rw [hg2], x, ?_, ho, by simp, by show (j : Int) < ((W.cas x).length : Int); omega⟩
  simp only [Int.toNat_natCast]
  rw [hg2]
  exact ha.ins
 have h2 := wasF_ok (W := W.setSt g 2) (g := (g : Int)) (W.g g).regs (W.cas x) 0 B W.Cs h1.cs hw
 have h3 := (h1.mono (C := B + (W.cas x).length) (by omega)).chans (wasF (g : Int) (W.g g).regs 0 (W.cas x) W.Cs) (wasF_len _ _ _ _ _) h2
 exact ⟨h3.mono (by omega), ⟨rfl, rfl, rfl, wasF_len _ _ _ _ _, rfl, by show W.gs.length ≤ (W.gs.set g _).length; simp⟩⟩
theorem WF.waitOk {B : Nat} {W : Wd} (h : WF B W) (hB : B ≤ 80000) {n : Nat} {x : In4} (hx : InsW W n x) (ho : x.1 = 13 ∨ x.1 = 14 ∨ x.1 = 16) : WaitOk W x :=
 ⟨hx.casX ho, by have := h.p.kl; omega, hx.casOk ho h.p.ck, ⟨B + 16, fun C hC => ⟨by have := (h.cs C hC).1; omega, by have := (h.cs C hC).2.1; omega, by have := (h.cs C hC).2.2.1; omega⟩, by omega⟩, by have := h.p.nc; omega⟩
theorem WF.chan {B : Nat} {W : Wd} (h : WF B W) (hB : B ≤ 80000) (rd : List Int) {g : Nat} {n : Nat} {x : In4} (ha : At W g x) (hx : InsW W n x) (ho : x.1 = 13 ∨ x.1 = 14) : (TryOk W rd g x 0 ∧ WaitOk W x) ∧ DdOk (B + W.ks.length + 1) W (chanM W rd g x) := by
 have ho' : x.1 = 13 ∨ x.1 = 14 ∨ x.1 = 16 := by omega
 have hcl := hx.casLen ho'
 have h2 : ((W.cas x).getD (0 : Int).toNat (1, 0, 0)).1 ≠ 2 := by
  unfold Wd.cas
  rcases ho with e | e
  ·rw [if_pos e]; show (1 : Int) ≠ 2; decide
  ·rw [if_neg (by omega), if_pos e]; show (0 : Int) ≠ 2; decide
 have ht := h.try_ (by omega) rd ha.lt hx ho' (place := 0) (by omega) h2
 refine ⟨⟨ht.1, h.waitOk hB hx ho'⟩, ?_⟩
 unfold chanM
 cases e : tryM W rd g x 0 with
 | none => exact h.wait ha hx ho'
 | some d => exact ⟨(ht.2 d e).1.mono (by omega), (ht.2 d e).2⟩
theorem enF_mem (f : Cs3 → Bool) : ∀ (l : List Cs3) (i : Nat) (v : Int), v ∈ enF f i l → ∃ j, ∃ h : j < l.length, v = ((i + j : Nat) : Int) ∧ f l[j] = true
 | [], i, v, h => by simp [enF] at h
 | k :: t, i, v, h => by
  unfold enF at h
  split at h
  ·rename_i e
   simp only [List.mem_cons] at h
   rcases h with rfl | h
   ·exact ⟨0, by simp, by simp, by simpa using e⟩
   ·obtain ⟨j, hj, e1, e2⟩ := enF_mem f t (i + 1) v h
    exact ⟨j + 1, by simpa using hj, by rw [e1]; omega, by simpa using e2⟩
  ·obtain ⟨j, hj, e1, e2⟩ := enF_mem f t (i + 1) v h
   exact ⟨j + 1, by simpa using hj, by rw [e1]; omega, by simpa using e2⟩
theorem goesN_kind {Ns : List Nat} {Cs : List Ch} {k : Cs3} (h : goesN Ns Cs k = true) : k.1 ≠ 2 := by
 unfold goesN at h
 split at h
 ·split at h
  ·omega
  ·split at h
   ·omega
   ·cases h
 ·cases h
theorem askM_place {W : Wd} {x : In4} {d : Int} (hx : x.1 = 16) (h : (askM W x d).2 = true) : (0 ≤ (askM W x d).1 ∧ (askM W x d).1 < ((W.cas x).length : Int)) ∧ ((W.cas x).getD (askM W x d).1.toNat (1, 0, 0)).1 ≠ 2 := by
 unfold askM at h ⊢
 rw [if_neg (by omega), if_pos hx] at h ⊢
 split at h
 ·cases h
 ·rename_i h0
  rw [if_neg h0]
  simp only
  obtain ⟨b, hb⟩ : ∃ b, b = belowZ ((enF (goesN W.Ns W.Cs) 0 (W.cas x)).length : Int) d := ⟨_, rfl⟩
  have hb2 : 0 ≤ b ∧ b < ((enF (goesN W.Ns W.Cs) 0 (W.cas x)).length : Int) := by
   rw [hb]; unfold belowZ; split <;> split <;> omega
  rw [← hb]
  have hm : (enF (goesN W.Ns W.Cs) 0 (W.cas x)).getD b.toNat 0 ∈ enF (goesN W.Ns W.Cs) 0 (W.cas x) := by
   rw [List.getD_eq_getElem?_getD, List.getElem?_eq_getElem (by omega)]
   exact List.getElem_mem _
  obtain ⟨j, hj, e1, e2⟩ := enF_mem _ _ _ _ hm
  rw [e1]
  refine ⟨by omega, ?_⟩
  rw [Nat.zero_add, Int.toNat_natCast, List.getD_eq_getElem?_getD, List.getElem?_eq_getElem hj]
  exact goesN_kind e2
theorem WF.choose {B : Nat} {W : Wd} (h : WF B W) (hB : B ≤ 80000) {g : Nat} {n : Nat} {x : In4} (ha : At W g x) (hx : InsW W n x) (ho : x.1 = 16) {dr : Int} {go : Bool} (hd : go = true → (0 ≤ dr ∧ dr < ((W.cas x).length : Int)) ∧ ((W.cas x).getD dr.toNat (1, 0, 0)).1 ≠ 2) :
  ChooseOk W g x dr go ∧ DdOk (B + W.ks.length + 1) W (chooseM W [] g x dr go) := by
 have ho' : x.1 = 13 ∨ x.1 = 14 ∨ x.1 = 16 := by omega
 refine ⟨⟨hx.casX ho', by have := h.p.kl; omega, fun e => (h.try_ (by omega) [] ha.lt hx ho' (hd e).1 (hd e).2).1, fun _ => h.waitOk hB hx ho', (hx.o16 ho).2⟩, ?_⟩
 unfold chooseM
 split
 ·rename_i e
  have ht := h.try_ (by omega) [] ha.lt hx ho' (hd e).1 (hd e).2
  cases e2 : tryM W [] g x dr with
  | none => exact ⟨h.mono (by omega), Fol.refl _⟩
  | some d => exact ⟨(ht.2 d e2).1.mono (by omega), (ht.2 d e2).2⟩
 ·split
  ·exact h.wait ha hx ho'
  ·exact ⟨(h.put g x.2.2.2 (elF 0 (W.cas x)) (hx.o16 ho).2).mono (by omega), fol_put _ _ _ _⟩
theorem WtIf.goOn {B : Nat} {W : Wd} (h : WF B W) (hB : B ≤ 90000) (rd : List Int) {w : Wt} (hw : WtIf W w) (s : Bool) {v : Wt} (hv : WtIf W v) : WtIf (goOnM W rd w s).1 v := by
 obtain ⟨h1, h2, h3, h4, h5, h6, h7, h8⟩ := h.goOn hB rd hw s
 refine ⟨by rw [h2]; exact hv.1, fun hs => ?_⟩
 by_cases e : v.1 = w.1
 ·rw [e] at hs; exact absurd hs h8
 ·obtain ⟨a, b, c⟩ := h7 v.1.toNat (by have := hv.1; omega)
  rw [a] at hs
  obtain ⟨x, k1, k2, k3⟩ := hv.2 hs
  exact ⟨x, by rw [b, c, insAt_eq h3]; exact k1, k2, by rw [cas_eq h4]; exact k3⟩
theorem WF.goOns {B : Nat} : ∀ (l : List Wt) (W : Wd), WF B W → B ≤ 90000 → ∀ (rd : List Int), (∀ w ∈ l, WtIf W w) → WF B (goOnsM W rd l).1 ∧ Fol W (goOnsM W rd l).1 ∧ ∀ v, WtIf W v → WtIf (goOnsM W rd l).1 v
 | [], W, h, _, rd, _ => ⟨h, Fol.refl _, fun _ hv => hv⟩
 | r :: t, W, h, hB, rd, hw => by
  have hr := hw r (by simp)
  have h1 := (h.goOn hB rd hr false).1
  have hf := fol_goOn h hB rd hr false
  obtain ⟨a, b, c⟩ := WF.goOns t (goOnM W rd r false).1 h1 hB (goOnM W rd r false).2 (fun v hv => WtIf.goOn h hB rd hr false (hw v (by simp [hv])))
  exact ⟨a, hf.trans b, fun v hv => c v (WtIf.goOn h hB rd hr false hv)⟩
theorem WF.close {B : Nat} {W : Wd} (h : WF B W) (hB : B ≤ 90000) {n : Nat} {x : In4} (hx : InsW W n x) (ho : x.1 = 15) (rd : List Int) : CloseOk W x ∧ DdOk B W (closeM W rd x) := by
 have c0 := hx.o15 ho
 have hC := h.cs _ (ch_mem c0)
 have hW1 := h.setCh x.2.1 (C := ⟨(W.ch x.2.1).buf, [], [], true⟩) ⟨hC.1, by simp, by simp, fun w hw => by simp at hw, fun w hw => by simp at hw⟩
 have hR : ∀ w ∈ (W.ch x.2.1).R, WtIf (W.setCh x.2.1 ⟨(W.ch x.2.1).buf, [], [], true⟩) w := fun w hw => (hC.2.2.2.2 w hw).toIf
 refine ⟨⟨c0, by have := h.p.nc; omega, by have := hC.2.2.1; omega, fun _ _ i hi => ?_⟩, ?_⟩
 ·obtain ⟨a, b, c⟩ := WF.goOns ((W.ch x.2.1).R.take i) _ hW1 hB [] (fun w hw => hR w (List.mem_of_mem_take hw))
  exact a.goOk hB (c _ (hR _ (List.getElem_mem _)))
 ·unfold closeM
  simp only
  split
  ·exact ⟨h, Fol.refl _⟩
  ·split
   ·obtain ⟨a, b, c⟩ := WF.goOns (W.ch x.2.1).R _ hW1 hB rd hR
    exact ⟨a, (fol_setCh W _ _).trans b⟩
   ·exact ⟨hW1, fol_setCh W _ _⟩
theorem getD_app1 {l m : List Int} {i : Nat} (h : i < l.length) : (l ++ m).getD i 0 = l.getD i 0 := by
 rw [List.getD_eq_getElem?_getD, List.getElem?_append_left h, ← List.getD_eq_getElem?_getD]
theorem getD_app2 {l m : List Int} {i : Nat} (h : l.length ≤ i) : (l ++ m).getD i 0 = m.getD (i - l.length) 0 := by
 rw [List.getD_eq_getElem?_getD, List.getElem?_append_right h, ← List.getD_eq_getElem?_getD]
theorem getD_take {l : List Int} {n i : Nat} (h : i < n) : (l.take n).getD i 0 = l.getD i 0 := by
 rw [List.getD_eq_getElem?_getD, List.getElem?_take, if_pos h, ← List.getD_eq_getElem?_getD]
theorem GW.new {fs : List (List In4)} {f a c : Int} (st : Int) (hf : 0 ≤ f ∧ f < (fs.length : Int)) (hc : 0 ≤ c ∧ c < 8) : GW fs ⟨st, 1, newF f a c⟩ := by
 refine ⟨⟨Nat.le_refl _, by show 1 ≤ 16; omega⟩, rfl, fun i hi => ?_⟩
 obtain rfl : i = 0 := by simp at hi; exact hi
 exact ⟨hf, ⟨by show (0 : Int) ≤ 0; omega, by show (0 : Int) ≤ _; omega⟩, hc⟩
theorem GW.call {fs : List (List In4)} {G : Gt} (h : GW fs G) (hn : G.n < 16) {f a c : Int} (hf : 0 ≤ f ∧ f < (fs.length : Int)) (hc : 0 ≤ c ∧ c < 8) : GW fs { G with n := G.n + 1, z := G.z ++ newF f a c } := by
 refine ⟨⟨by simp, by simp; omega⟩, by simp [h.len, newF]; omega, fun i hi => ?_⟩
 simp only at hi ⊢
 have hl := h.len
 by_cases e : i < G.n
 ·rw [getD_app1 (by omega), getD_app1 (by omega), getD_app1 (by omega)]
  exact h.fr i e
 ·obtain rfl : i = G.n := by omega
  rw [getD_app2 (by omega), getD_app2 (by omega), getD_app2 (by omega), hl, Nat.sub_self, Nat.add_sub_cancel_left, Nat.add_sub_cancel_left]
  exact ⟨hf, ⟨by show (0 : Int) ≤ 0; omega, by show (0 : Int) ≤ _; omega⟩, hc⟩
theorem GW.ret {fs : List (List In4)} {G : Gt} (h : GW fs G) (hn : 1 < G.n) (v : Int) : GW fs { G with n := G.n - 1, z := (G.z.take ((G.n - 1) * 11)).set ((G.n - 2) * 11 + 2 + (G.z.getD (G.o + 10) 0).toNat) v } := by
 have hl := h.len
 have h16 := h.n
 have ht : GW fs { G with n := G.n - 1, z := G.z.take ((G.n - 1) * 11) } := by
  refine ⟨⟨by simp only; omega, by simp only; omega⟩, by simp only [List.length_take]; omega, fun i hi => ?_⟩
  simp only at hi ⊢
  rw [getD_take (by omega), getD_take (by omega), getD_take (by omega)]
  exact h.fr i (by omega)
 have hf := (h.fr (G.n - 1) (by omega)).2.2
 exact ht.reg (G.n - 2) (G.z.getD (G.o + 10) 0).toNat (by show (G.z.getD ((G.n - 1) * 11 + 10) 0).toNat < 8; omega) v
theorem GW.place {fs : List (List In4)} {G : Gt} (h : GW fs G) (v : Int) (hv : 0 ≤ v ∧ v ≤ ((fs.getD G.fn.toNat []).length : Int)) : GW fs { G with z := G.z.set (G.o + 1) v } := by
 refine ⟨h.n, by simpa using h.len, fun i hi => ?_⟩
 simp only at hi ⊢
 have hl := h.len
 unfold Gt.fn Gt.o at *
 rw [getD_set_ne (i := (G.n - 1) * 11 + 1) (j := i * 11) (by omega), getD_set_ne (i := (G.n - 1) * 11 + 1) (j := i * 11 + 10) (by omega)]
 obtain ⟨a, b, c⟩ := h.fr i hi
 refine ⟨a, ?_, c⟩
 by_cases e : i = G.n - 1
 ·subst e
  rw [getD_set_eq (by omega)]
  exact hv
 ·rw [getD_set_ne (by omega)]
  exact b
theorem WF.locks {B : Nat} {W : Wd} (h : WF B W) (Ls' : List (List Int)) (hl : Ls'.length = W.Ls.length) (hc : ∀ (i : Nat) (L : List Int), Ls'[i]? = some L → LsOk B W i L) : WF B { W with Ls := Ls' } := by
 refine ⟨?_, h.ns, h.g1, h.gw, h.cs, hc, h.hp, h.nx, h.clock, h.out⟩
 show PW W.fs W.ks W.Cs.length Ls'.length
 rw [hl]; exact h.p
theorem LsOk.mono {B C : Nat} {W : Wd} {i : Nat} {L : List Int} (h : LsOk B W i L) (hb : B ≤ C) : LsOk C W i L := ⟨Nat.le_trans h.1 hb, h.2⟩
theorem setSt_at {W : Wd} {g : Nat} (hg : g < W.gs.length) (s : Int) (j : Nat) : (W.setSt g s).g j = if g = j then { W.g g with st := s } else W.g j := by unfold Wd.setSt; exact Wd.g_setG _ _ _ _ hg
theorem setSt_len (W : Wd) (g : Nat) (s : Int) : (W.setSt g s).gs.length = W.gs.length := by unfold Wd.setSt Wd.setG; simp
theorem lk_get {W : Wd} {i : Int} (h : 0 ≤ i ∧ i < (W.Ls.length : Int)) : W.Ls[i.toNat]? = some (W.lk i) := by
 have e : i = ((i.toNat : Nat) : Int) := by omega
 have := Wd.lk_at (W := W) (i := i.toNat) (by omega)
 rw [← e] at this; exact this
theorem WF.lock {B : Nat} {W : Wd} (h : WF B W) (rd : List Int) {g : Nat} {n : Nat} {x : In4} (ha : At W g x) (hx : InsW W n x) (ho : x.1 = 18) : DdOk (B + 1) W (lockM W rd g x) := by
 have hi := hx.o18 (.inl ho)
 have hL := h.ls _ _ (lk_get hi)
 have hset : ∀ (V : Wd), V.Ls = W.Ls → ∀ (i : Nat) (L : List Int), (W.Ls.set x.2.1.toNat (W.lk x.2.1 ++ [(g : Int)]))[i]? = some L → (i = x.2.1.toNat ∧ L = W.lk x.2.1 ++ [(g : Int)]) ∨ W.Ls[i]? = some L := fun V _ i L hh => by
  by_cases e : i = x.2.1.toNat
  ·subst e
   rw [List.getElem?_set_self (by omega)] at hh
   exact .inl ⟨rfl, by simpa using hh.symm⟩
  ·rw [List.getElem?_set_ne (by omega)] at hh; exact .inr hh
 unfold lockM
 simp only
 by_cases e0 : W.lk x.2.1 = []
 ·rw [if_pos e0]
  refine ⟨(h.mono (C := B + 1) (by omega)).locks _ (by simp) (fun i L hh => ?_), ⟨rfl, rfl, rfl, rfl, by simp, Nat.le_refl _⟩⟩
  rcases hset W rfl i L hh with ⟨rfl, rfl⟩ | hh
  ·rw [e0]
   refine ⟨by simp, fun j hj => ?_, by simp, fun j hj => by simp at hj⟩
   simp at hj; subst hj; exact ⟨by omega, by have := ha.lt; omega⟩
  ·exact (h.ls i L hh).mono (by omega)
 ·rw [if_neg e0]
  have h1 := h.setSt ha.lt ha.st 2
  have hne : ∀ j : Int, (W.g j.toNat).st = 2 → j.toNat ≠ g := fun j hj e => by rw [e, ha.st] at hj; omega
  have hk : ∀ (i : Nat) (j : Int), LkOk W i j → LkOk (W.setSt g 2) i j := fun i j ⟨a, y, b, c⟩ => by
   have e := setSt_at ha.lt 2 j.toNat
   rw [if_neg (fun e => hne j a e.symm)] at e
   refine ⟨by rw [e]; exact a, y, ?_, c⟩
   show W.insAt ((W.setSt g 2).g j.toNat).fn (((W.setSt g 2).g j.toNat).pc - 1) = some y
   rw [e]; exact b
  refine ⟨(h1.mono (C := B + 1) (by omega)).locks _ (by simp [Wd.setSt, Wd.setG]) (fun i L hh => ?_), ⟨rfl, rfl, rfl, rfl, by show (List.set _ _ _).length = _; simp, by show W.gs.length ≤ (List.set _ _ _).length; simp⟩⟩
  rcases hset W rfl i L hh with ⟨rfl, rfl⟩ | hh
  ·obtain ⟨a, b, c, d⟩ := hL
   have et : (W.lk x.2.1 ++ [(g : Int)]).tail = (W.lk x.2.1).tail ++ [(g : Int)] := by
    cases e : W.lk x.2.1 with
    | nil => exact absurd e e0
    | cons a t => rfl
   refine ⟨by simp; omega, fun j hj => ?_, ?_, fun j hj => ?_⟩
   ·rw [setSt_len]
    simp only [List.mem_append, List.mem_cons, List.not_mem_nil, or_false] at hj
    rcases hj with hj | rfl
    ·exact b j hj
    ·exact ⟨by omega, by have := ha.lt; omega⟩
   ·rw [et, List.nodup_append]
    refine ⟨c, by simp, fun j hj k hk' => ?_⟩
    simp at hk'; subst hk'
    intro e
    have := (d j hj).1
    rw [e] at this
    simp only [Int.toNat_natCast] at this
    rw [ha.st] at this; omega
   ·rw [et] at hj
    simp only [List.mem_append, List.mem_cons, List.not_mem_nil, or_false] at hj
    rcases hj with hj | rfl
    ·exact hk _ _ (d j hj)
    ·have e := setSt_at ha.lt 2 g
     rw [if_pos rfl] at e
     refine ⟨by simp only [Int.toNat_natCast]; rw [e], x, ?_, ho, by omega⟩
     simp only [Int.toNat_natCast]
     rw [e]; exact ha.ins
  ·obtain ⟨a, b, c, d⟩ := h.ls i L hh
   exact ⟨by omega, by rw [setSt_len]; exact b, c, fun j hj => hk _ _ (d j hj)⟩
theorem WF.unlock {B : Nat} {W : Wd} (h : WF B W) (rd : List Int) {g : Nat} {n : Nat} {x : In4} (hx : InsW W n x) (ho : x.1 = 19) : DdOk B W (unlockM W rd g x) := by
 have hi := hx.o18 (.inr ho)
 obtain ⟨a, b, c, d⟩ := h.ls _ _ (lk_get hi)
 have hget := lk_get hi
 unfold unlockM
 simp only
 generalize W.lk x.2.1 = L at *
 cases L with
 | nil => simp only [gaveR]; rw [if_neg (by decide)]; exact ⟨h, Fol.refl _⟩
 | cons y t =>
  by_cases e : y = (g : Int)
  ·simp only [gaveR, gaveL, if_pos e]
   have hset : ∀ (i : Nat) (L : List Int), (W.Ls.set x.2.1.toNat t)[i]? = some L → (i = x.2.1.toNat ∧ L = t) ∨ (i ≠ x.2.1.toNat ∧ W.Ls[i]? = some L) := fun i L hh => by
    by_cases e : i = x.2.1.toNat
    ·subst e
     rw [List.getElem?_set_self (by omega)] at hh
     exact .inl ⟨rfl, by simpa using hh.symm⟩
    ·rw [List.getElem?_set_ne (by omega)] at hh; exact .inr ⟨e, hh⟩
   have h1 : WF B { W with Ls := W.Ls.set x.2.1.toNat t } := h.locks _ (by simp) (fun i L hh => by
    rcases hset i L hh with ⟨rfl, rfl⟩ | ⟨-, hh⟩
    ·refine ⟨by simp at a; omega, fun j hj => b j (by simp [hj]), ?_, fun j hj => d j (List.mem_of_mem_tail hj)⟩
     exact (show L.Nodup from by simpa using c).sublist (List.tail_sublist L)
    ·exact h.ls i L hh)
   have hf : Fol W { W with Ls := W.Ls.set x.2.1.toNat t } := ⟨rfl, rfl, rfl, rfl, by simp, Nat.le_refl _⟩
   rw [if_pos trivial]
   split
   ·exact ⟨h1, hf⟩
   ·rename_i e1
    cases t with
    | nil => exact absurd rfl e1
    | cons z s =>
     simp only [List.headD_cons] at e1 ⊢
     obtain ⟨z0, z1⟩ := b z (by simp)
     obtain ⟨d1, y', d2, d3, d4⟩ := d z (by simp)
     have hzn : ((z.toNat : Nat) : Int) = z := by omega
     have hgz := h.at (j := z.toNat) (by omega)
     refine ⟨h1.goes z.toNat _ ⟨hgz.n, hgz.len, hgz.fr⟩ (fun C hC => ?_) (fun i L hh hm => ?_) (fun it hit e2 => ?_), hf.trans (fol_setG _ _ _)⟩
     ·rw [hzn]
      obtain ⟨-, -, -, k1, k2⟩ := h.cs C hC
      refine ⟨fun w hw e2 => ?_, fun w hw e2 => ?_⟩
      ·obtain ⟨-, -, x2, k3, k4, -⟩ := k1 w hw
       rw [e2, d2] at k3; cases k3; omega
      ·obtain ⟨-, -, x2, k3, k4, -⟩ := k2 w hw
       rw [e2, d2] at k3; cases k3; omega
     ·rw [hzn] at hm
      rcases hset i L hh with ⟨rfl, rfl⟩ | ⟨e3, hh⟩
      ·simp only [List.tail_cons] at hm c
       exact (List.nodup_cons.1 c).1 hm
      ·obtain ⟨-, x2, k3, -, k4⟩ := (h.ls i L hh).2.2.2 _ hm
       rw [d2] at k3; cases k3; omega
     ·rw [hzn] at e2
      obtain ⟨-, k, -⟩ := h.hp.2.2.1 it hit
      rw [e2, d1] at k; omega
  ·simp only [gaveR, if_neg e]
   rw [if_neg (by decide)]; exact ⟨h, Fol.refl _⟩
theorem WF.sleep {B : Nat} {W : Wd} (h : WF B W) (hB : B ≤ 80000) (rd : List Int) {g : Nat} {x : In4} (ha : At W g x) : DdOk (B + 1) W (sleepM W rd g x) := by
 unfold sleepM
 simp only
 obtain ⟨r, hr⟩ : ∃ r, r = if 1048576 < (W.g g).rg x.2.1 then 1048576 else (W.g g).rg x.2.1 := ⟨_, rfl⟩
 rw [← hr]
 have hr2 : r ≤ 1048576 := by rw [hr]; split <;> omega
 clear hr
 by_cases h0 : r ≤ 0
 ·rw [if_pos h0]; exact ⟨h.mono (by omega), Fol.refl _⟩
 ·rw [if_neg h0]
  have h1 := h.setSt ha.lt ha.st 3
  have hno : ∀ y ∈ W.hp, y.id ≠ (g : Int) := fun y hy e => by
   obtain ⟨-, k, -⟩ := h.hp.2.2.1 y hy
   rw [e] at k; simp only [Int.toNat_natCast] at k; rw [ha.st] at k; omega
  have hperm := push_perm W.hp ⟨(W.clock : Int) + r, (W.nx : Int), (g : Int)⟩
  refine ⟨?_, ⟨rfl, rfl, rfl, rfl, rfl, by show W.gs.length ≤ _; rw [show (W.setSt g 3).gs.length = W.gs.length from setSt_len W g 3]; exact Nat.le_refl _⟩⟩
  refine ⟨h1.p, h1.ns, h1.g1, h1.gw, fun C hC => (h1.cs C hC).mono (by omega), fun i L hL => (h1.ls i L hL).mono (by omega), ⟨?_, ?_, fun y hy => ?_, push_heap h.hp.2.2.2⟩, by show W.nx + 1 ≤ B + 1; have := h.nx; omega, Nat.le_trans h.clock (by omega), h.out⟩
  ·show (pushF W.hp _).length ≤ _; rw [pushF_len]; have := h.hp.1; omega
  ·show ((pushF W.hp _).map (·.id)).Nodup
   rw [(hperm.map (·.id)).nodup_iff, List.map_cons, List.nodup_cons]
   refine ⟨fun hm => ?_, h.hp.2.1⟩
   obtain ⟨y, hy, e⟩ := List.mem_map.1 hm
   exact hno y hy e
  ·have hy' := hperm.mem_iff.1 hy
   simp only [List.mem_cons] at hy'
   rcases hy' with rfl | hy'
   ·refine ⟨⟨by simp, by rw [show ({ W.setSt g 3 with hp := _, nx := _ } : Wd).gs.length = W.gs.length from setSt_len W g 3]; have := ha.lt; simp; omega⟩, ?_, ⟨by simp only; omega, by simp only; have := h.clock; omega⟩, by simp, by show (W.nx : Int) < ((W.nx + 1 : Nat) : Int); omega⟩
    have e := setSt_at ha.lt 3 g
    rw [if_pos rfl] at e
    show ((W.setSt g 3).g (Int.toNat (g : Int))).st = 3
    rw [Int.toNat_natCast, e]
   ·obtain ⟨a, b, c, d⟩ := h1.hp.2.2.1 y hy'
    exact ⟨a, b, c, d.1, by have := d.2; show y.seq < ((W.nx + 1 : Nat) : Int); have e : (W.setSt g 3).nx = W.nx := rfl; rw [e] at this; omega⟩
theorem WF.outs {B : Nat} {W : Wd} (h : WF B W) (o : List Int) (ho : o.length ≤ 1000) : WF B { W with out := o } := ⟨h.p, h.ns, h.g1, h.gw, h.cs, h.ls, h.hp, h.nx, h.clock, ho⟩
theorem WF.ends {B : Nat} {W : Wd} (h : WF B W) (e y : Int) : WF B { W with en := e, why := y } := ⟨h.p, h.ns, h.g1, h.gw, h.cs, h.ls, h.hp, h.nx, h.clock, h.out⟩
theorem WF.end_ {B : Nat} {d : Dd} (h : WF B d.W) : WF B d.end_ := by
 unfold Dd.end_; split
 ·exact h
 ·exact h.ends _ _
theorem fol_end {W : Wd} {d : Dd} (h : Fol W d.W) : Fol W d.end_ := by
 unfold Dd.end_; split
 ·exact h
 ·exact ⟨h.fs, h.ks, h.Ns, h.cl, h.ll, h.gl⟩
theorem WF.call {B : Nat} {W : Wd} (h : WF B W) (rd : List Int) {g : Nat} {n : Nat} {x : In4} (ha : At W g x) (hx : InsW W n x) (ho : x.1 = 9) : DdOk B W (callM W rd g x) := by
 obtain ⟨a, b, c⟩ := hx.o9 (.inl ho)
 unfold callM
 simp only
 split
 ·exact ⟨h, Fol.refl _⟩
 ·exact ⟨h.setG (by rw [ha.st]; decide) ((h.at ha.lt).call (by omega) a c), fol_setG _ _ _⟩
theorem WF.ret {B : Nat} {W : Wd} (h : WF B W) (rd : List Int) {g : Nat} {x : In4} (ha : At W g x) : DdOk B W (retM W rd g x) := by
 unfold retM
 simp only
 split
 ·have h1 := h.setSt ha.lt ha.st 4
  exact ⟨⟨h1.p, h1.ns, h1.g1, h1.gw, h1.cs, h1.ls, h1.hp, h1.nx, h1.clock, h1.out⟩, ⟨rfl, rfl, rfl, rfl, rfl, by show W.gs.length ≤ _; rw [show ({ W.setSt g 4 with en := _ } : Wd).gs.length = W.gs.length from setSt_len W g 4]; exact Nat.le_refl _⟩⟩
 ·exact ⟨h.setG (by rw [ha.st]; decide) ((h.at ha.lt).ret (by omega) _), fol_setG _ _ _⟩
theorem WF.spawn {B : Nat} {W : Wd} (h : WF B W) (rd : List Int) {g : Nat} {n : Nat} {x : In4} (ha : At W g x) (hx : InsW W n x) (ho : x.1 = 11) : DdOk B W (spawnM W rd g x) := by
 obtain ⟨a, b, c⟩ := hx.o9 (.inr ho)
 unfold spawnM
 split
 ·exact ⟨h, Fol.refl _⟩
 ·have h1 : WF B { W with gs := W.gs ++ [⟨1, 1, newF x.2.1 ((W.g g).rg x.2.2.1) 0⟩] } := h.gsm _ ⟨by simp, fun j hj _ => by
   rw [List.getD_eq_getElem?_getD, List.getElem?_append_left hj, ← List.getD_eq_getElem?_getD]; exact ⟨rfl, rfl, rfl⟩⟩ (by simp; omega) (fun G hG => by
   simp only [List.mem_append, List.mem_cons, List.not_mem_nil, or_false] at hG
   rcases hG with hG | rfl
   ·exact h.gw G hG
   ·exact GW.new 1 a (by omega))
  refine ⟨h1.put g x.2.2.2 _ c, ?_⟩
  have := fol_put ({ W with gs := W.gs ++ [⟨1, 1, newF x.2.1 ((W.g g).rg x.2.2.1) 0⟩] } : Wd) g x.2.2.2 (W.gs.length : Int)
  exact ⟨this.fs, this.ks, this.Ns, this.cl, this.ll, Nat.le_trans (by simp) this.gl⟩
theorem WF.emit {B : Nat} {W : Wd} (h : WF B W) (rd : List Int) (g : Nat) (x : In4) : DdOk B W (emitM W rd g x) := by
 unfold emitM
 split
 ·exact ⟨h, Fol.refl _⟩
 ·exact ⟨h.outs _ (by simp; omega), ⟨rfl, rfl, rfl, rfl, rfl, Nat.le_refl _⟩⟩
theorem DdOk.more {B C : Nat} {W : Wd} {d : Dd} (h : DdOk B W d) (hb : B ≤ C) : DdOk C W d := ⟨h.1.mono hb, h.2⟩
theorem WF.deed {B : Nat} {W : Wd} (h : WF B W) (hB : B ≤ 80000) {g : Nat} {n : Nat} {x : In4} (ha : At W g x) (hx : InsW W n x) (h9 : 9 ≤ x.1) {dr : Int} {go : Bool} (hd : x.1 = 16 → go = true → (0 ≤ dr ∧ dr < ((W.cas x).length : Int)) ∧ ((W.cas x).getD dr.toNat (1, 0, 0)).1 ≠ 2) :
  DeedOk W g x dr go ∧ DdOk (B + W.ks.length + 1) W (deedM W g x dr go) := by
 have hG := h.at ha.lt
 have hfr := (hG.fr ((W.g g).n - 1) (by have := hG.n; omega)).2.2
 refine ⟨⟨⟨h9, hx.op.2⟩, fun e => (hx.o9 (.inl e)).2.1, fun e => ⟨hx.o10 (.inl e), fun _ => hfr⟩, fun e => ⟨(hx.o9 (.inr e)).2.1, (hx.o9 (.inr e)).2.2, h.g1.2⟩, fun e => (h.chan hB [] ha hx e).1, fun e => (h.close (by omega) hx e []).1, fun e => (h.choose hB ha hx e (hd e)).1,
  fun e => ⟨hx.o10 (.inr (.inl e)), by have := h.hp.1; omega, by have := h.nx; omega, by have := h.clock; omega⟩,
  fun e => ⟨hx.o18 (.inl e), fun L hL => ?_, h.p.nl⟩, fun e => ⟨hx.o18 (.inr e), fun L hL => ?_, h.p.nl, by have := h.g1.2; omega⟩, fun e => ⟨hx.o10 (.inr (.inr e)), h.out⟩, fun e => (hx.o21 e).1⟩, ?_⟩
 ·obtain ⟨i, hi⟩ := List.mem_iff_getElem?.1 hL
  have := (h.ls i L hi).1; omega
 ·obtain ⟨i, hi⟩ := List.mem_iff_getElem?.1 hL
  exact (h.ls i L hi).2.1
 ·have hop : x.1 = 9 ∨ x.1 = 10 ∨ x.1 = 11 ∨ x.1 = 12 ∨ x.1 = 13 ∨ x.1 = 14 ∨ x.1 = 15 ∨ x.1 = 16 ∨ x.1 = 17 ∨ x.1 = 18 ∨ x.1 = 19 ∨ x.1 = 20 ∨ x.1 = 21 ∨ x.1 = 22 := by have := hx.op; omega
  rcases hop with e | e | e | e | e | e | e | e | e | e | e | e | e | e
  ·rw [show deedM W g x dr go = callM W [] g x by unfold deedM; rw [e]; rfl]; exact (h.call [] ha hx e).more (by omega)
  ·rw [show deedM W g x dr go = retM W [] g x by unfold deedM; rw [e]; rfl]; exact (h.ret [] ha).more (by omega)
  ·rw [show deedM W g x dr go = spawnM W [] g x by unfold deedM; rw [e]; rfl]; exact (h.spawn [] ha hx e).more (by omega)
  ·rw [show deedM W g x dr go = ⟨W, [], none⟩ by unfold deedM; rw [e]; rfl]; exact ⟨h.mono (by omega), Fol.refl _⟩
  ·rw [show deedM W g x dr go = chanM W [] g x by unfold deedM; rw [e]; rfl]; exact (h.chan hB [] ha hx (.inl e)).2
  ·rw [show deedM W g x dr go = chanM W [] g x by unfold deedM; rw [e]; rfl]; exact (h.chan hB [] ha hx (.inr e)).2
  ·rw [show deedM W g x dr go = closeM W [] x by unfold deedM; rw [e]; rfl]; exact (h.close (by omega) hx e []).2.more (by omega)
  ·rw [show deedM W g x dr go = chooseM W [] g x dr go by unfold deedM; rw [e]; rfl]; exact (h.choose hB ha hx e (hd e)).2
  ·rw [show deedM W g x dr go = sleepM W [] g x by unfold deedM; rw [e]; rfl]; exact (h.sleep hB [] ha).more (by omega)
  ·rw [show deedM W g x dr go = lockM W [] g x by unfold deedM; rw [e]; rfl]; exact (h.lock [] ha hx e).more (by omega)
  ·rw [show deedM W g x dr go = unlockM W [] g x by unfold deedM; rw [e]; rfl]; exact (h.unlock [] hx e).more (by omega)
  ·rw [show deedM W g x dr go = emitM W [] g x by unfold deedM; rw [e]; rfl]; exact (h.emit [] g x).more (by omega)
  ·rw [show deedM W g x dr go = ⟨W.put g x.2.1 dr, [], none⟩ by unfold deedM; rw [e]; rfl]; exact ⟨(h.put g x.2.1 dr (hx.o21 e).1).mono (by omega), fol_put _ _ _ _⟩
  ·rw [show deedM W g x dr go = ⟨W, [], some x.2.1⟩ by unfold deedM; rw [e]; rfl]; exact ⟨h.mono (by omega), Fol.refl _⟩
theorem pureM_none {x : In4} {o : Nat} {z : List Int} (h : pureM x o z = none) (h0 : 0 ≤ x.1) : 9 ≤ x.1 := by
 rcases Int.lt_or_le x.1 9 with e | e
 ·exfalso
  have : x.1 = 0 ∨ x.1 = 1 ∨ x.1 = 2 ∨ x.1 = 3 ∨ x.1 = 4 ∨ x.1 = 5 ∨ x.1 = 6 ∨ x.1 = 7 ∨ x.1 = 8 := by omega
  unfold pureM at h
  rcases this with e | e | e | e | e | e | e | e | e <;> simp [e] at h
 ·exact e
theorem pureM_some {x : In4} {o : Nat} {z z' : List Int} (h : pureM x o z = some z') (h0 : 0 ≤ x.1) : x.1 ≤ 8 := by
 rcases Int.lt_or_le 8 x.1 with e | e
 ·exfalso
  unfold pureM at h
  simp only at h
  rw [if_neg (by omega), if_neg (by omega), if_neg (by omega), if_neg (by omega), if_neg (by omega), if_neg (by omega), if_neg (by omega), if_neg (by omega), if_neg (by omega)] at h
  cases h
 ·exact e
theorem GW.pure {fs : List (List In4)} {G : Gt} (h : GW fs G) {nc nk nl : Nat} {x : In4} (hx : InsOk fs.length nc nk nl (fs.getD G.fn.toNat []).length x) (hpc : 0 ≤ G.pc ∧ G.pc < ((fs.getD G.fn.toNat []).length : Int)) {z' : List Int} (hz : pureM x G.o G.z = some z') : GW fs { G with z := z' } := by
 have h8 := pureM_some hz hx.op.1
 have hp := hx.pure h8
 have h1 := h.place (G.pc + 1) (by omega)
 have hr : ∀ (v : Int), 0 ≤ x.2.1 → x.2.1 < 8 → GW fs { G with z := (G.z.set (G.o + 1) (G.pc + 1)).set (G.o + 2 + x.2.1.toNat) v } := fun v a b => h1.reg (G.n - 1) x.2.1.toNat (by omega) v
 have hset : ∀ v, 0 ≤ v ∧ v ≤ ((fs.getD G.fn.toNat []).length : Int) → GW fs { G with z := (G.z.set (G.o + 1) (G.pc + 1)).set (G.o + 1) v } := fun v hv => by rw [List.set_set]; exact h.place v hv
 unfold pureM at hz
 simp only at hz
 unfold PureOk at hp
 split at hz
 ·cases hz; exact h1
 split at hz
 ·cases hz; exact hr _ (by omega) (by omega)
 split at hz
 ·cases hz; exact hr _ (by omega) (by omega)
 split at hz
 ·cases hz; exact hr _ (by omega) (by omega)
 split at hz
 ·cases hz; exact hr _ (by omega) (by omega)
 split at hz
 ·cases hz; exact hr _ (by omega) (by omega)
 split at hz
 ·cases hz; exact hr _ (by omega) (by omega)
 split at hz
 ·rename_i e; cases hz; have := hx.j7 e; exact hset _ (by omega)
 split at hz
 ·rename_i e
  have := hx.j8 e
  split at hz
  ·cases hz; exact h1
  ·cases hz; exact hset _ (by omega)
 ·cases hz
theorem Gt.step_at (G : Gt) (hl : G.z.length = G.n * 11) (hn : 1 ≤ G.n) (v : Int) : ({ G with z := G.z.set (G.o + 1) v } : Gt).fn = G.fn ∧ ({ G with z := G.z.set (G.o + 1) v } : Gt).pc = v := by
 refine ⟨?_, ?_⟩
 ·show (G.z.set (G.o + 1) v).getD G.o 0 = G.z.getD G.o 0
  rw [getD_set_ne (by omega)]
 ·show (G.z.set (G.o + 1) v).getD (G.o + 1) 0 = v
  rw [getD_set_eq (by unfold Gt.o; omega)]
theorem WF.step {B : Nat} {W : Wd} (h : WF B W) {g : Nat} (hg : g < W.gs.length) (hs : (W.g g).st = 1) {x : In4} (hx : W.ins g = some x) : WF B (W.step g) ∧ At (W.step g) g x ∧ Fol W (W.step g) := by
 have hG := h.at hg
 obtain ⟨k1, k2, k3⟩ := h.insOk hx
 have e := (W.g g).step_at hG.len hG.n.1 ((W.g g).pc + 1)
 have eg : (W.step g).g g = { W.g g with z := (W.g g).z.set ((W.g g).o + 1) ((W.g g).pc + 1) } := by unfold Wd.step; rw [Wd.g_setG _ _ _ _ hg, if_pos rfl]
 refine ⟨h.setG (by rw [hs]; decide) (hG.place _ (by omega)), ⟨by unfold Wd.step Wd.setG; simpa using hg, by rw [eg]; exact hs, ?_⟩, fol_setG _ _ _⟩
 rw [eg, e.1, e.2]
 show W.insAt (W.g g).fn ((W.g g).pc + 1 - 1) = some x
 rw [Int.add_sub_cancel]; exact hx
theorem WF.do_ {B : Nat} {W : Wd} (h : WF B W) (hB : B ≤ 80000) {g : Nat} (hl : W.lets (g : Int)) (v : Int) :
  DoOk W g (askM W ((W.ins g).getD (0, 0, 0, 0)) v).1 (askM W ((W.ins g).getD (0, 0, 0, 0)) v).2 ∧
  DdOk (B + W.ks.length + 1) W (doM W g (W.ins g) (askM W ((W.ins g).getD (0, 0, 0, 0)) v).1 (askM W ((W.ins g).getD (0, 0, 0, 0)) v).2) := by
 obtain ⟨l1, l2, l3, l4⟩ := hl
 simp only [Int.toNat_natCast] at l4
 have hg : g < W.gs.length := by omega
 have hG := h.at hg
 have hf := hG.fr ((W.g g).n - 1) (by have := hG.n; omega)
 have hm : (W.fs.getD (W.g g).fn.toNat []).length ≤ 900 := by
  rw [List.getD_eq_getElem?_getD]
  cases e : W.fs[(W.g g).fn.toNat]? with
  | none => simp
  | some l => exact h.p.fl l (List.mem_of_getElem? e)
 have hpc : 0 ≤ (W.g g).pc ∧ (W.g g).pc ≤ ((W.fs.getD (W.g g).fn.toNat []).length : Int) := hf.2.1
 cases hx : W.ins g with
 | none =>
  refine ⟨⟨hg, hG.n, by omega, fun x hx' _ => (by rw [hx] at hx'; cases hx'), fun x hx' _ => (by rw [hx] at hx'; cases hx')⟩, ?_⟩
  exact ⟨h.mono (by omega), Fol.refl _⟩
 | some x =>
  obtain ⟨k1, k2, k3⟩ := h.insOk hx
  obtain ⟨s1, s2, s3⟩ := h.step hg l4 hx
  simp only [Option.getD_some]
  have hask : x.1 = 16 → (askM W x v).2 = true → (0 ≤ (askM W x v).1 ∧ (askM W x v).1 < (((W.step g).cas x).length : Int)) ∧ (((W.step g).cas x).getD (askM W x v).1.toNat (1, 0, 0)).1 ≠ 2 := fun e1 e2 => by
   rw [cas_eq s3.ks]; exact askM_place e1 e2
  refine ⟨⟨hg, hG.n, by omega, fun y hy hp => ?_, fun y hy hp => ?_⟩, ?_⟩
  ·rw [hx] at hy; cases hy
   cases e : pureM x (W.g g).o (W.g g).z with
   | none => exact absurd e hp
   | some z => exact k1.pure (pureM_some e k1.op.1)
  ·rw [hx] at hy; cases hy
   exact (s1.deed hB s2 (k1.fol s3) (pureM_none hp k1.op.1) hask).1
  ·unfold doM
   simp only
   split
   ·rename_i z e
    exact ⟨(h.setG (by rw [l4]; decide) (hG.pure k1 ⟨hpc.1, k3⟩ e)).mono (by omega), fol_setG _ _ _⟩
   ·rename_i e
    have := (s1.deed hB s2 (k1.fol s3) (pureM_none e k1.op.1) hask).2
    rw [s3.ks] at this
    exact ⟨this.1, s3.trans this.2⟩
theorem WF.exec {B : Nat} {W : Wd} (h : WF B W) (hB : B ≤ 80000) (g v : Int) : WF (B + W.ks.length + 1) (execM W g v).1 ∧ Fol W (execM W g v).1 := by
 unfold execM
 split
 ·rename_i hl
  have e : g = ((g.toNat : Nat) : Int) := by have := hl.2.1; omega
  have hl' : W.lets ((g.toNat : Nat) : Int) := by rw [← e]; exact hl
  obtain ⟨a, b⟩ := (h.do_ hB hl' v).2
  exact ⟨a.end_, fol_end b⟩
 ·exact ⟨h.mono (by omega), Fol.refl _⟩
theorem WF.execOk {B : Nat} {W : Wd} (h : WF B W) (hB : B ≤ 80000) {g : Nat} (hl : W.lets (g : Int)) : ExecOk W g := by
 have hl' := hl
 obtain ⟨l1, l2, l3, l4⟩ := hl
 have hg : g < W.gs.length := by omega
 have hG := h.at hg
 have hf := hG.fr ((W.g g).n - 1) (by have := hG.n; omega)
 have hm : (W.fs.getD (W.g g).fn.toNat []).length ≤ 900 := by
  rw [List.getD_eq_getElem?_getD]
  cases e : W.fs[(W.g g).fn.toNat]? with
  | none => simp
  | some l => exact h.p.fl l (List.mem_of_getElem? e)
 have hpc : 0 ≤ (W.g g).pc ∧ (W.g g).pc ≤ ((W.fs.getD (W.g g).fn.toNat []).length : Int) := hf.2.1
 have hfn : 0 ≤ (W.g g).fn ∧ (W.g g).fn < (W.fs.length : Int) := hf.1
 refine ⟨hl', ⟨hg, by have := h.g1.2; omega, hG.n, hfn, by omega⟩, ?_, fun v => (h.do_ hB hl' v).1, fun v => ?_⟩
 ·cases hx : W.ins g with
  | none => exact ⟨fun e => absurd e (by decide), fun e => absurd e (by decide)⟩
  | some x =>
   obtain ⟨k1, -, -⟩ := h.insOk hx
   exact ⟨fun e => ⟨k1.casX (.inr (.inr e)), by have := h.p.kl; omega, k1.casOk (.inr (.inr e)) h.p.ck⟩, fun e => by have := k1.o21 e; simp only [Option.getD_some] at *; omega⟩
 ·obtain ⟨a, b⟩ := h.exec hB (g : Int) v
  have hg' : g < (execM W (g : Int) v).1.gs.length := by have := b.gl; omega
  exact ⟨hg', (a.at hg').n⟩
theorem wakes_perm : ∀ (k : Nat) (l : List It) (now : Int), l.length ≤ k → ((wakes l now).1 ++ (wakes l now).2).Perm l ∧ (HeapI l → HeapI (wakes l now).2)
 | 0, l, now, h => by
  obtain rfl : l = [] := List.eq_nil_of_length_eq_zero (by omega)
  rw [wakes_stop (by simp)]; exact ⟨List.Perm.refl _, id⟩
 | k + 1, l, now, h => by
  by_cases c : 0 < l.length ∧ (gI l 0).at_ ≤ now
  ·rw [wakes_go c.1 c.2]
   obtain ⟨a, b⟩ := wakes_perm k (remF l 0) now (by rw [remF_len c.1]; omega)
   exact ⟨(List.Perm.cons _ a).trans (rem_perm c.1).symm, fun hh => b (rem_heap c.1 hh)⟩
  ·rw [wakes_stop c]; exact ⟨List.Perm.refl _, id⟩
theorem wokeM_wf {B : Nat} : ∀ (l : List It) (W : Wd), WF B W → (∀ x ∈ l, (0 ≤ x.id ∧ x.id < (W.gs.length : Int)) ∧ (W.g x.id.toNat).st = 3) → (l.map (·.id)).Nodup → (∀ x ∈ l, ∀ y ∈ W.hp, y.id ≠ x.id) →
  WF B (wokeM W l) ∧ Fol W (wokeM W l) ∧ (wokeM W l).hp = W.hp ∧ (wokeM W l).clock = W.clock
 | [], W, h, _, _, _ => ⟨h, Fol.refl _, rfl, rfl⟩
 | x :: t, W, h, h1, h2, h3 => by
  obtain ⟨hx1, hx2⟩ := h1 x (by simp)
  have hg : x.id.toNat < W.gs.length := by omega
  have hxn : ((x.id.toNat : Nat) : Int) = x.id := by omega
  have hG := h.at hg
  have hw : WF B (W.setSt x.id.toNat 1) := h.goes x.id.toNat _ ⟨hG.n, hG.len, hG.fr⟩ (fun C hC => by
    rw [hxn]
    obtain ⟨-, -, -, k1, k2⟩ := h.cs C hC
    exact ⟨fun w hw e => by have := (k1 w hw).2.1; rw [e, hx2] at this; omega, fun w hw e => by have := (k2 w hw).2.1; rw [e, hx2] at this; omega⟩) (fun i L hL hm => by
    rw [hxn] at hm
    have := ((h.ls i L hL).2.2.2 _ hm).1; rw [hx2] at this; omega) (fun y hy => by rw [hxn]; exact h3 x (by simp) y hy)
  rw [List.map_cons, List.nodup_cons] at h2
  obtain ⟨a, b, c, d⟩ := wokeM_wf t (W.setSt x.id.toNat 1) hw (fun y hy => by
    obtain ⟨k1, k2⟩ := h1 y (by simp [hy])
    refine ⟨by rw [setSt_len]; exact k1, ?_⟩
    rw [setSt_at hg, if_neg (fun e => h2.1 (by
     have : y.id = x.id := by omega
     rw [← this]; exact List.mem_map_of_mem (f := (·.id)) hy))]
    exact k2) h2.2 (fun y hy z hz => h3 y (by simp [hy]) z hz)
  exact ⟨a, (fol_setG _ _ _).trans b, c, d⟩
theorem WF.tick {B : Nat} {W : Wd} (h : WF B W) : WF (B + 1) (tickM W).1 ∧ Fol W (tickM W).1 := by
 unfold tickM
 split
 ·simp only
  obtain ⟨a, b⟩ := wakes_perm _ W.hp ((W.clock : Int) + 1) (Nat.le_refl _)
  have hall : ∀ x, x ∈ (wakes W.hp ((W.clock : Int) + 1)).1 ∨ x ∈ (wakes W.hp ((W.clock : Int) + 1)).2 → x ∈ W.hp := fun x hx => a.mem_iff.1 (List.mem_append.2 hx)
  have hnd := (a.map (·.id)).nodup_iff.2 h.hp.2.1
  rw [List.map_append, List.nodup_append] at hnd
  obtain ⟨n1, n2, n3⟩ := hnd
  have hlen := a.length_eq
  rw [List.length_append] at hlen
  have h1 : WF (B + 1) { W with clock := W.clock + 1, hp := (wakes W.hp ((W.clock : Int) + 1)).2 } :=
   ⟨h.p, h.ns, h.g1, h.gw, fun C hC => (h.cs C hC).mono (by omega), fun i L hL => (h.ls i L hL).mono (by omega), ⟨by show (wakes W.hp _).2.length ≤ _; have := h.hp.1; omega, n2, fun x hx => h.hp.2.2.1 x (hall x (.inr hx)), b h.hp.2.2.2⟩, Nat.le_trans h.nx (by omega), by show W.clock + 1 ≤ B + 1; have := h.clock; omega, h.out⟩
  obtain ⟨c, d, -, -⟩ := wokeM_wf (wakes W.hp ((W.clock : Int) + 1)).1 _ h1 (fun x hx => by
   obtain ⟨k1, k2, -⟩ := h.hp.2.2.1 x (hall x (.inl hx)); exact ⟨k1, k2⟩) n1 (fun x hx y hy e => n3 x.id (List.mem_map_of_mem (f := (·.id)) hx) y.id (List.mem_map_of_mem (f := (·.id)) hy) e.symm)
  exact ⟨c, d.fs, d.ks, d.Ns, d.cl, d.ll, d.gl⟩
 ·exact ⟨h.mono (by omega), Fol.refl _⟩
theorem newM_wf {fs : List (List In4)} {ks : List Cs3} {rooms : List Int} {locks : Nat} (h : PW fs ks rooms.length locks) : WF 0 (newM fs ks rooms locks) := by
 refine ⟨by unfold newM; simpa using h, ⟨by unfold newM; simp, fun N hN => ?_⟩, by unfold newM; simp, fun G hG => ?_, fun C hC => ?_, fun i L hL => ?_, ⟨by unfold newM; simp, by unfold newM; simp, fun x hx => by unfold newM at hx; simp at hx, fun i _ hi => by unfold newM at hi; simp at hi⟩, by unfold newM; simp, by unfold newM; simp, by unfold newM; simp⟩
 ·obtain ⟨z, -, rfl⟩ := List.mem_map.1 hN
  exact roomC_le z
 ·simp only [newM, List.mem_cons, List.not_mem_nil, or_false] at hG
  subst hG
  exact GW.new 1 ⟨by omega, by have := h.f; show (0 : Int) < (fs.length : Int); omega⟩ ⟨by omega, by omega⟩
 ·obtain ⟨z, -, rfl⟩ := List.mem_map.1 hC
  exact ⟨by simp, by simp, by simp, fun w hw => by simp at hw, fun w hw => by simp at hw⟩
 ·have hm : L ∈ List.replicate locks ([] : List Int) := List.mem_of_getElem? hL
  rw [List.mem_replicate] at hm
  rw [hm.2]
  exact ⟨by simp, fun g hg => by simp at hg, by simp, fun g hg => by simp at hg⟩
section
variable {w0 w : World} {p : Nat} {W : Wd} {D : Wa} {T : List Value} {Y : List Asr}
theorem wend_any (h : Own w0 w (wparts p W D T ++ Y)) :
  Calls Tryz.prog 34 #[.pointer (some ⟨p, 0, none⟩)] w fun r w' => r = .returned (.tuple #[.int .i64 W.en, .int .i64 W.why]) ∧ ∃ k, w' = w.drewN k := by
 have p9 := (h.cel 0 rfl 9 _ rfl).1
 have p10 := (h.cel 0 rfl 10 _ rfl).1
 generalize W.en = n at *
 generalize W.why = m at *
 clear h
 go_enter Tryz.func34, Tryz.ntmps34
 go_upto_region 1 with fail
 go_quiet (fail)
 go_wp2
 go_ret2
 exact ⟨rfl, ⟨_, rfl⟩⟩
end
end Go.Proofs.YtodjgipiomnnfaaGreat
open Go Go.RowKit
set_option linter.unusedVariables false
namespace Go.Proofs.YtodjgipiomnnfaaGreat
theorem info_case : (Tryz.prog.info? 111).map (fun i => (i.zero, i.size, i.bytes)) = some (some (.agg #[.int .i64 0, .int .i64 0, .int .i64 0]), 3, 24) := by kernel_rfl
theorem info_ins : (Tryz.prog.info? 34).map (fun i => (i.zero, i.size, i.bytes)) = some (some (.agg #[.int .i64 0, .int .i64 0, .int .i64 0, .int .i64 0]), 4, 32) := by kernel_rfl
theorem clonek_any (w : World) (a : Option Addr) (n c : Nat) (cs : List Value) (h : CellsAt w a cs) (hlen : cs.length = n * 3) (hnil : a = none → c = 0) (hone : ∀ u ∈ cs, u.oneCell' = true) (hl : n ≤ 1000000) :
  Calls Tryz.prog 43 #[.slice a n c] w fun r w' => ∃ a' c', r = .returned (.slice a' n c') ∧ RowG 3 w' a' c' n cs ∧ (∀ x ∈ blk a', w.heap.size ≤ x) ∧ Below w.heap.size w w' := by
 cases a with
 | none =>
  have hcs : cs = [] := by
   cases cs with
   | nil => rfl
   | cons u t => obtain ⟨b, off, hx, -⟩ := h 0 u rfl; cases hx
  subst hcs
  obtain rfl : c = 0 := hnil rfl
  obtain rfl : n = 0 := by simp at hlen; omega
  clear h hone hlen hnil
  have he : ∀ w : World, (binOp .eql 39 (.slice none 0 0) (.slice none 0 0)).run Tryz.prog w = .ok (.bool true) w := fun _ => rfl
  go_enter Tryz.func43, Tryz.ntmps43
  go_wp2
  go_ret
  exact ⟨none, 0, rfl, RowG.nil _ _, fun x hx => by simp [blk] at hx, Below.refl _ _⟩
 | some ad =>
  obtain ⟨i0, hi0, hz0, hz1, hz2⟩ := info_parts info_case
  have Hi := Lib.hid hi0; clear hi0
  have Hz0 := Lib.hid hz0; clear hz0
  have Hz1 := Lib.hid hz1; clear hz1
  have Hz2 := Lib.hid hz2; clear hz2
  have H := Lib.hid h
  have HN := Lib.hid hlen
  have HO := Lib.hid hone
  clear h hone hlen hnil
  have he : ∀ w : World, (binOp .eql 39 (.slice (some ad) n c) (.slice none 0 0)).run Tryz.prog w = .ok (.bool false) w := fun _ => rfl
  go_enter Tryz.func43, Tryz.ntmps43
  go_wp2_with (at_builtin; refine wpList_append_rowG (m := n) (n := 0) (cs := []) (ds := cs) rfl _ _ 39 rfl 111 i0 _ Tryz.underlying39 Hi.out Hz0.out Hz1.out Hz2.out rfl (by omega) (by omega) rfl rfl (RowG.zero (by simp)) (H.out.below (below_alloc1 _ _)) HN.out HO.out (by omega) ?_)
  intro a1 c1 w1 k1 ch1 f1
  have hf : RowG 3 w1 a1 c1 n cs ∧ (∀ x ∈ blk a1, w.heap.size ≤ x) ∧ Below w.heap.size w w1 := by
   refine ⟨by simpa using k1, fun x hx => ?_, Chg.below (below_alloc1 _ _) ch1 (fun x hx => by simp [blk] at hx; omega)⟩
   rcases f1 x hx with h | h
   ·simp [blk] at h; omega
   ·first | omega | (simp at h; omega)
  have HF := Lib.hid hf
  clear hf k1 ch1 f1
  go_wp2
  go_ret
  exact ⟨a1, c1, by simp, HF.out⟩
theorem clonef_any (w : World) (a : Option Addr) (n c : Nat) (cs : List Value) (h : CellsAt w a cs) (hlen : cs.length = n * 4) (hnil : a = none → c = 0) (hone : ∀ u ∈ cs, u.oneCell' = true) (hl : n ≤ 1000000) :
  Calls Tryz.prog 45 #[.slice a n c] w fun r w' => ∃ a' c', r = .returned (.slice a' n c') ∧ RowG 4 w' a' c' n cs ∧ (∀ x ∈ blk a', w.heap.size ≤ x) ∧ Below w.heap.size w w' := by
 cases a with
 | none =>
  have hcs : cs = [] := by
   cases cs with
   | nil => rfl
   | cons u t => obtain ⟨b, off, hx, -⟩ := h 0 u rfl; cases hx
  subst hcs
  obtain rfl : c = 0 := hnil rfl
  obtain rfl : n = 0 := by simp at hlen; omega
  clear h hone hlen hnil
  have he : ∀ w : World, (binOp .eql 31 (.slice none 0 0) (.slice none 0 0)).run Tryz.prog w = .ok (.bool true) w := fun _ => rfl
  go_enter Tryz.func45, Tryz.ntmps45
  go_wp2
  go_ret
  exact ⟨none, 0, rfl, RowG.nil _ _, fun x hx => by simp [blk] at hx, Below.refl _ _⟩
 | some ad =>
  obtain ⟨i0, hi0, hz0, hz1, hz2⟩ := info_parts info_ins
  have Hi := Lib.hid hi0; clear hi0
  have Hz0 := Lib.hid hz0; clear hz0
  have Hz1 := Lib.hid hz1; clear hz1
  have Hz2 := Lib.hid hz2; clear hz2
  have H := Lib.hid h
  have HN := Lib.hid hlen
  have HO := Lib.hid hone
  clear h hone hlen hnil
  have he : ∀ w : World, (binOp .eql 31 (.slice (some ad) n c) (.slice none 0 0)).run Tryz.prog w = .ok (.bool false) w := fun _ => rfl
  go_enter Tryz.func45, Tryz.ntmps45
  go_wp2_with (at_builtin; refine wpList_append_rowG (m := n) (n := 0) (cs := []) (ds := cs) rfl _ _ 31 rfl 34 i0 _ Tryz.underlying31 Hi.out Hz0.out Hz1.out Hz2.out rfl (by omega) (by omega) rfl rfl (RowG.zero (by simp)) (H.out.below (below_alloc1 _ _)) HN.out HO.out (by omega) ?_)
  intro a1 c1 w1 k1 ch1 f1
  have hf : RowG 4 w1 a1 c1 n cs ∧ (∀ x ∈ blk a1, w.heap.size ≤ x) ∧ Below w.heap.size w w1 := by
   refine ⟨by simpa using k1, fun x hx => ?_, Chg.below (below_alloc1 _ _) ch1 (fun x hx => by simp [blk] at hx; omega)⟩
   rcases f1 x hx with h | h
   ·simp [blk] at h; omega
   ·first | omega | (simp at h; omega)
  have HF := Lib.hid hf
  clear hf k1 ch1 f1
  go_wp2
  go_ret
  exact ⟨a1, c1, by simp, HF.out⟩
theorem info_code : (Tryz.prog.info? 31).map (fun i => (i.zero, i.size, i.bytes)) = some (some (.slice none 0 0), 1, 24) := by kernel_rfl
theorem Own.rowNil {w0 w : World} {As : List Asr} (h : Own w0 w As) (s : Nat) : Own w0 w (RowGA s none 0 0 [] :: As) := h.add (Below.refl _ _) (A := RowGA s none 0 0 []) (F := []) ⟨rfl, RowG.nil s w⟩ (fun x hx => by simp at hx)
theorem frw_app {fr : List (Option Addr × Nat)} {fs : List (List In4)} (h : fr.length = fs.length) (r : Option Addr × Nat) (l : List In4) : frw (fr ++ [r]) (fs ++ [l]) = frw fr fs ++ [.slice r.1 l.length r.2] := by
 unfold frw; rw [List.zipWith_append h]; rfl
theorem info_chp : (Tryz.prog.info? 118).map (fun i => (i.zero, i.size, i.bytes)) = some (some (.pointer none), 1, 8) := by kernel_rfl
theorem info_lkp : (Tryz.prog.info? 120).map (fun i => (i.zero, i.size, i.bytes)) = some (some (.pointer none), 1, 8) := by kernel_rfl
theorem ptrs_app (ps : List Pl) (x : Pl) : ptrs (ps ++ [x]) = ptrs ps ++ [.pointer (some ⟨x.1, 0, none⟩)] := by unfold ptrs; rw [List.map_append]; rfl
theorem chs_app {ps : List Pl} {Cs : List Ch} (h : ps.length = Cs.length) (x : Pl) (C : Ch) : chs (ps ++ [x]) (Cs ++ [C]) = chs ps Cs ++ [ChanA x.1 x.2 C] := by unfold chs; rw [List.zipWith_append h]; rfl
theorem lptr_app (lp : List Nat) (x : Nat) : lptr (lp ++ [x]) = lptr lp ++ [.pointer (some ⟨x, 0, none⟩)] := by unfold lptr; rw [List.map_append]; rfl
theorem lks_app {lp : List Nat} {Ls : List (List Int)} (h : lp.length = Ls.length) (x : Nat) (L : List Int) : lks (lp ++ [x]) (Ls ++ [L]) = lks lp Ls ++ [LockA x L] := by unfold lks; rw [List.zipWith_append h]; rfl
theorem Sep.mem {w : World} : ∀ {l : List Asr} {F : List Nat} {i : Nat} {A : Asr}, Sep w l F → l[i]? = some A → ∃ G, A.at_ w G ∧ ∀ x ∈ G, x ∈ F
 | [], _, _, _, _, hi => by simp at hi
 | B :: t, F, 0, A, h, hi => by
  obtain ⟨F1, F2, rfl, h1, -, h2⟩ := h
  simp at hi; subst hi
  exact ⟨F1, h1, fun x hx => by simp [hx]⟩
 | B :: t, F, i + 1, A, h, hi => by
  obtain ⟨F1, F2, rfl, h1, -, h2⟩ := h
  obtain ⟨G, g1, g2⟩ := Sep.mem h2 (by simpa using hi)
  exact ⟨G, g1, fun x hx => by simp [g2 x hx]⟩
structure ProgIn (w : World) (fa : Option Addr) (fr : List (Option Addr × Nat)) (fs : List (List In4)) (ra : Option Addr) (rooms : List Int) (ca : Option Addr) (cc : Nat) (ks : List Cs3) : Prop where
 f : CellsAt w fa (frw fr fs)
 fl : fr.length = fs.length
 each : ∀ (i : Nat) (r : Option Addr × Nat) (l : List In4), fr[i]? = some r → fs[i]? = some l → CellsAt w r.1 (i4s l) ∧ (r.1 = none → r.2 = 0) ∧ l.length ≤ 1000000
 c : CellsAt w ra (intc rooms)
 k : CellsAt w ca (c3s ks)
 kn : ca = none → cc = 0
 kl : ks.length ≤ 1000
 nf : fs.length ≤ 1000
 nc : rooms.length ≤ 1000
def clns (fr : List (Option Addr × Nat)) (fs : List (List In4)) : List Asr := List.zipWith (fun r l => RowGA 4 r.1 r.2 l.length (i4s l)) fr fs
theorem clns_app {fr : List (Option Addr × Nat)} {fs : List (List In4)} (h : fr.length = fs.length) (r : Option Addr × Nat) (l : List In4) : clns (fr ++ [r]) (fs ++ [l]) = clns fr fs ++ [RowGA 4 r.1 r.2 l.length (i4s l)] := by
 unfold clns; rw [List.zipWith_append h]; rfl
theorem code_fold {w0 w : World} {fA : Option Addr} {fC n m cc : Nat} {fr : List (Option Addr × Nat)} {fs : List (List In4)} {ca : Option Addr} {ks : List Cs3} {R : List Asr} (h : Own w0 w (RowGA 1 fA fC n (frw fr fs) :: LstA (clns fr fs) :: RowGA 3 ca cc m (c3s ks) :: R)) : Own w0 w (CodeA fA fr fs ca ks :: R) := by
 refine Own.turn (As := [RowGA 1 fA fC n (frw fr fs), LstA (clns fr fs), RowGA 3 ca cc m (c3s ks)]) (As' := [CodeA fA fr fs ca ks]) (R := R) h (fun F hF => ?_)
 refine ⟨F, sep_one.2 ?_, Chg.refl _ _, fun x hx => .inl hx⟩
 have hlt := hF.lt
 obtain ⟨F1, Fa, rfl, ⟨rfl, h1⟩, -, F2, Fb, rfl, h2, -, F3, F4, rfl, ⟨rfl, h3⟩, -, rfl⟩ := hF
 refine ⟨hlt, ⟨fun x hx => by simp [hx], h1.cells⟩, ⟨fun x hx => by simp [hx], h3.cells⟩, fun i r l hr hl => ?_⟩
 have hi : (clns fr fs)[i]? = some (RowGA 4 r.1 r.2 l.length (i4s l)) := by unfold clns; rw [List.getElem?_zipWith, hr, hl]
 obtain ⟨G, ⟨rfl, g1⟩, g2⟩ := Sep.mem h2 hi
 exact ⟨fun x hx => by simp [g2 x hx], g1.cells⟩
theorem i4s_len2 (l : List In4) : (i4s l).length = l.length * 4 := by
 induction l with
 | nil => rfl
 | cons x t ih => simp only [i4s, List.flatMap_cons, List.length_append, List.length_cons] at ih ⊢; rw [ih]; simp [i4c]; omega
def nwc (fA : Option Addr) (i fC : Nat) (hA : Option Addr) (j hC : Nat) (lA : Option Addr) (k lC : Nat) (ca : Option Addr) (nk cc : Nat) (aa : Option Addr) : List Value :=
 [.slice fA i fC, .slice ca nk cc, .slice aa 1 1, .slice hA j hC, .slice lA k lC, .slice none 0 0, .int .u64 0, .int .u64 0, .slice none 0 0, .int .i64 0, .int .i64 0]
def npts (b : Nat) (fA : Option Addr) (fC : Nat) (fr : List (Option Addr × Nat)) (fs : List (List In4)) (hA : Option Addr) (hC : Nat) (ps : List Pl) (Cs : List Ch) (lA : Option Addr) (lC : Nat) (lp : List Nat) (Ls : List (List Int)) (ca : Option Addr) (cc : Nat) (ks : List Cs3) (aa : Option Addr) (g : Nat) : List Asr :=
 [CelA b (nwc fA fs.length fC hA Cs.length hC lA Ls.length lC ca ks.length cc aa), RowGA 1 fA fC fs.length (frw fr fs), LstA (clns fr fs), RowGA 3 ca cc ks.length (c3s ks), RowGA 2 aa 1 1 [.int .i64 1, .slice (some ⟨g, 0, none⟩) 1 1], LstA [StkA g 1 1 (newF 0 0 0)],
  RowGA 1 hA hC Cs.length (ptrs ps), LstA (chs ps Cs), RowGA 1 lA lC Ls.length (lptr lp), LstA (lks lp Ls)]
theorem c3s_one (ks : List Cs3) : ∀ u ∈ c3s ks, u.oneCell' = true := by
 intro u hu
 unfold c3s at hu
 obtain ⟨k, -, hk⟩ := List.mem_flatMap.1 hu
 simp only [c3c, List.mem_cons, List.not_mem_nil, or_false] at hk
 rcases hk with rfl | rfl | rfl <;> rfl
theorem i4s_one (l : List In4) : ∀ u ∈ i4s l, u.oneCell' = true := by
 intro u hu
 unfold i4s at hu
 obtain ⟨k, -, hk⟩ := List.mem_flatMap.1 hu
 simp [i4c] at hk
 rcases hk with rfl | rfl | rfl | rfl <;> rfl
theorem wnew_any (w : World) (fa : Option Addr) (fc : Nat) (fr : List (Option Addr × Nat)) (fs : List (List In4)) (ra : Option Addr) (rc : Nat) (rooms : List Int) (locks : Nat) (ca : Option Addr) (cc : Nat) (ks : List Cs3) (hp : ProgIn w fa fr fs ra rooms ca cc ks) (hlk : locks ≤ 1000) :
  Calls Tryz.prog 26 #[.agg #[.slice fa fs.length fc, .slice ra rooms.length rc, .int .i64 (locks : Int), .slice ca ks.length cc]] w fun r w' => ∃ b D, r = .returned (.pointer (some ⟨b, 0, none⟩)) ∧ D.fits (newM fs ks rooms locks) ∧ Own w w' (wparts b (newM fs ks rooms locks) D []) := by
 obtain ⟨hf, hfl, heach, hc, hk, hkn, hkl, hnf, hnc⟩ := hp
 have b1 := below_alloc1 w (.cells #[.slice fa fs.length fc, .slice ra rooms.length rc, .int .i64 (locks : Int), .slice ca ks.length cc] 41)
 have x0 := Blk.mk w [.slice fa fs.length fc, .slice ra rooms.length rc, .int .i64 (locks : Int), .slice ca ks.length cc] 41 w.heap.size rfl
 have o1 : Own w (w.alloc (.cells #[.slice fa fs.length fc, .slice ra rooms.length rc, .int .i64 (locks : Int), .slice ca ks.length cc] 41)) [CelA w.heap.size [.slice fa fs.length fc, .slice ra rooms.length rc, .int .i64 (locks : Int), .slice ca ks.length cc]] :=
  (Own.nil (Below.refl _ _)).alloc _ _ rfl
 have HO1 := Lib.hid o1
 have HKC := Lib.hid (clonek_any _ ca ks.length cc (c3s ks) (hk.below b1) (c3s_len ks) hkn (c3s_one ks) (by omega))
 have HF := Lib.hid hf
 have HC := Lib.hid hc
 have HE := Lib.hid heach
 have HFL := Lib.hid hfl
 obtain ⟨i1, -⟩ := x0 0 _ rfl
 obtain ⟨i2, -⟩ := x0 1 _ rfl
 obtain ⟨i3, -⟩ := x0 2 _ rfl
 obtain ⟨i4, -⟩ := x0 3 _ rfl
 clear hf hfl heach hc hk hkn x0 o1 b1
 go_enter Tryz.func26, Tryz.ntmps26
 go_wp2_with fail
 refine HKC.out.mono ?_
 rintro r w2 ⟨ca', cc', rfl, hr2, hf2, hb2⟩
 have o2 := HO1.out.add hb2 (A := RowGA 3 ca' cc' ks.length (c3s ks)) (F := blk ca') ⟨rfl, hr2⟩ hf2
 have H2 := Lib.hid o2
 clear o2 hr2 hf2 hb2 HKC HO1
 go_wp2_with fail
 refine (gbegin_any 0 0 _).mono ?_
 rintro r w3 ⟨g, rfl, hg, hs, hb3⟩
 have o3 := H2.out.add hb3 (A := StkA g 1 1 (newF 0 0 0)) (F := [g]) ⟨rfl, hs⟩ (by intro x hx; simp at hx; omega)
 have H3 := Lib.hid o3
 clear o3 hg hs hb3 H2
 have H4 := Lib.hid (((((((H3.out.pick 2 rfl).lst (l := [])).rowNil 1).lst (l := [])).rowNil 1).pick 5 rfl).lst (l := [StkA g 1 1 (newF 0 0 0)]))
 clear H3
 have o5 := H4.out.add (below_alloc1 w3 (.cells #[.int .i64 1, .slice (some ⟨g, 0, none⟩) 1 1] 115)) (A := RowGA 2 (some ⟨w3.heap.size, 0, none⟩) 1 1 [.int .i64 1, .slice (some ⟨g, 0, none⟩) 1 1]) (F := [w3.heap.size]) ⟨rfl, RowG.new 2 1 w3 [.int .i64 1, .slice (some ⟨g, 0, none⟩) 1 1] _ rfl (by simp [maxLen]) rfl⟩ (by intro x hx; simp at hx; subst hx; exact Nat.le_refl _)
 have o6 := (((o5.pick 7 rfl).lst (l := [])).rowNil 1).alloc (nwc none 0 0 none 0 0 none 0 0 ca' ks.length cc' (some ⟨w3.heap.size, 0, none⟩)) 79 (b := w3.heap.size + 1) (by simp)
 have H6 : Hid (Own w ((w3.alloc (.cells #[.int .i64 1, .slice (some ⟨g, 0, none⟩) 1 1] 115)).alloc (.cells #[.slice none 0 0, .slice ca' ks.length cc', .slice (some ⟨w3.heap.size, 0, none⟩) 1 1, .slice none 0 0, .slice none 0 0, .slice none 0 0, .int .u64 0, .int .u64 0, .slice none 0 0, .int .i64 0, .int .i64 0] 79)) (npts (w3.heap.size + 1) none 0 [] [] none 0 [] [] none 0 [] [] ca' cc' ks (some ⟨w3.heap.size, 0, none⟩) g ++ [CelA w.heap.size [.slice fa fs.length fc, .slice ra rooms.length rc, .int .i64 (locks : Int), .slice ca ks.length cc]])) := Lib.hid o6
 clear o5 o6 H4
 go_upto_region 2 with fail
 generalize ((w3.alloc (.cells #[.int .i64 1, .slice (some ⟨g, 0, none⟩) 1 1] 115)).alloc (.cells #[.slice none 0 0, .slice ca' ks.length cc', .slice (some ⟨w3.heap.size, 0, none⟩) 1 1, .slice none 0 0, .slice none 0 0, .slice none 0 0, .int .u64 0, .int .u64 0, .slice none 0 0, .int .i64 0, .int .i64 0] 79)) = w6 at *
 generalize w3.heap.size + 1 = b at *
 generalize w3.heap.size = sa at *
 generalize w.heap.size = pb at *
 have z0 := (H6.out.cel 10 rfl 0 _ rfl).1
 clear i1 i2 i3 i4
 go_wp2_with fail
 go_loopw [18] (fun iv wr => ∃ i : Nat, ∃ fA fC fr', i ≤ fs.length ∧ iv = .int .i64 i ∧ Hid (fr'.length = i ∧ Own w wr (npts b fA fC fr' (fs.take i) none 0 [] [] none 0 [] [] ca' cc' ks (some ⟨sa, 0, none⟩) g ++ [CelA pb [.slice fa fs.length fc, .slice ra rooms.length rc, .int .i64 (locks : Int), .slice ca ks.length cc]]))) (fun iv _ => fs.length - (intOf iv).toNat)
 case atStart => exact ⟨0, none, 0, [], by omega, rfl, Lib.hid ⟨rfl, H6.out⟩⟩
 case round =>
  obtain ⟨i, fA, fC, fr', hi, rfl, hr⟩ := hrel
  by_cases hlt : i < fs.length
  ·have hifr : i < fr.length := by rw [HFL.out]; exact hlt
   obtain ⟨l, hl⟩ : ∃ l, l = fs[i] := ⟨_, rfl⟩
   have hle : fs[i]? = some l := by rw [hl]; exact List.getElem?_eq_getElem hlt
   obtain ⟨r0, hr0⟩ : ∃ r, r = fr[i] := ⟨_, rfl⟩
   have hre : fr[i]? = some r0 := by rw [hr0]; exact List.getElem?_eq_getElem hifr
   obtain ⟨hrl, ho⟩ := hr.out
   obtain ⟨e1, e2, e3⟩ := HE.out i r0 l hre hle
   obtain ⟨r1, rcap⟩ := r0
   simp only at e1 e2 e3
   obtain ⟨bf, off, rfl, hcf⟩ := HF.out i (.slice r1 l.length rcap) (by unfold frw; rw [List.getElem?_zipWith, hre, hle])
   have hcf2 := cell_below hcf ho.bel
   have htl : (fs.take i).length = i := by rw [List.length_take]; omega
   have SB : ∀ (wx : World) (L : List Asr), Own w wx L → ∀ k : Nat, L[k]? = some (CelA b (nwc fA (fs.take i).length fC none 0 0 none 0 0 ca' ks.length cc' (some ⟨sa, 0, none⟩))) → wx.cell? ⟨b, 0, none⟩ = some (.slice fA i fC) := fun wx L ho k hk => by
    have := (ho.cel k hk 0 _ rfl).1
    rw [htl] at this
    exact this
   have HSB := Lib.hid SB
   have o1 := ho.step (below_drew1 wr)
   have HCl := Lib.hid (clonef_any wr.drew r1 l.length rcap (i4s l) (e1.below o1.bel) (i4s_len2 l) e2 (i4s_one l) e3)
   have HT : Hid (fs.take (i + 1) = fs.take i ++ [l]) := Lib.hid (by rw [hl]; exact List.take_succ_eq_append_getElem hlt)
   have HTL := Lib.hid htl
   have HRL := Lib.hid hrl
   obtain ⟨i0, hi0, hz0, hz1, hz2⟩ := info_parts info_code
   have Hi := Lib.hid hi0; clear hi0
   have Hz0 := Lib.hid hz0; clear hz0
   have Hz1 := Lib.hid hz1; clear hz1
   have Hz2 := Lib.hid hz2; clear hz2
   have hli : (i : Int) < (fs.length : Int) := by omega
   have hl0 : (0 : Int) ≤ (i : Int) := by omega
   generalize hln : l.length = ln at *
   have HLN := Lib.hid hln
   clear hln
   clear hl hr0 hre hle e1 e2 e3 hcf SB htl hrl hr hifr
   go_upto_region 5 with fail
   refine wp_region_lexY (fun wx => wx.cell? ⟨b, 0, none⟩ = some (.slice fA i fC)) 11 12 (Array.replicate 12 false) (by kernel_rfl) (by kernel_rfl) ?_
   refine wpAnyY_seg 0 6 _ #[true, true, true, true, true, true, false, false, false, false, false, false] 6 (by kernel_rfl) noPanic_put (HSB.out _ _ o1 0 rfl) (by kernel_rfl) ?_
   simp only [List.take_succ_cons, List.take_zero, List.drop_zero]
   repeat ((first | refine wpSegH_no (by rfl) ?_ | (refine wpSegH_yes (by rfl) ?_; apply Exists.intro; apply And.intro; (· (intro wx hS; (try dsimp only at hS); go_simp; first | done | with_reducible rfl)))); simp only [Act.put, List.setIfInBounds_toArray, List.set_cons_zero, List.set_cons_succ])
   refine wpSegH_nil ?_
   refine wpAnyY_one 6 _ #[true, true, true, true, true, true, true, false, false, false, false, false] 5 (by kernel_rfl) (fun K hK => ?_)
   have HKK := Lib.hid hK
   clear hK
   simp only [List.drop_succ_cons, List.drop_zero]
   refine headH_mk (by rfl) ?_
   go_simp
   refine HCl.out.mono ?_
   rintro r w2 ⟨r1', c1', rfl, hrow, hfr, hb⟩
   have o2 := o1.add hb (A := RowGA 4 r1' c1' ln (i4s l)) (F := blk r1') ⟨rfl, hrow⟩ hfr
   refine HKK.out _ _ (HSB.out _ _ o2 1 rfl) ?_
   clear HKK K
   refine wpAnyY_one 7 _ #[true, true, true, true, true, true, true, true, false, false, false, false] 4 (by kernel_rfl) (fun K hK => ?_)
   have HKK := Lib.hid hK
   clear hK
   simp only [List.drop_succ_cons, List.drop_zero]
   refine headH_mk (by rfl) ?_
   go_simp
   have o3 := o2.step (below_alloc1 _ (.cells #[.slice r1' ln c1'] 31))
   refine HKK.out _ _ (HSB.out _ _ o3 1 rfl) ?_
   clear HKK K
   refine wpAnyY_one 8 _ #[true, true, true, true, true, true, true, true, true, false, false, false] 3 (by kernel_rfl) (fun K hK => ?_)
   have HKK := Lib.hid hK
   clear hK
   simp only [List.drop_succ_cons, List.drop_zero]
   refine headH_mk (by rfl) ?_
   have hrow3 := o3.rowG 2 rfl
   rw [HTL.out] at hrow3
   refine wp_append_rowG (n := i) (m := 1) (cs := frw fr' (fs.take i)) (ds := [.slice r1' ln c1']) _ _ 37 (by rfl) 31 i0 _ Tryz.underlying37 Hi.out Hz0.out Hz1.out Hz2.out rfl (by omega) (by omega) (by rfl) (by rfl) hrow3 (CellsAt.new _ [.slice r1' ln c1'] _ rfl) rfl (by simp [Value.oneCell']) (by omega) ?_
   intro a9 c9 w9 k9 ch9 f9
   have o4 := (Own.rowTurn (o3.pick 2 rfl) k9 ch9 f9)
   refine HKK.out _ _ (HSB.out _ _ o4 2 rfl) ?_
   clear HKK K
   refine wpAnyY_segT 9 1 _ #[true, true, true, true, true, true, true, true, true, true, false, false] 2 (by kernel_rfl) noPanic_put (by kernel_rfl) ?_
   simp only [List.take_succ_cons, List.take_zero, List.drop_succ_cons, List.drop_zero]
   repeat ((first | refine wpSegH_no (by rfl) ?_ | (refine wpSegH_yes (by rfl) ?_; apply Exists.intro; apply And.intro; (· (intro wx hS; (try dsimp only at hS); go_simp; first | done | with_reducible rfl)))); simp only [Act.put, List.setIfInBounds_toArray, List.set_cons_zero, List.set_cons_succ])
   refine wpSegH_nil ?_
   refine wpAnyY_seg 10 1 _ #[true, true, true, true, true, true, true, true, true, true, true, false] 1 (by kernel_rfl) noPanic_put (HSB.out _ _ o4 2 rfl) (by kernel_rfl) ?_
   simp only [List.take_succ_cons, List.take_zero, List.drop_succ_cons, List.drop_zero]
   repeat ((first | refine wpSegH_no (by rfl) ?_ | (refine wpSegH_yes (by rfl) ?_; apply Exists.intro; apply And.intro; (· (intro wx hS; (try dsimp only at hS); go_simp; first | done | with_reducible rfl)))); simp only [Act.put, List.setIfInBounds_toArray, List.set_cons_zero, List.set_cons_succ])
   refine wpSegH_nil ?_
   obtain ⟨z8, f8⟩ := o4.cel 2 rfl 0 _ rfl
   have o5 := ((((((o4.setAt 2 rfl 0 (.slice a9 (i + 1) c9)).pick 1 rfl).pick 3 rfl).pick 1 rfl).lstAdd).pick 1 rfl).pick 2 rfl
   have H5 := Lib.hid o5
   clear o1 o2 o3 o4 o5 k9 ch9 f9 hrow3 hrow hfr hb HSB HCl ho
   refine wpAnyY_late 11 _ #[true, true, true, true, true, true, true, true, true, true, true, true] 0 (by kernel_rfl) (fun K hK => ?_)
   have HKK := Lib.hid hK
   clear hK
   simp only [List.drop_succ_cons, List.drop_zero]
   refine headH_mk (by rfl) ?_
   go_simp
   refine HKK.out _ _ ?_
   clear HKK K
   refine wpAnyY_done (by kernel_rfl) (NoPanic.normal ?_) _
   have HFIN : Hid ((fr' ++ [(r1', c1')]).length = i + 1 ∧ Own w (w9.setCell ⟨b, 0, none⟩ (.slice a9 (i + 1) c9)) (npts b a9 c9 (fr' ++ [(r1', c1')]) (fs.take (i + 1)) none 0 [] [] none 0 [] [] ca' cc' ks (some ⟨sa, 0, none⟩) g ++ [CelA pb [.slice (some ⟨bf, off, none⟩) fs.length fc, .slice ra rooms.length rc, .int .i64 (locks : Int), .slice ca ks.length cc]])) := Lib.hid ⟨by simp [HRL.out], by
    have e : (fs.take i ++ [l]).length = i + 1 := by rw [List.length_append, HTL.out]; rfl
    rw [HT.out]
    unfold npts
    rw [frw_app (by rw [HRL.out, HTL.out]), clns_app (by rw [HRL.out, HTL.out]), e, HLN.out]
    exact H5.out⟩
   clear H5 HT HTL HRL HLN
   go_wp2
   exact ⟨⟨i + 1, a9, c9, _, by omega, by go_num, HFIN⟩, by simp [intOf]; omega⟩
  ·have hge : ¬ (i : Int) < (fs.length : Int) := by omega
   obtain rfl : i = fs.length := by omega
   have HR1 : Hid (fr'.length = fs.length ∧ Own w wr (npts b fA fC fr' fs none 0 [] [] none 0 [] [] ca' cc' ks (some ⟨sa, 0, none⟩) g ++ [CelA pb [.slice fa fs.length fc, .slice ra rooms.length rc, .int .i64 (locks : Int), .slice ca ks.length cc]])) := Lib.hid (by
    have := hr.out
    rw [List.take_length] at this
    exact this)
   obtain ⟨z1, -⟩ := HR1.out.2.cel 10 rfl 1 _ rfl
   clear hr
   go_wp2_with fail
   go_loopw [37] (fun iv wr => ∃ i : Nat, ∃ hA hC pa, i ≤ rooms.length ∧ iv = .int .i64 i ∧ Hid (pa.length = i ∧ Own w wr (npts b fA fC fr' fs hA hC (List.zip pa ((rooms.take i).map roomC)) ((rooms.take i).map fun _ => ⟨[], [], [], false⟩) none 0 [] [] ca' cc' ks (some ⟨sa, 0, none⟩) g ++ [CelA pb [.slice fa fs.length fc, .slice ra rooms.length rc, .int .i64 (locks : Int), .slice ca ks.length cc]]))) (fun iv _ => rooms.length - (intOf iv).toNat)
   case atStart => exact ⟨0, none, 0, [], by omega, rfl, Lib.hid ⟨rfl, HR1.out.2⟩⟩
   case round =>
    obtain ⟨i, hA, hC, pa, hi, rfl, hr⟩ := hrel
    by_cases hlt : i < rooms.length
    ·obtain ⟨z, hz⟩ : ∃ z, z = rooms[i] := ⟨_, rfl⟩
     have hze : rooms[i]? = some z := by rw [hz]; exact List.getElem?_eq_getElem hlt
     obtain ⟨hrl, ho⟩ := hr.out
     obtain ⟨bf, off, rfl, hcf⟩ := HC.out i (.int .i64 z) (by rw [intc_get, hze]; rfl)
     have hcf2 := cell_below hcf ho.bel
     have htl : ((rooms.take i).map fun _ => (⟨[], [], [], false⟩ : Ch)).length = i := by rw [List.length_map, List.length_take]; omega
     have hzl : (List.zip pa ((rooms.take i).map roomC)).length = i := by rw [List.length_zip, List.length_map, List.length_take]; omega
     have SB : ∀ (wx : World) (L : List Asr), Own w wx L → ∀ k : Nat, L[k]? = some (CelA b (nwc fA fs.length fC hA ((rooms.take i).map fun _ => (⟨[], [], [], false⟩ : Ch)).length hC none 0 0 ca' ks.length cc' (some ⟨sa, 0, none⟩))) → wx.cell? ⟨b, 3, none⟩ = some (.slice hA i hC) := fun wx L ho k hk => by
      have := (ho.cel k hk 3 _ rfl).1
      rw [htl] at this
      exact this
     have HSB := Lib.hid SB
     have o1 := ho.step (below_drew1 wr)
     have HCl := Lib.hid (cnew_any o1 z)
     have HT : Hid (rooms.take (i + 1) = rooms.take i ++ [z]) := Lib.hid (by rw [hz]; exact List.take_succ_eq_append_getElem hlt)
     have HTL := Lib.hid htl
     have HRL := Lib.hid hrl
     have HZL := Lib.hid hzl
     obtain ⟨i0, hi0, hz0, hz1, hz2⟩ := info_parts info_chp
     have Hi := Lib.hid hi0; clear hi0
     have Hz0 := Lib.hid hz0; clear hz0
     have Hz1 := Lib.hid hz1; clear hz1
     have Hz2 := Lib.hid hz2; clear hz2
     have hli : (i : Int) < (rooms.length : Int) := by omega
     have hl0 : (0 : Int) ≤ (i : Int) := by omega
     clear hz hze hcf SB htl hrl hr hzl
     go_upto_region 10 with fail
     refine wp_region_lexY (fun wx => wx.cell? ⟨b, 3, none⟩ = some (.slice hA i hC)) 11 12 (Array.replicate 12 false) (by kernel_rfl) (by kernel_rfl) ?_
     refine wpAnyY_seg 0 6 _ #[true, true, true, true, true, true, false, false, false, false, false, false] 6 (by kernel_rfl) noPanic_put (HSB.out _ _ o1 0 rfl) (by kernel_rfl) ?_
     simp only [List.take_succ_cons, List.take_zero, List.drop_zero]
     repeat ((first | refine wpSegH_no (by rfl) ?_ | (refine wpSegH_yes (by rfl) ?_; apply Exists.intro; apply And.intro; (· (intro wx hS; (try dsimp only at hS); go_simp; first | done | with_reducible rfl)))); simp only [Act.put, List.setIfInBounds_toArray, List.set_cons_zero, List.set_cons_succ])
     refine wpSegH_nil ?_
     refine wpAnyY_one 6 _ #[true, true, true, true, true, true, true, false, false, false, false, false] 5 (by kernel_rfl) (fun K hK => ?_)
     have HKK := Lib.hid hK
     clear hK
     simp only [List.drop_succ_cons, List.drop_zero]
     refine headH_mk (by rfl) ?_
     go_simp
     refine HCl.out.mono ?_
     rintro r w2 ⟨pt, rfl, o2, hb⟩
     refine HKK.out _ _ (HSB.out _ _ o2 1 rfl) ?_
     clear HKK K
     refine wpAnyY_one 7 _ #[true, true, true, true, true, true, true, true, false, false, false, false] 4 (by kernel_rfl) (fun K hK => ?_)
     have HKK := Lib.hid hK
     clear hK
     simp only [List.drop_succ_cons, List.drop_zero]
     refine headH_mk (by rfl) ?_
     go_simp
     have o3 := o2.step (below_alloc1 _ (.cells #[.pointer (some ⟨pt, 0, none⟩)] 118))
     refine HKK.out _ _ (HSB.out _ _ o3 1 rfl) ?_
     clear HKK K
     refine wpAnyY_one 8 _ #[true, true, true, true, true, true, true, true, true, false, false, false] 3 (by kernel_rfl) (fun K hK => ?_)
     have HKK := Lib.hid hK
     clear hK
     simp only [List.drop_succ_cons, List.drop_zero]
     refine headH_mk (by rfl) ?_
     have hrow3 := o3.rowG 7 rfl
     rw [HTL.out] at hrow3
     refine wp_append_rowG (n := i) (m := 1) (cs := ptrs (List.zip pa ((rooms.take i).map roomC))) (ds := [.pointer (some ⟨pt, 0, none⟩)]) _ _ 74 (by rfl) 118 i0 _ Tryz.underlying74 Hi.out Hz0.out Hz1.out Hz2.out rfl (by omega) (by omega) (by rfl) (by rfl) hrow3 (CellsAt.new _ [.pointer (some ⟨pt, 0, none⟩)] _ rfl) rfl (by simp [Value.oneCell']) (by omega) ?_
     intro a9 c9 w9 k9 ch9 f9
     have o4 := (Own.rowTurn (o3.pick 7 rfl) k9 ch9 f9)
     refine HKK.out _ _ (HSB.out _ _ o4 2 rfl) ?_
     clear HKK K
     refine wpAnyY_segT 9 1 _ #[true, true, true, true, true, true, true, true, true, true, false, false] 2 (by kernel_rfl) noPanic_put (by kernel_rfl) ?_
     simp only [List.take_succ_cons, List.take_zero, List.drop_succ_cons, List.drop_zero]
     repeat ((first | refine wpSegH_no (by rfl) ?_ | (refine wpSegH_yes (by rfl) ?_; apply Exists.intro; apply And.intro; (· (intro wx hS; (try dsimp only at hS); go_simp; first | done | with_reducible rfl)))); simp only [Act.put, List.setIfInBounds_toArray, List.set_cons_zero, List.set_cons_succ])
     refine wpSegH_nil ?_
     refine wpAnyY_seg 10 1 _ #[true, true, true, true, true, true, true, true, true, true, true, false] 1 (by kernel_rfl) noPanic_put (HSB.out _ _ o4 2 rfl) (by kernel_rfl) ?_
     simp only [List.take_succ_cons, List.take_zero, List.drop_succ_cons, List.drop_zero]
     repeat ((first | refine wpSegH_no (by rfl) ?_ | (refine wpSegH_yes (by rfl) ?_; apply Exists.intro; apply And.intro; (· (intro wx hS; (try dsimp only at hS); go_simp; first | done | with_reducible rfl)))); simp only [Act.put, List.setIfInBounds_toArray, List.set_cons_zero, List.set_cons_succ])
     refine wpSegH_nil ?_
     obtain ⟨z8, f8⟩ := o4.cel 2 rfl 3 _ rfl
     have o5 := ((((((((((((o4.setAt 2 rfl 3 (.slice a9 (i + 1) c9)).pick 1 rfl).pick 8 rfl).pick 1 rfl).lstAdd).pick 1 rfl).pick 7 rfl).pick 7 rfl).pick 7 rfl).pick 7 rfl).pick 7 rfl).pick 7 rfl)
     have H5 := Lib.hid o5
     clear o1 o2 o3 o4 o5 k9 ch9 f9 hrow3 hb HSB HCl ho
     refine wpAnyY_late 11 _ #[true, true, true, true, true, true, true, true, true, true, true, true] 0 (by kernel_rfl) (fun K hK => ?_)
     have HKK := Lib.hid hK
     clear hK
     simp only [List.drop_succ_cons, List.drop_zero]
     refine headH_mk (by rfl) ?_
     go_simp
     refine HKK.out _ _ ?_
     clear HKK K
     refine wpAnyY_done (by kernel_rfl) (NoPanic.normal ?_) _
     have HFIN : Hid ((pa ++ [pt]).length = i + 1 ∧ Own w (w9.setCell ⟨b, 3, none⟩ (.slice a9 (i + 1) c9)) (npts b fA fC fr' fs a9 c9 (List.zip (pa ++ [pt]) ((rooms.take (i + 1)).map roomC)) ((rooms.take (i + 1)).map fun _ => (⟨[], [], [], false⟩ : Ch)) none 0 [] [] ca' cc' ks (some ⟨sa, 0, none⟩) g ++ [CelA pb [.slice fa fs.length fc, .slice (some ⟨bf, off, none⟩) rooms.length rc, .int .i64 (locks : Int), .slice ca ks.length cc]])) := Lib.hid ⟨by simp [HRL.out], by
      have e : (((rooms.take i).map fun _ => (⟨[], [], [], false⟩ : Ch)) ++ [(⟨[], [], [], false⟩ : Ch)]).length = i + 1 := by rw [List.length_append, HTL.out]; rfl
      have e2 : List.zip (pa ++ [pt]) ((rooms.take i).map roomC ++ [roomC z]) = (List.zip pa ((rooms.take i).map roomC)) ++ [(pt, roomC z)] := List.zip_append (by rw [HRL.out, List.length_map, List.length_take]; have := hi; omega)
      rw [HT.out, List.map_append, List.map_append]
      unfold npts
      rw [show List.map roomC [z] = [roomC z] from rfl, show List.map (fun _ => (⟨[], [], [], false⟩ : Ch)) [z] = [(⟨[], [], [], false⟩ : Ch)] from rfl, e2, ptrs_app, chs_app (by rw [HZL.out, HTL.out]), e]
      exact H5.out⟩
     clear H5 HT HTL HRL HZL
     go_wp2
     exact ⟨⟨i + 1, a9, c9, _, by omega, by go_num, HFIN⟩, by simp [intOf]; omega⟩
    ·have hge : ¬ (i : Int) < (rooms.length : Int) := by omega
     obtain rfl : i = rooms.length := by omega
     have HR2 : Hid (pa.length = rooms.length ∧ Own w wr (npts b fA fC fr' fs hA hC (List.zip pa (rooms.map roomC)) (rooms.map fun _ => (⟨[], [], [], false⟩ : Ch)) none 0 [] [] ca' cc' ks (some ⟨sa, 0, none⟩) g ++ [CelA pb [.slice fa fs.length fc, .slice ra rooms.length rc, .int .i64 (locks : Int), .slice ca ks.length cc]])) := Lib.hid (by
      have := hr.out
      rw [List.take_length] at this
      exact this)
     obtain ⟨z1, -⟩ := HR2.out.2.cel 10 rfl 2 _ rfl
     have HCL : Hid ((rooms.map fun _ => (⟨[], [], [], false⟩ : Ch)).length = rooms.length) := Lib.hid (by simp)
     have HFR : Hid (fr'.length = fs.length) := Lib.hid HR1.out.1
     clear hr HR1
     generalize hZP : (List.zip pa (rooms.map roomC)) = zp at *
     generalize hCP : (rooms.map fun _ => (⟨[], [], [], false⟩ : Ch)) = cp at *
     have HZP := Lib.hid hZP
     have HCP := Lib.hid hCP
     clear hZP hCP
     go_wp2_with fail
     go_loopw [55] (fun iv wr => ∃ i : Nat, ∃ lA lC lp, i ≤ locks ∧ iv = .int .i64 i ∧ Hid (lp.length = i ∧ Own w wr (npts b fA fC fr' fs hA hC zp cp lA lC lp (List.replicate i []) ca' cc' ks (some ⟨sa, 0, none⟩) g ++ [CelA pb [.slice fa fs.length fc, .slice ra rooms.length rc, .int .i64 (locks : Int), .slice ca ks.length cc]]))) (fun iv _ => locks - (intOf iv).toNat)
     case atStart => exact ⟨0, none, 0, [], by omega, rfl, Lib.hid ⟨rfl, HR2.out.2⟩⟩
     case round =>
      obtain ⟨i, lA, lC, lp, hi, rfl, hr⟩ := hrel
      by_cases hlt : i < locks
      ·obtain ⟨hrl, ho⟩ := hr.out
       have htl : (List.replicate i ([] : List Int)).length = i := List.length_replicate
       have SB : ∀ (wx : World) (L : List Asr), Own w wx L → ∀ k : Nat, L[k]? = some (CelA b (nwc fA fs.length fC hA cp.length hC lA (List.replicate i ([] : List Int)).length lC ca' ks.length cc' (some ⟨sa, 0, none⟩))) → wx.cell? ⟨b, 4, none⟩ = some (.slice lA i lC) := fun wx L ho k hk => by
        have := (ho.cel k hk 4 _ rfl).1
        rw [htl] at this
        exact this
       have HSB := Lib.hid SB
       have o1 := ho.step (below_drew1 wr)
       have HTL := Lib.hid htl
       have HRL := Lib.hid hrl
       obtain ⟨i0, hi0, hz0, hz1, hz2⟩ := info_parts info_lkp
       have Hi := Lib.hid hi0; clear hi0
       have Hz0 := Lib.hid hz0; clear hz0
       have Hz1 := Lib.hid hz1; clear hz1
       have Hz2 := Lib.hid hz2; clear hz2
       have hli : (i : Int) < (locks : Int) := by omega
       have hl0 : (0 : Int) ≤ (i : Int) := by omega
       clear SB htl hrl hr
       go_upto_region 14 with fail
       refine wp_region_lexY (fun wx => wx.cell? ⟨b, 4, none⟩ = some (.slice lA i lC)) 10 11 (Array.replicate 11 false) (by kernel_rfl) (by kernel_rfl) ?_
       refine wpAnyY_seg 0 5 _ #[true, true, true, true, true, false, false, false, false, false, false] 6 (by kernel_rfl) noPanic_put (HSB.out _ _ o1 0 rfl) (by kernel_rfl) ?_
       simp only [List.take_succ_cons, List.take_zero, List.drop_zero]
       repeat ((first | refine wpSegH_no (by rfl) ?_ | (refine wpSegH_yes (by rfl) ?_; apply Exists.intro; apply And.intro; (· (intro wx hS; (try dsimp only at hS); go_simp; first | done | with_reducible rfl)))); simp only [Act.put, List.setIfInBounds_toArray, List.set_cons_zero, List.set_cons_succ])
       refine wpSegH_nil ?_
       refine wpAnyY_one 5 _ #[true, true, true, true, true, true, false, false, false, false, false] 5 (by kernel_rfl) (fun K hK => ?_)
       have HKK := Lib.hid hK
       clear hK
       simp only [List.drop_succ_cons, List.drop_zero]
       refine headH_mk (by rfl) ?_
       go_simp
       refine (knew_any _).mono ?_
       rintro r w2 ⟨pt, rfl, hk1, hk2, hb⟩
       have o2 := o1.add hb (A := LockA pt []) (F := [pt]) hk1 (by intro x hx; simp at hx; omega)
       refine HKK.out _ _ (HSB.out _ _ o2 1 rfl) ?_
       clear HKK K
       refine wpAnyY_one 6 _ #[true, true, true, true, true, true, true, false, false, false, false] 4 (by kernel_rfl) (fun K hK => ?_)
       have HKK := Lib.hid hK
       clear hK
       simp only [List.drop_succ_cons, List.drop_zero]
       refine headH_mk (by rfl) ?_
       go_simp
       have o3 := o2.step (below_alloc1 _ (.cells #[.pointer (some ⟨pt, 0, none⟩)] 120))
       refine HKK.out _ _ (HSB.out _ _ o3 1 rfl) ?_
       clear HKK K
       refine wpAnyY_one 7 _ #[true, true, true, true, true, true, true, true, false, false, false] 3 (by kernel_rfl) (fun K hK => ?_)
       have HKK := Lib.hid hK
       clear hK
       simp only [List.drop_succ_cons, List.drop_zero]
       refine headH_mk (by rfl) ?_
       have hrow3 := o3.rowG 9 rfl
       rw [HTL.out] at hrow3
       refine wp_append_rowG (n := i) (m := 1) (cs := lptr lp) (ds := [.pointer (some ⟨pt, 0, none⟩)]) _ _ 75 (by rfl) 120 i0 _ Tryz.underlying75 Hi.out Hz0.out Hz1.out Hz2.out rfl (by omega) (by omega) (by rfl) (by rfl) hrow3 (CellsAt.new _ [.pointer (some ⟨pt, 0, none⟩)] _ rfl) rfl (by simp [Value.oneCell']) (by omega) ?_
       intro a9 c9 w9 k9 ch9 f9
       have o4 := (Own.rowTurn (o3.pick 9 rfl) k9 ch9 f9)
       refine HKK.out _ _ (HSB.out _ _ o4 2 rfl) ?_
       clear HKK K
       refine wpAnyY_segT 8 1 _ #[true, true, true, true, true, true, true, true, true, false, false] 2 (by kernel_rfl) noPanic_put (by kernel_rfl) ?_
       simp only [List.take_succ_cons, List.take_zero, List.drop_succ_cons, List.drop_zero]
       repeat ((first | refine wpSegH_no (by rfl) ?_ | (refine wpSegH_yes (by rfl) ?_; apply Exists.intro; apply And.intro; (· (intro wx hS; (try dsimp only at hS); go_simp; first | done | with_reducible rfl)))); simp only [Act.put, List.setIfInBounds_toArray, List.set_cons_zero, List.set_cons_succ])
       refine wpSegH_nil ?_
       refine wpAnyY_seg 9 1 _ #[true, true, true, true, true, true, true, true, true, true, false] 1 (by kernel_rfl) noPanic_put (HSB.out _ _ o4 2 rfl) (by kernel_rfl) ?_
       simp only [List.take_succ_cons, List.take_zero, List.drop_succ_cons, List.drop_zero]
       repeat ((first | refine wpSegH_no (by rfl) ?_ | (refine wpSegH_yes (by rfl) ?_; apply Exists.intro; apply And.intro; (· (intro wx hS; (try dsimp only at hS); go_simp; first | done | with_reducible rfl)))); simp only [Act.put, List.setIfInBounds_toArray, List.set_cons_zero, List.set_cons_succ])
       refine wpSegH_nil ?_
       obtain ⟨z8, f8⟩ := o4.cel 2 rfl 4 _ rfl
       have o5 := ((((((((((((((o4.setAt 2 rfl 4 (.slice a9 (i + 1) c9)).pick 1 rfl).pick 10 rfl).pick 1 rfl).lstAdd).pick 1 rfl).pick 9 rfl).pick 9 rfl).pick 9 rfl).pick 9 rfl).pick 9 rfl).pick 9 rfl).pick 9 rfl).pick 9 rfl)
       have H5 := Lib.hid o5
       clear o1 o2 o3 o4 o5 k9 ch9 f9 hrow3 hb hk1 hk2 HSB ho
       refine wpAnyY_late 10 _ #[true, true, true, true, true, true, true, true, true, true, true] 0 (by kernel_rfl) (fun K hK => ?_)
       have HKK := Lib.hid hK
       clear hK
       simp only [List.drop_succ_cons, List.drop_zero]
       refine headH_mk (by rfl) ?_
       go_simp
       refine HKK.out _ _ ?_
       clear HKK K
       refine wpAnyY_done (by kernel_rfl) (NoPanic.normal ?_) _
       have HFIN : Hid ((lp ++ [pt]).length = i + 1 ∧ Own w (w9.setCell ⟨b, 4, none⟩ (.slice a9 (i + 1) c9)) (npts b fA fC fr' fs hA hC zp cp a9 c9 (lp ++ [pt]) (List.replicate (i + 1) []) ca' cc' ks (some ⟨sa, 0, none⟩) g ++ [CelA pb [.slice fa fs.length fc, .slice ra rooms.length rc, .int .i64 (locks : Int), .slice ca ks.length cc]])) := Lib.hid ⟨by simp [HRL.out], by
        rw [List.replicate_succ']
        have e : (List.replicate i ([] : List Int) ++ [[]]).length = i + 1 := by rw [List.length_append, HTL.out]; rfl
        unfold npts
        rw [lptr_app, lks_app (by rw [HRL.out, HTL.out]), e]
        exact H5.out⟩
       clear H5 HTL HRL
       go_wp2
       exact ⟨⟨i + 1, a9, c9, _, by omega, by go_num, HFIN⟩, by simp [intOf]; omega⟩
      ·have hge : ¬ (i : Int) < (locks : Int) := by omega
       obtain rfl : i = locks := by omega
       have h0 := hr.out.2
       have hk := (h0.rowG 3 rfl).2.1
       have h1 := code_fold (((((h0.pick 10 rfl).drop).pick 3 rfl).pick 3 rfl).pick 3 rfl)
       have h2 := ((h1.pick 1 rfl).rowNil 1).add (Below.refl _ _) (A := ItemsA (.slice none 0 0) []) (F := []) ⟨rfl, World.ownsRow_nil _ _ _ _⟩ (fun x hx => by simp at hx)
       have h3 := (((((((h2.pick 9 rfl).pick 9 rfl).pick 9 rfl).pick 9 rfl).pick 9 rfl).pick 9 rfl).pick 9 rfl).pick 9 rfl
       have hrl := hr.out.1
       have hpl := HR2.out.1
       have hfl := HFR.out
       have e1 := HZP.out
       have e2 := HCP.out
       subst e1 e2
       have HE3 : Hid ((⟨fA, fC, fr', ca', cc', some ⟨sa, 0, none⟩, 1, [(g, 1)], hA, hC, pa, lA, lC, lp, .slice none 0 0, none, 0⟩ : Wa).fits (newM fs ks rooms i) ∧ Own w wr (wparts b (newM fs ks rooms i) ⟨fA, fC, fr', ca', cc', some ⟨sa, 0, none⟩, 1, [(g, 1)], hA, hC, pa, lA, lC, lp, .slice none 0 0, none, 0⟩ [])) :=
        Lib.hid ⟨⟨hfl, rfl, by simp [newM, hpl], by simp [newM], by simp [newM, hrl], hk⟩, h3⟩
       clear h0 h1 h2 h3 hk hr HR2
       go_wp2
       go_ret
       exact ⟨_, rfl, _, HE3.out⟩
def WldA (p : Nat) (W : Wd) (T : List Value) : Asr where
 at_ w F := ∃ D : Wa, D.fits W ∧ Sep w (wparts p W D T) F
 lt := by rintro w F ⟨D, -, h⟩; exact h.lt
 chg := by rintro w w' F G ⟨D, h1, h⟩ c hd; exact ⟨D, h1, h.chg c hd⟩
theorem Own.wld {w0 w : World} {p : Nat} {W : Wd} {T : List Value} {R : List Asr} (h : Own w0 w (WldA p W T :: R)) : ∃ D : Wa, D.fits W ∧ Own w0 w (wparts p W D T ++ R) := by
 obtain ⟨As, ⟨D, hf, rfl⟩, h1⟩ := Own.unfold h (P := fun As => ∃ D : Wa, D.fits W ∧ As = wparts p W D T) (fun F ⟨D, hf, hF⟩ => ⟨_, ⟨D, hf, rfl⟩, hF⟩)
 exact ⟨D, hf, h1⟩
theorem Own.toWld {w0 w : World} {p : Nat} {W : Wd} {T : List Value} {R : List Asr} {D : Wa} (hf : D.fits W) (h : Own w0 w (wparts p W D T ++ R)) : Own w0 w (WldA p W T :: R) := Own.fold h (fun F hF => ⟨D, hf, hF⟩)
theorem Own.rowNil0 {w0 w : World} {R : List Asr} (s : Nat) (h : Own w0 w R) : Own w0 w (RowGA s none 0 0 [] :: R) := h.add (Below.refl _ _) (F := []) ⟨rfl, RowG.nil s w⟩ (by intro x hx; simp at hx)
theorem Own.wldBack {w0 w : World} {p : Nat} {W : Wd} {T : List Value} {R : List Asr} {A : Asr} {D : Wa} (hf : D.fits W) (h : Own w0 w (A :: (wparts p W D T ++ R))) : Own w0 w (A :: WldA p W T :: R) := by
 have h1 : Own w0 w (wparts p W D T ++ (A :: R)) := h.perm (by
  have := (List.perm_middle (a := A) (l₁ := wparts p W D T) (l₂ := R)).symm
  exact this)
 have h2 := Own.toWld hf h1
 exact h2.perm (List.Perm.swap _ _ _)
theorem execM_none {B : Nat} {W : Wd} (wf : WF B W) {g : Int} (h : W.lets g → askN W ((W.ins g.toNat).getD (0, 0, 0, 0)) = 0) (u v : Int) : execM W g u = execM W g v := by
 unfold execM
 by_cases hl : W.lets g
 ·rw [if_pos hl, if_pos hl]
  have hk : AskIn W ((W.ins g.toNat).getD (0, 0, 0, 0)) := by
   cases hx : W.ins g.toNat with
   | none => exact ⟨fun e => absurd e (by decide), fun e => absurd e (by decide)⟩
   | some x =>
    obtain ⟨k1, -, -⟩ := wf.insOk hx
    exact ⟨fun e => ⟨k1.casX (.inr (.inr e)), by have := wf.p.kl; omega, k1.casOk (.inr (.inr e)) wf.p.ck⟩, fun e => by have := k1.o21 e; simp only [Option.getD_some] at *; omega⟩
  simp only [askM_none hk (h hl)]
 ·rw [if_neg hl, if_neg hl]
def ExecW (w0 : World) (p : Nat) (T : List Value) (W : Wd) (g : Int) (R : List Asr) (Qd : Int → List Asr → Prop) (Qp : Ending → List Asr → Prop) (r : Ending) (w' : World) : Prop :=
 (∃ v R' ra rc, ((¬ W.lets g ∨ askN W ((W.ins g.toNat).getD (0, 0, 0, 0)) = 0) ∧ R' = R ∨ (W.lets g ∧ 1 ≤ askN W ((W.ins g.toNat).getD (0, 0, 0, 0))) ∧ Qd v R') ∧
  r = .returned (.agg #[.bool (execM W g v).2.1, .slice ra (execM W g v).2.2.length rc]) ∧ Own w0 w' (RowGA 1 ra rc (execM W g v).2.2.length (intc (execM W g v).2.2) :: WldA p (execM W g v).1 T :: R')) ∨
 (∃ chain R', r = .panicked chain ∧ (W.lets g ∧ 1 ≤ askN W ((W.ins g.toNat).getD (0, 0, 0, 0))) ∧ Qp r R' ∧ Own w0 w' (WldA p W T :: R'))
theorem exec_w {w0 w : World} {p : Nat} {T : List Value} {W : Wd} {R : List Asr} {F : Nat} {fst cap : Array Value} {Qd : Int → List Asr → Prop} {Qp : Ending → List Asr → Prop} {B : Nat} (h : Own w0 w (WldA p W T :: R)) (wf : WF B W) (hB : B ≤ 80000) (g : Int)
  (en : ∀ (args : Array Value) (w : World), (callFunc F args).run Tryz.prog w = .ok (.enter F args) w) (hd : W.lets g → 1 ≤ askN W ((W.ins g.toNat).getD (0, 0, 0, 0)) → DrawOk w0 p T W F fst cap (askK ((W.ins g.toNat).getD (0, 0, 0, 0))) (askN W ((W.ins g.toNat).getD (0, 0, 0, 0)) : Int) R Qd Qp) :
  Calls Tryz.prog 72 #[.pointer (some ⟨p, 0, none⟩), .int .i64 g, .func (.func F) fst cap] w fun r w' => ExecW w0 p T W g R Qd Qp r w' := by
 obtain ⟨D, hf, ho⟩ := h.wld
 by_cases hl : W.lets g
 ·obtain ⟨k, rfl⟩ : ∃ k : Nat, g = (k : Int) := ⟨g.toNat, by have := hl.2.1; omega⟩
  have hl2 := hl
  refine (exec_all (Qd := Qd) (Qp := Qp) ho hf k (wf.execOk hB hl) en (hd hl)).mono (fun r w' hh => ?_)
  rcases hh with ⟨v, R', D', ra, rc, hq, h1, h2, h3⟩ | ⟨D', ch, R', h1, h2, h3, h4, h5⟩
  ·refine .inl ⟨v, R', ra, rc, ?_, h1, Own.wldBack h2 h3⟩
   rcases hq with ⟨a, b⟩ | ⟨a, b⟩
   ·exact .inl ⟨.inr a, b⟩
   ·exact .inr ⟨⟨hl2, a⟩, b⟩
  ·exact .inr ⟨ch, R', h1, ⟨hl2, h2⟩, h3, Own.toWld h4 h5⟩
 ·refine (exec_no ho hf g hl (.func (.func F) fst cap)).mono (fun r w' hh => ?_)
  have e : execM W g 0 = (W, false, []) := by unfold execM; rw [if_neg hl]
  refine .inl ⟨0, R, none, 0, .inl ⟨.inl hl, rfl⟩, ?_, ?_⟩
  ·rw [e]; exact hh.1
  ·rw [e]; exact Own.rowNil0 1 (Own.toWld hf hh.2)
section
variable {w0 w : World} {p : Nat} {W : Wd} {T : List Value} {R : List Asr}
theorem end_w (h : Own w0 w (WldA p W T :: R)) : Calls Tryz.prog 34 #[.pointer (some ⟨p, 0, none⟩)] w fun r w' => r = .returned (.tuple #[.int .i64 W.en, .int .i64 W.why]) ∧ ∃ k, w' = w.drewN k := by
 obtain ⟨D, hf, ho⟩ := h.wld
 exact wend_any ho
theorem status_w (h : Own w0 w (WldA p W T :: R)) (g : Int) : Calls Tryz.prog 74 #[.pointer (some ⟨p, 0, none⟩), .int .i64 g] w fun r w' => r = .returned (.int .i64 (statusM W g)) ∧ w' = w := by
 obtain ⟨D, hf, ho⟩ := h.wld
 exact status_any ho hf g
end
theorem new_w (w : World) (fa : Option Addr) (fc : Nat) (fr : List (Option Addr × Nat)) (fs : List (List In4)) (ra : Option Addr) (rc : Nat) (rooms : List Int) (locks : Nat) (ca : Option Addr) (cc : Nat) (ks : List Cs3) (hp : ProgIn w fa fr fs ra rooms ca cc ks) (hlk : locks ≤ 1000) :
  Calls Tryz.prog 26 #[.agg #[.slice fa fs.length fc, .slice ra rooms.length rc, .int .i64 (locks : Int), .slice ca ks.length cc]] w fun r w' => ∃ b, r = .returned (.pointer (some ⟨b, 0, none⟩)) ∧ Own w w' [WldA b (newM fs ks rooms locks) []] := by
 refine (wnew_any w fa fc fr fs ra rc rooms locks ca cc ks hp hlk).mono (fun r w' hh => ?_)
 obtain ⟨b, D, h1, hf, ho⟩ := hh
 exact ⟨b, h1, Own.toWld (R := []) hf (by rw [List.append_nil]; exact ho)⟩
end Go.Proofs.YtodjgipiomnnfaaGreat
open Go Go.RowKit
set_option linter.unusedVariables false
namespace Go.Proofs.YtodjgipiomnnfaaGreat
structure Sa where
 D : Wa
 pa : Option Addr
 pc : Nat
 ld : List (Nat × Nat)
 ma : Option Addr
 mc : Nat
 ga : Option Addr
 gc : Nat
def qd1 (l : Nat × Nat) (P : Pm) : Qd := ⟨l.1, l.2, P.N, P.q, none, 0⟩
def qds (ld : List (Nat × Nat)) (ps : List Pm) : List Qd := List.zipWith qd1 ld ps
def pc1 (x : (Nat × Nat) × Pm) : List Value := [.pointer (some ⟨x.1.1, 0, none⟩), .int .i64 (x.2.tu : Int), .int .i64 x.2.by_]
def pcs (ld : List (Nat × Nat)) (ps : List Pm) : List Value := (List.zip ld ps).flatMap pc1
def mc1 (M : Mm) : List Value := [.int .i64 M.P, .int .i64 M.G, .int .i64 M.L]
def mcs (ms : List Mm) : List Value := ms.flatMap mc1
def stl (sp : Nat) (X : Sd) (S : Sa) : List Value := [.pointer (some ⟨sp, 0, none⟩), .slice S.pa X.ps.length S.pc, .slice S.ma X.ms.length S.mc, .slice S.ga X.gl.length S.gc, .int .i64 X.sl, .int .i64 (X.st : Int)]
def swr (W : Wd) (D : Wa) : List Asr := (wparts 0 W D []).tail
theorem wparts_eq (p : Nat) (W : Wd) (D : Wa) (T : List Value) : wparts p W D T = CelA p (wcells W D ++ T) :: swr W D := rfl
def schP (b sp : Nat) (X : Sd) (S : Sa) : List Asr :=
 [CelA b (wcells X.W S.D ++ stl sp X S), RowGA 3 S.pa S.pc X.ps.length (pcs S.ld X.ps), LstA (locs (qds S.ld X.ps)), RowGA 3 S.ma S.mc X.ms.length (mcs X.ms), RowGA 1 S.ga S.gc X.gl.length (intc X.gl), LstA (swr X.W S.D)]
structure Sa.fits (S : Sa) (X : Sd) : Prop where
 w : S.D.fits X.W
 l : S.ld.length = X.ps.length
def SchA (b sp : Nat) (X : Sd) : Asr where
 at_ w F := ∃ S : Sa, S.fits X ∧ Sep w (schP b sp X S) F
 lt := by rintro w F ⟨S, -, h⟩; exact h.lt
 chg := by rintro w w' F G ⟨S, h1, h⟩ c hd; exact ⟨S, h1, h.chg c hd⟩
section
variable {w0 w : World} {b sp : Nat} {X : Sd} {R : List Asr}
theorem Own.sch (h : Own w0 w (SchA b sp X :: R)) : ∃ S : Sa, S.fits X ∧ Own w0 w (schP b sp X S ++ R) := by
 obtain ⟨As, ⟨S, hf, rfl⟩, h1⟩ := Own.unfold h (P := fun As => ∃ S : Sa, S.fits X ∧ As = schP b sp X S) (fun F ⟨S, hf, hF⟩ => ⟨_, ⟨S, hf, rfl⟩, hF⟩)
 exact ⟨S, hf, h1⟩
theorem Own.toSch {S : Sa} (hf : S.fits X) (h : Own w0 w (schP b sp X S ++ R)) : Own w0 w (SchA b sp X :: R) := Own.fold h (fun F hF => ⟨S, hf, hF⟩)
def squeue (X : Sd) (S : Sa) : List Asr := [RowGA 3 S.pa S.pc X.ps.length (pcs S.ld X.ps), LstA (locs (qds S.ld X.ps)), RowGA 3 S.ma S.mc X.ms.length (mcs X.ms), RowGA 1 S.ga S.gc X.gl.length (intc X.gl)]
theorem Own.toW {S : Sa} (hf : S.fits X) (h : Own w0 w (schP b sp X S ++ R)) : Own w0 w (WldA b X.W (stl sp X S) :: (squeue X S ++ R)) := by
 have h1 : Own w0 w (LstA (swr X.W S.D) :: CelA b (wcells X.W S.D ++ stl sp X S) :: (squeue X S ++ R)) := h.pick 5 rfl
 have h2 := h1.unl
 refine Own.toWld hf.w (T := stl sp X S) (h2.perm ?_)
 rw [wparts_eq]
 exact List.perm_middle
theorem Own.ofW {S : Sa} {W' : Wd} (hl : S.ld.length = X.ps.length) (h : Own w0 w (WldA b W' (stl sp X S) :: (squeue X S ++ R))) : ∃ D', (Sa.fits { S with D := D' } { X with W := W' }) ∧ Own w0 w (schP b sp { X with W := W' } { S with D := D' } ++ R) := by
 obtain ⟨D', hD, h1⟩ := h.wld
 rw [wparts_eq] at h1
 refine ⟨D', ⟨hD, hl⟩, ?_⟩
 have h2 : Own w0 w (swr W' D' ++ (CelA b (wcells W' D' ++ stl sp X S) :: (squeue X S ++ R))) := h1.perm List.perm_middle.symm
 have h3 : Own w0 w (LstA (swr W' D') :: CelA b (wcells W' D' ++ stl sp X S) :: (squeue X S ++ R)) := Own.lst h2
 exact h3.back (As := CelA b (wcells W' D' ++ stl sp X S) :: RowGA 3 S.pa S.pc X.ps.length (pcs S.ld X.ps) :: LstA (locs (qds S.ld X.ps)) :: RowGA 3 S.ma S.mc X.ms.length (mcs X.ms) :: RowGA 1 S.ga S.gc X.gl.length (intc X.gl) :: LstA (swr W' D') :: R) (i := 5) (by simp)
def gpOf (b sp : Nat) (X : Sd) (S : Sa) : Gp :=
 {b := b, c0 := .slice S.D.fa X.W.fs.length S.D.fc, c1 := .slice S.D.ca X.W.ks.length S.D.cc, c2 := .slice S.D.aa X.W.gs.length S.D.ac, c3 := .slice S.D.ha X.W.Cs.length S.D.hc, c4 := .slice S.D.la X.W.Ls.length S.D.lc, c5 := S.D.sv,
  c6 := .int .u64 (X.W.nx : Int), c7 := .int .u64 (X.W.clock : Int), c8 := .slice S.D.oa X.W.out.length S.D.oc, c9 := .int .i64 X.W.en, c10 := .int .i64 X.W.why, c11 := .pointer (some ⟨sp, 0, none⟩), c12 := .slice S.pa X.ps.length S.pc, c13 := .slice S.ma X.ms.length S.mc, T := [.int .i64 X.sl, .int .i64 (X.st : Int)] }
theorem Own.toGlo {g : Gp} {a : Option Addr} {c : Nat} {gl : List Int} (h : Own w0 w (CelA g.b (g.cs (.slice a gl.length c)) :: RowGA 1 a c gl.length (intc gl) :: R)) : Own w0 w (gloA g gl :: R) := by
 refine Own.fold (As := [CelA g.b (g.cs (.slice a gl.length c)), RowGA 1 a c gl.length (intc gl)]) h ?_
 rintro F ⟨F1, F2, rfl, ⟨rfl, hb, hB⟩, hd, F3, F4, rfl, ⟨rfl, hr⟩, -, rfl⟩
 refine ⟨a, c, by simp, ?_, hB, (RowG.to_row hr).1⟩
 have := hd g.b (by simp)
 simpa using this
theorem Own.ofGlo {g : Gp} {gl : List Int} (h : Own w0 w (gloA g gl :: R)) : ∃ a c, Own w0 w (CelA g.b (g.cs (.slice a gl.length c)) :: RowGA 1 a c gl.length (intc gl) :: R) := by
 obtain ⟨As, ⟨a, c, rfl⟩, h1⟩ := Own.unfold h (P := fun As => ∃ a c, As = [CelA g.b (g.cs (.slice a gl.length c)), RowGA 1 a c gl.length (intc gl)]) (fun F hF => by
  obtain ⟨a, c, rfl, h2, h3, h4⟩ := hF
  exact ⟨_, ⟨a, c, rfl⟩, [g.b], blk a, by simp, ⟨rfl, h3.lt (by simp [Gp.cs]), h3⟩, fun x hx hc => by simp at hx; subst hx; exact h2 hc, blk a, [], by simp, ⟨rfl, RowG.of_row h4⟩, fun x hx => by simp, rfl⟩)
 exact ⟨a, c, h1⟩
theorem gp_cells (b sp : Nat) (X : Sd) (S : Sa) : (gpOf b sp X S).cs (.slice S.ga X.gl.length S.gc) = wcells X.W S.D ++ stl sp X S := rfl
def sfar (X : Sd) (S : Sa) : List Asr := [RowGA 3 S.pa S.pc X.ps.length (pcs S.ld X.ps), RowGA 3 S.ma S.mc X.ms.length (mcs X.ms), LstA (swr X.W S.D)]
theorem Own.toG {S : Sa} (h : Own w0 w (schP b sp X S ++ R)) : Own w0 w (gloA (gpOf b sp X S) X.gl :: LstA (locs (qds S.ld X.ps)) :: (sfar X S ++ R)) := by
 have h1 : Own w0 w (CelA b ((gpOf b sp X S).cs (.slice S.ga X.gl.length S.gc)) :: RowGA 1 S.ga S.gc X.gl.length (intc X.gl) :: LstA (locs (qds S.ld X.ps)) :: (sfar X S ++ R)) := by
  rw [gp_cells]
  refine h.perm ?_
  show List.Perm (CelA b _ :: RowGA 3 _ _ _ _ :: LstA _ :: RowGA 3 _ _ _ _ :: RowGA 1 _ _ _ _ :: LstA _ :: R) (CelA b _ :: RowGA 1 _ _ _ _ :: LstA _ :: RowGA 3 _ _ _ _ :: RowGA 3 _ _ _ _ :: LstA _ :: R)
  refine List.Perm.cons _ ?_
  exact (pick_perm _ 3 _ rfl).trans (List.Perm.cons _ (pick_perm _ 1 _ rfl))
 exact Own.toGlo (g := gpOf b sp X S) h1
theorem Own.ofG {S : Sa} {gl : List Int} {ps : List Pm} (hp : ps.length = X.ps.length) (h : Own w0 w (gloA (gpOf b sp X S) gl :: LstA (locs (qds S.ld ps)) :: (sfar X S ++ R))) (hpc : pcs S.ld ps = pcs S.ld X.ps) : ∃ a c, Own w0 w (schP b sp { X with gl := gl, ps := ps } { S with ga := a, gc := c } ++ R) := by
 obtain ⟨a, c, h1⟩ := h.ofGlo
 refine ⟨a, c, ?_⟩
 have h2 : Own w0 w (CelA b (wcells X.W S.D ++ stl sp { X with gl := gl, ps := ps } { S with ga := a, gc := c }) :: RowGA 1 a c gl.length (intc gl) :: LstA (locs (qds S.ld ps)) :: RowGA 3 S.pa S.pc ps.length (pcs S.ld ps) :: RowGA 3 S.ma S.mc X.ms.length (mcs X.ms) :: LstA (swr X.W S.D) :: R) := by
  rw [hpc]
  have e : wcells X.W S.D ++ stl sp { X with gl := gl, ps := ps } { S with ga := a, gc := c } = (gpOf b sp X S).cs (.slice a gl.length c) := by
   unfold stl; simp only [hp]; rfl
  rw [e, hp]
  exact h1
 refine h2.perm ?_
 show List.Perm _ (CelA b _ :: RowGA 3 _ _ _ _ :: LstA _ :: RowGA 3 _ _ _ _ :: RowGA 1 _ _ _ _ :: LstA _ :: R)
 refine List.Perm.cons _ ?_
 exact ((pick_perm [RowGA 3 S.pa S.pc ps.length (pcs S.ld ps), LstA (locs (qds S.ld ps)), RowGA 3 S.ma S.mc X.ms.length (mcs X.ms), RowGA 1 a c gl.length (intc gl), LstA (swr X.W S.D)] 3 _ rfl).trans (List.Perm.cons _ (pick_perm _ 1 _ rfl))).symm.append_right R
end
theorem pcs_len (ld : List (Nat × Nat)) (ps : List Pm) (h : ld.length = ps.length) : (pcs ld ps).length = ps.length * 3 := by
 unfold pcs; rw [flat_len pc1 3 (fun _ => rfl), List.length_zip, h, Nat.min_self]
theorem RowG.part {s : Nat} {w : World} {b off cap n : Nat} {cs : List Value} (h : RowG s w (some ⟨b, off, none⟩) cap n cs) (j : Nat) (v : Value) (hj : cs[j]? = some v) : w.cell? ⟨b, off + j, none⟩ = some v ∧ w.frozen? ⟨b, off + j, none⟩ = false := by
 obtain ⟨b', off', e, hc⟩ := h.cells j v hj
 cases e
 have hl := (List.getElem?_eq_some_iff.1 hj).1
 have h1 := h
 obtain ⟨h2, h3, h4, h5⟩ := h1
 obtain ⟨u, -, hz⟩ := h.spot j (by
  have : n * s ≤ cap * s := Nat.mul_le_mul_right s (by first | exact h3 | exact h2)
  omega)
 exact ⟨hc, hz⟩
theorem RowG.some {s : Nat} {w : World} {a : Option Addr} {cap n : Nat} {cs : List Value} (h : RowG s w a cap n cs) {j : Nat} (hj : j < cs.length) : ∃ b off, a = some ⟨b, off, none⟩ := by
 obtain ⟨b, off, e, -⟩ := h.cells j _ (List.getElem?_eq_getElem hj)
 exact ⟨b, off, e⟩
section
variable {w0 w : World} {R : List Asr} {ld : List (Nat × Nat)} {ps : List Pm} {a : Option Addr} {cap : Nat}
theorem zip_at3 {i : Nat} {l : Nat × Nat} {P : Pm} (hl : ld[i]? = some l) (hP : ps[i]? = some P) : (List.zip ld ps)[i]? = some (l, P) := by rw [List.getElem?_zip_eq_some]; exact ⟨hl, hP⟩
theorem pcs_at {i : Nat} {l : Nat × Nat} {P : Pm} (hl : ld[i]? = some l) (hP : ps[i]? = some P) (k : Nat) (hk : k < 3) : (pcs ld ps)[i * 3 + k]? = (pc1 (l, P))[k]? := by
 have hz := zip_at3 hl hP
 obtain ⟨h1, h2⟩ := List.getElem?_eq_some_iff.1 hz
 unfold pcs
 rw [flat_at pc1 3 (fun _ => rfl) _ i k h1 hk, h2]
theorem pcs_set {i : Nat} {l : Nat × Nat} {P P' : Pm} (hl : ld[i]? = some l) (hP : ps[i]? = some P) : pcs ld (ps.set i P') = setL (pcs ld ps) (i * 3) (pc1 (l, P')) := by
 have hz := zip_at3 hl hP
 obtain ⟨h1, h2⟩ := List.getElem?_eq_some_iff.1 hz
 unfold pcs
 rw [flat_set pc1 3 (fun _ => rfl) _ i _ h1, zip_set2, set_self ld i l hl]
theorem mcs_at {ms : List Mm} {i : Nat} {M : Mm} (hM : ms[i]? = some M) (k : Nat) (hk : k < 3) : (mcs ms)[i * 3 + k]? = (mc1 M)[k]? := by
 obtain ⟨h1, h2⟩ := List.getElem?_eq_some_iff.1 hM
 unfold mcs
 rw [flat_at mc1 3 (fun _ => rfl) _ i k h1 hk, h2]
theorem mcs_set {ms : List Mm} {i : Nat} {M : Mm} (hi : i < ms.length) : mcs (ms.set i M) = setL (mcs ms) (i * 3) (mc1 M) := by
 unfold mcs; rw [flat_set mc1 3 (fun _ => rfl) _ i _ hi]
theorem mcs_len (ms : List Mm) : (mcs ms).length = ms.length * 3 := by unfold mcs; exact flat_len mc1 3 (fun _ => rfl) ms
theorem setL3 (cs : List Value) (o : Nat) (x y z : Value) : setL cs o [x, y, z] = ((cs.set o x).set (o + 1) y).set (o + 2) z := by
 unfold setL; rfl
theorem pcs_tu {i : Nat} {l : Nat × Nat} {P : Pm} (hl : ld[i]? = some l) (hP : ps[i]? = some P) (t : Nat) : (pcs ld ps).set (i * 3 + 1) (.int .i64 (t : Int)) = pcs ld (ps.set i { P with tu := t }) := by
 rw [pcs_set hl hP]
 show _ = setL _ _ [_, _, _]
 rw [setL3, set_self (pcs ld ps) (i * 3) _ ((pcs_at hl hP 0 (by omega)).trans rfl), set_self _ (i * 3 + 2) _ (by
  rw [List.getElem?_set_ne (by omega), pcs_at hl hP 2 (by omega)]; rfl)]
theorem pcs_by {i : Nat} {l : Nat × Nat} {P : Pm} (hl : ld[i]? = some l) (hP : ps[i]? = some P) (t : Int) : (pcs ld ps).set (i * 3 + 2) (.int .i64 t) = pcs ld (ps.set i { P with by_ := t }) := by
 rw [pcs_set hl hP]
 show _ = setL _ _ [_, _, _]
 rw [setL3, set_self (pcs ld ps) (i * 3) _ ((pcs_at hl hP 0 (by omega)).trans rfl), set_self (pcs ld ps) (i * 3 + 1) _ (by
  rw [pcs_at hl hP 1 (by omega)]; rfl)]
theorem pcs_q {i : Nat} {l : Nat × Nat} {P : Pm} (hl : ld[i]? = some l) (hP : ps[i]? = some P) (q : LQ) : pcs ld (ps.set i { P with q := q }) = pcs ld ps := by
 rw [pcs_set hl hP]
 show setL _ _ [_, _, _] = _
 rw [setL3, set_self (pcs ld ps) (i * 3) _ ((pcs_at hl hP 0 (by omega)).trans rfl), set_self (pcs ld ps) (i * 3 + 1) _ (by
  rw [pcs_at hl hP 1 (by omega)]; rfl), set_self (pcs ld ps) (i * 3 + 2) _ (by rw [pcs_at hl hP 2 (by omega)]; rfl)]
theorem qds_at {i : Nat} {l : Nat × Nat} {P : Pm} (hl : ld[i]? = some l) (hP : ps[i]? = some P) : (qds ld ps)[i]? = some (qd1 l P) := by
 unfold qds; rw [List.getElem?_zipWith, hl, hP]
theorem qds_set (i : Nat) {l : Nat × Nat} (hl : ld[i]? = some l) (P : Pm) : (qds ld ps).set i (qd1 l P) = qds ld (ps.set i P) := by
 apply List.ext_getElem?
 intro j
 unfold qds
 rw [List.getElem?_zipWith, List.getElem?_set, List.getElem?_set, List.length_zipWith, List.getElem?_zipWith]
 have hll := (List.getElem?_eq_some_iff.1 hl).1
 by_cases e : i = j
 ·subst e
  by_cases h2 : i < ps.length
  ·rw [if_pos rfl, if_pos (by omega)]; simp [h2, hl]
  ·rw [if_pos rfl, if_neg (by omega)]
   simp [h2, hl]
 ·simp [e]
theorem qds_same {i : Nat} {P : Pm} {P' : Pm} (hP : ps[i]? = some P) (hN : P'.N = P.N) (hq : P'.q = P.q) : qds ld (ps.set i P') = qds ld ps := by
 apply List.ext_getElem?
 intro j
 unfold qds
 rw [List.getElem?_zipWith, List.getElem?_zipWith, List.getElem?_set]
 by_cases e : i = j
 ·subst e
  rw [if_pos rfl, if_pos (List.getElem?_eq_some_iff.1 hP).1, hP]
  cases ld[i]? with
  | none => rfl
  | some l => simp [qd1, hN, hq]
 ·rw [if_neg e]
end
end Go.Proofs.YtodjgipiomnnfaaGreat
open Go Go.RowKit
set_option linter.unusedVariables false
namespace Go.Proofs.YtodjgipiomnnfaaGreat
section
variable {w0 w : World} {b sp : Nat} {X : Sd} {S : Sa} {R : List Asr}
theorem sp_proc (h : Own w0 w (schP b sp X S ++ R)) (hf : S.fits X) {i : Nat} (hi : i < X.ps.length) : ∃ pb off p g, S.pa = some ⟨pb, off, none⟩ ∧ S.ld[i]? = some (p, g) ∧
  (w.cell? ⟨pb, off + i * 3, none⟩ = some (.pointer (some ⟨p, 0, none⟩)) ∧ w.cell? ⟨pb, off + i * 3 + 1, none⟩ = some (.int .i64 ((X.p i).tu : Int)) ∧ w.cell? ⟨pb, off + i * 3 + 2, none⟩ = some (.int .i64 (X.p i).by_)) ∧
  w.frozen? ⟨pb, off + i * 3 + 1, none⟩ = false ∧ w.frozen? ⟨pb, off + i * 3 + 2, none⟩ = false := by
 have hr := h.rowG 1 rfl
 have hl : i < S.ld.length := by rw [hf.l]; exact hi
 obtain ⟨l, hl2⟩ : ∃ l, S.ld[i]? = some l := ⟨_, List.getElem?_eq_getElem hl⟩
 obtain ⟨pb, off, e⟩ := hr.some (j := i * 3) (by rw [pcs_len _ _ hf.l]; omega)
 rw [e] at hr
 obtain ⟨a0, -⟩ := hr.part (i * 3) _ (by have := pcs_at hl2 (X.p_at hi) 0 (by omega); rw [Nat.add_zero] at this; exact this.trans rfl)
 obtain ⟨a1, b1⟩ := hr.part (i * 3 + 1) _ ((pcs_at hl2 (X.p_at hi) 1 (by omega)).trans rfl)
 obtain ⟨a2, b2⟩ := hr.part (i * 3 + 2) _ ((pcs_at hl2 (X.p_at hi) 2 (by omega)).trans rfl)
 rw [← Nat.add_assoc] at a1 b1 a2 b2
 exact ⟨pb, off, l.1, l.2, e, hl2, ⟨a0, a1, a2⟩, b1, b2⟩
theorem sp_mach (h : Own w0 w (schP b sp X S ++ R)) {i : Nat} (hi : i < X.ms.length) : ∃ mb off, S.ma = some ⟨mb, off, none⟩ ∧
  (w.cell? ⟨mb, off + i * 3, none⟩ = some (.int .i64 (X.m i).P) ∧ w.cell? ⟨mb, off + i * 3 + 1, none⟩ = some (.int .i64 (X.m i).G) ∧ w.cell? ⟨mb, off + i * 3 + 2, none⟩ = some (.int .i64 (X.m i).L)) ∧
  w.frozen? ⟨mb, off + i * 3, none⟩ = false ∧ w.frozen? ⟨mb, off + i * 3 + 1, none⟩ = false ∧ w.frozen? ⟨mb, off + i * 3 + 2, none⟩ = false := by
 have hr := h.rowG 3 rfl
 obtain ⟨mb, off, e⟩ := hr.some (j := i * 3) (by rw [mcs_len]; omega)
 rw [e] at hr
 obtain ⟨a0, b0⟩ := hr.part (i * 3) _ (by have := mcs_at (X.m_at hi) 0 (by omega); rw [Nat.add_zero] at this; exact this.trans rfl)
 obtain ⟨a1, b1⟩ := hr.part (i * 3 + 1) _ ((mcs_at (X.m_at hi) 1 (by omega)).trans rfl)
 obtain ⟨a2, b2⟩ := hr.part (i * 3 + 2) _ ((mcs_at (X.m_at hi) 2 (by omega)).trans rfl)
 rw [← Nat.add_assoc] at a1 b1 a2 b2
 exact ⟨mb, off, e, ⟨a0, a1, a2⟩, b0, b1, b2⟩
theorem Sa.fits.setP (hf : S.fits X) (i : Nat) (P : Pm) : S.fits (X.setP i P) := ⟨hf.w, by rw [hf.l]; unfold Sd.setP; simp⟩
theorem Sa.fits.setM (hf : S.fits X) (i : Nat) (M : Mm) : S.fits (X.setM i M) := ⟨hf.w, hf.l⟩
theorem own_by (h : Own w0 w (schP b sp X S ++ R)) (hf : S.fits X) {i pb off : Nat} (hi : i < X.ps.length) (hpa : S.pa = some ⟨pb, off, none⟩) (t : Int) :
  Own w0 (w.setCell ⟨pb, off + i * 3 + 2, none⟩ (.int .i64 t)) (schP b sp (X.setP i { X.p i with by_ := t }) S ++ R) := by
 have hl : i < S.ld.length := by rw [hf.l]; exact hi
 obtain ⟨l, hl2⟩ : ∃ l, S.ld[i]? = some l := ⟨_, List.getElem?_eq_getElem hl⟩
 have h1 := h.pick 1 rfl
 have hlen : (X.ps.set i { X.p i with by_ := t }).length = X.ps.length := by simp
 have e2 : qds S.ld (X.ps.set i { X.p i with by_ := t }) = qds S.ld X.ps := qds_same (X.p_at hi) rfl rfl
 have hb := fun (w' : World) (hh : Own w0 w' (RowGA 3 S.pa S.pc X.ps.length (pcs S.ld (X.ps.set i { X.p i with by_ := t })) :: (schP b sp X S ++ R).eraseIdx 1)) => hh.back (As := schP b sp X S ++ R) (i := 1) (by simp [schP])
 have key : Own w0 (w.setCell ⟨pb, off + i * 3 + 2, none⟩ (.int .i64 t)) (RowGA 3 S.pa S.pc X.ps.length (pcs S.ld (X.ps.set i { X.p i with by_ := t })) :: (schP b sp X S ++ R).eraseIdx 1) := by
  rw [← pcs_by hl2 (X.p_at hi)]
  have h2 := h1
  rw [hpa] at h2 ⊢
  have h3 := h2.rowSet (i * 3 + 2) (.int .i64 t) (by rw [pcs_len _ _ hf.l]; omega)
  rw [← Nat.add_assoc] at h3
  exact h3
 have h4 := hb _ key
 unfold schP stl Sd.setP
 simp only
 rw [hlen, e2]
 exact h4
theorem own_tu (h : Own w0 w (schP b sp X S ++ R)) (hf : S.fits X) {i pb off : Nat} (hi : i < X.ps.length) (hpa : S.pa = some ⟨pb, off, none⟩) (t : Nat) :
  Own w0 (w.setCell ⟨pb, off + i * 3 + 1, none⟩ (.int .i64 (t : Int))) (schP b sp (X.setP i { X.p i with tu := t }) S ++ R) := by
 have hl : i < S.ld.length := by rw [hf.l]; exact hi
 obtain ⟨l, hl2⟩ : ∃ l, S.ld[i]? = some l := ⟨_, List.getElem?_eq_getElem hl⟩
 have h1 := h.pick 1 rfl
 have hlen : (X.ps.set i { X.p i with tu := t }).length = X.ps.length := by simp
 have e2 : qds S.ld (X.ps.set i { X.p i with tu := t }) = qds S.ld X.ps := qds_same (X.p_at hi) rfl rfl
 have hb := fun (w' : World) (hh : Own w0 w' (RowGA 3 S.pa S.pc X.ps.length (pcs S.ld (X.ps.set i { X.p i with tu := t })) :: (schP b sp X S ++ R).eraseIdx 1)) => hh.back (As := schP b sp X S ++ R) (i := 1) (by simp [schP])
 have key : Own w0 (w.setCell ⟨pb, off + i * 3 + 1, none⟩ (.int .i64 (t : Int))) (RowGA 3 S.pa S.pc X.ps.length (pcs S.ld (X.ps.set i { X.p i with tu := t })) :: (schP b sp X S ++ R).eraseIdx 1) := by
  rw [← pcs_tu hl2 (X.p_at hi)]
  have h2 := h1
  rw [hpa] at h2 ⊢
  have h3 := h2.rowSet (i * 3 + 1) (.int .i64 (t : Int)) (by rw [pcs_len _ _ hf.l]; omega)
  rw [← Nat.add_assoc] at h3
  exact h3
 have h4 := hb _ key
 unfold schP stl Sd.setP
 simp only
 rw [hlen, e2]
 exact h4
theorem mcs_P {ms : List Mm} {i : Nat} {M : Mm} (hM : ms[i]? = some M) (t : Int) : (mcs ms).set (i * 3) (.int .i64 t) = mcs (ms.set i { M with P := t }) := by
 rw [mcs_set (List.getElem?_eq_some_iff.1 hM).1]
 show _ = setL _ _ [_, _, _]
 rw [setL3, set_self _ (i * 3 + 1) _ (by rw [List.getElem?_set_ne (by omega), mcs_at hM 1 (by omega)]; rfl), set_self _ (i * 3 + 2) _ (by rw [List.getElem?_set_ne (by omega), mcs_at hM 2 (by omega)]; rfl)]
theorem mcs_G {ms : List Mm} {i : Nat} {M : Mm} (hM : ms[i]? = some M) (t : Int) : (mcs ms).set (i * 3 + 1) (.int .i64 t) = mcs (ms.set i { M with G := t }) := by
 rw [mcs_set (List.getElem?_eq_some_iff.1 hM).1]
 show _ = setL _ _ [_, _, _]
 rw [setL3, set_self (mcs ms) (i * 3) _ ((mcs_at hM 0 (by omega)).trans rfl), set_self _ (i * 3 + 2) _ (by rw [List.getElem?_set_ne (by omega), mcs_at hM 2 (by omega)]; rfl)]
theorem mcs_L {ms : List Mm} {i : Nat} {M : Mm} (hM : ms[i]? = some M) (t : Int) : (mcs ms).set (i * 3 + 2) (.int .i64 t) = mcs (ms.set i { M with L := t }) := by
 rw [mcs_set (List.getElem?_eq_some_iff.1 hM).1]
 show _ = setL _ _ [_, _, _]
 rw [setL3, set_self (mcs ms) (i * 3) _ ((mcs_at hM 0 (by omega)).trans rfl), set_self (mcs ms) (i * 3 + 1) _ (by rw [mcs_at hM 1 (by omega)]; rfl)]
theorem own_mc (h : Own w0 w (schP b sp X S ++ R)) {i mb off : Nat} (hi : i < X.ms.length) (hma : S.ma = some ⟨mb, off, none⟩) (k : Nat) (hk : k < 3) (v : Value) (M : Mm) (e : (mcs X.ms).set (i * 3 + k) v = mcs (X.ms.set i M)) :
  Own w0 (w.setCell ⟨mb, off + (i * 3 + k), none⟩ v) (schP b sp (X.setM i M) S ++ R) := by
 have h1 := h.pick 3 rfl
 have hlen : (X.ms.set i M).length = X.ms.length := by simp
 have key : Own w0 (w.setCell ⟨mb, off + (i * 3 + k), none⟩ v) (RowGA 3 S.ma S.mc X.ms.length (mcs (X.ms.set i M)) :: (schP b sp X S ++ R).eraseIdx 3) := by
  rw [← e]
  have h2 := h1
  rw [hma] at h2 ⊢
  exact h2.rowSet (i * 3 + k) v (by rw [mcs_len]; omega)
 have h4 := key.back (As := schP b sp X S ++ R) (i := 3) (by simp [schP])
 unfold schP stl Sd.setM
 simp only
 rw [hlen]
 exact h4
theorem own_mP (h : Own w0 w (schP b sp X S ++ R)) {i mb off : Nat} (hi : i < X.ms.length) (hma : S.ma = some ⟨mb, off, none⟩) (t : Int) : Own w0 (w.setCell ⟨mb, off + i * 3, none⟩ (.int .i64 t)) (schP b sp (X.setM i { X.m i with P := t }) S ++ R) :=
 own_mc h hi hma 0 (by omega) _ _ (mcs_P (X.m_at hi) t)
theorem own_mG (h : Own w0 w (schP b sp X S ++ R)) {i mb off : Nat} (hi : i < X.ms.length) (hma : S.ma = some ⟨mb, off, none⟩) (t : Int) : Own w0 (w.setCell ⟨mb, off + i * 3 + 1, none⟩ (.int .i64 t)) (schP b sp (X.setM i { X.m i with G := t }) S ++ R) :=
 own_mc h hi hma 1 (by omega) _ _ (mcs_G (X.m_at hi) t)
theorem own_mL (h : Own w0 w (schP b sp X S ++ R)) {i mb off : Nat} (hi : i < X.ms.length) (hma : S.ma = some ⟨mb, off, none⟩) (t : Int) : Own w0 (w.setCell ⟨mb, off + i * 3 + 2, none⟩ (.int .i64 t)) (schP b sp (X.setM i { X.m i with L := t }) S ++ R) :=
 own_mc h hi hma 2 (by omega) _ _ (mcs_L (X.m_at hi) t)
theorem own_qg (h : Own w0 w (schP b sp X S ++ R)) (hf : S.fits X) {i p g : Nat} (hi : i < X.ps.length) (hl : S.ld[i]? = some (p, g)) {q' : LQ} {gl' : List Int} {f : FuncId} {args : Array Value} {ret : Ending → Prop}
  (hc : ∀ R', Own w0 w (locA ⟨p, g, (X.p i).N, (X.p i).q, none, 0⟩ :: gloA (gpOf b sp X S) X.gl :: R') → Calls Tryz.prog f args w fun r w' => ret r ∧ Own w0 w' (locA ⟨p, g, (X.p i).N, q', none, 0⟩ :: gloA (gpOf b sp X S) gl' :: R')) :
  Calls Tryz.prog f args w fun r w' => ret r ∧ ∃ a c, Own w0 w' (schP b sp { X.setP i { X.p i with q := q' } with gl := gl' } { S with ga := a, gc := c } ++ R) := by
 have h1 := h.toG.pick 1 rfl
 obtain ⟨R', h2, h3⟩ := h1.lstPick (locs_at (qds_at hl (X.p_at hi)))
 have h4 : Own w0 w (locA ⟨p, g, (X.p i).N, (X.p i).q, none, 0⟩ :: gloA (gpOf b sp X S) X.gl :: (R' ++ (sfar X S ++ R))) := h2.perm (List.Perm.cons _ List.perm_middle)
 refine (hc _ h4).mono (fun r w' hh => ⟨hh.1, ?_⟩)
 have k1 : Own w0 w' (locA ⟨p, g, (X.p i).N, q', none, 0⟩ :: (R' ++ (gloA (gpOf b sp X S) gl' :: (sfar X S ++ R)))) := hh.2.perm (List.Perm.cons _ List.perm_middle.symm)
 have k2 := h3 _ _ _ k1
 rw [locs_set, show (⟨p, g, (X.p i).N, q', none, 0⟩ : Qd) = qd1 (p, g) { X.p i with q := q' } from rfl, qds_set i hl] at k2
 have k3 := k2.perm (List.Perm.swap _ _ _)
 exact Own.ofG (X := X) (by simp [Sd.setP]) k3 (pcs_q hl (X.p_at hi) q')
theorem own_q1 (h : Own w0 w (schP b sp X S ++ R)) (hf : S.fits X) {i p g : Nat} (hi : i < X.ps.length) (hl : S.ld[i]? = some (p, g)) {q' : LQ} {f : FuncId} {args : Array Value} {ret : Ending → Prop}
  (hc : ∀ R', Own w0 w (locA ⟨p, g, (X.p i).N, (X.p i).q, none, 0⟩ :: R') → Calls Tryz.prog f args w fun r w' => ret r ∧ Own w0 w' (locA ⟨p, g, (X.p i).N, q', none, 0⟩ :: R')) :
  Calls Tryz.prog f args w fun r w' => ret r ∧ Own w0 w' (schP b sp (X.setP i { X.p i with q := q' }) S ++ R) := by
 have h1 := h.pick 2 rfl
 obtain ⟨R', h2, h3⟩ := h1.lstPick (locs_at (qds_at hl (X.p_at hi)))
 refine (hc _ h2).mono (fun r w' hh => ⟨hh.1, ?_⟩)
 have k2 := h3 _ _ _ hh.2
 rw [locs_set, show (⟨p, g, (X.p i).N, q', none, 0⟩ : Qd) = qd1 (p, g) { X.p i with q := q' } from rfl, qds_set i hl] at k2
 have k3 := k2.back (As := schP b sp X S ++ R) (i := 2) (by simp [schP])
 have e : pcs S.ld (X.ps.set i { X.p i with q := q' }) = pcs S.ld X.ps := pcs_q hl (X.p_at hi) q'
 have hlen : (X.ps.set i { X.p i with q := q' }).length = X.ps.length := by simp
 unfold schP stl Sd.setP
 simp only
 rw [hlen, e]
 exact k3
end
end Go.Proofs.YtodjgipiomnnfaaGreat
open Go Go.RowKit
set_option linter.unusedVariables false
namespace Go.Proofs.YtodjgipiomnnfaaGreat
structure RdOk (W W' : Wd) (g : Nat) (rd : List Int) : Prop where
 nd : rd.Nodup
 len : W.gs.length ≤ W'.gs.length
 st : ∀ h ∈ rd, ∃ k : Nat, h = (k : Int) ∧ k ≠ g ∧ (W.g k).st ≠ 1 ∧ (W'.g k).st = 1
 oth : ∀ k : Nat, k ≠ g → (k : Int) ∉ rd → ((W'.g k).st = 1 ↔ (W.g k).st = 1)
def SameSt (W W' : Wd) : Prop := W'.gs.length = W.gs.length ∧ ∀ k, (W'.g k).st = (W.g k).st
theorem SameSt.refl (W : Wd) : SameSt W W := ⟨rfl, fun _ => rfl⟩
theorem SameSt.trans {A B C : Wd} (h : SameSt A B) (k : SameSt B C) : SameSt A C := ⟨k.1.trans h.1, fun i => (k.2 i).trans (h.2 i)⟩
theorem g_out {W : Wd} {k : Nat} (h : ¬ k < W.gs.length) : W.g k = g0 := by
 unfold Wd.g; rw [List.getD_eq_getElem?_getD, List.getElem?_eq_none (by omega)]; rfl
theorem SameSt.setG {W : Wd} {g : Nat} {G : Gt} (h : G.st = (W.g g).st) : SameSt W (W.setG g G) := by
 by_cases hg : g < W.gs.length
 ·refine ⟨by unfold Wd.setG; simp, fun k => ?_⟩
  rw [Wd.g_setG _ _ _ _ hg]
  split
  ·rename_i e; subst e; exact h
  ·rfl
 ·rw [setG_out hg]; exact SameSt.refl W
theorem SameSt.put (W : Wd) (g : Nat) (k v : Int) : SameSt W (W.put g k v) := SameSt.setG rfl
theorem SameSt.of_gs {W W' : Wd} (h : W'.gs = W.gs) : SameSt W W' := ⟨by rw [h], fun k => by unfold Wd.g; rw [h]⟩
theorem SameSt.fin (W : Wd) (x : In4) (w : Wt) (s : Bool) : SameSt W (W.fin x w s) := by
 unfold Wd.fin
 simp only
 split <;> split <;> (try split) <;> first
  | exact (SameSt.put _ _ _ _).trans (SameSt.put _ _ _ _)
  | exact SameSt.put _ _ _ _
  | exact SameSt.refl _
theorem RdOk.refl (W : Wd) (g : Nat) : RdOk W W g [] := ⟨List.nodup_nil, Nat.le_refl _, fun h hh => by simp at hh, fun _ _ _ => Iff.rfl⟩
theorem RdOk.base {W A : Wd} (g : Nat) (h : A.gs = W.gs) : RdOk W A g [] := by
 have e : ∀ k, A.g k = W.g k := fun k => by unfold Wd.g; rw [h]
 exact ⟨List.nodup_nil, by rw [h]; exact Nat.le_refl _, fun h hh => by simp at hh, fun _ _ _ => by rw [e]⟩
theorem RdOk.same {W A B : Wd} {g : Nat} {rd : List Int} (h : RdOk W A g rd) (k : SameSt A B) : RdOk W B g rd :=
 ⟨h.nd, by rw [k.1]; exact h.len, fun x hx => by obtain ⟨i, a, b, c, d⟩ := h.st x hx; exact ⟨i, a, b, c, by rw [k.2]; exact d⟩, fun i a b => by rw [k.2]; exact h.oth i a b⟩
theorem RdOk.own {W A : Wd} {g : Nat} {rd : List Int} (h : RdOk W A g rd) (s : Int) : RdOk W (A.setSt g s) g rd := by
 by_cases hg : g < A.gs.length
 ·refine ⟨h.nd, by rw [setSt_len]; exact h.len, fun x hx => ?_, fun i a b => ?_⟩
  ·obtain ⟨i, a, b, c, d⟩ := h.st x hx
   exact ⟨i, a, b, c, by rw [setSt_at hg, if_neg (fun e => b e.symm)]; exact d⟩
  ·rw [setSt_at hg, if_neg (fun e => a e.symm)]; exact h.oth i a b
 ·unfold Wd.setSt; rw [setG_out hg]; exact h
theorem RdOk.more {W A : Wd} {g k : Nat} {rd : List Int} (h : RdOk W A g rd) (hk : k < A.gs.length) (hs : (A.g k).st ≠ 1) (hg : k ≠ g) : RdOk W (A.setSt k 1) g (rd ++ [(k : Int)]) := by
 have hn : (k : Int) ∉ rd := fun hm => by
  obtain ⟨i, a, -, -, d⟩ := h.st _ hm
  have : i = k := by omega
  subst this; exact hs d
 have h0 : (W.g k).st ≠ 1 := fun e => hs ((h.oth k hg hn).2 e)
 refine ⟨?_, by rw [setSt_len]; exact h.len, fun x hx => ?_, fun i a b => ?_⟩
 ·rw [List.nodup_append]
  exact ⟨h.nd, by simp, fun a ha b hb e => by simp at hb; subst hb; subst e; exact hn ha⟩
 ·rcases List.mem_append.1 hx with hx | hx
  ·obtain ⟨i, a, b, c, d⟩ := h.st x hx
   refine ⟨i, a, b, c, ?_⟩
   rw [setSt_at hk]
   split
   ·rfl
   ·exact d
  ·simp at hx
   exact ⟨k, hx, hg, h0, by rw [setSt_at hk, if_pos rfl]⟩
 ·simp only [List.mem_append, List.mem_singleton, not_or] at b
  rw [setSt_at hk, if_neg (fun e => b.2 (by omega))]
  exact h.oth i a b.1
theorem SameSt.leave (W : Wd) (g : Int) : SameSt W (W.leave g) := SameSt.of_gs rfl
theorem RdOk.goOn {W A : Wd} {g : Nat} {rd : List Int} (h : RdOk W A g rd) (hg : (A.g g).st = 1) {w : Wt} (hw : 0 ≤ w.1) (s : Bool) :
  RdOk W (goOnM A rd w s).1 g (goOnM A rd w s).2 ∧ ((goOnM A rd w s).1.g g).st = 1 := by
 unfold goOnM
 simp only
 split
 ·rename_i h2
  split
  ·rename_i x hx
   have hk : w.1.toNat < A.gs.length := by
    rcases Nat.lt_or_ge w.1.toNat A.gs.length with h1 | h1
    ·exact h1
    ·rw [g_out (by omega)] at h2; exact absurd h2 (by decide)
   have hne : w.1.toNat ≠ g := fun e => by rw [e, hg] at h2; omega
   have hss : SameSt A ((A.fin x w s).leave w.1) := (SameSt.fin A x w s).trans (SameSt.leave _ _)
   have hr := (h.same hss).more (k := w.1.toNat) (by rw [hss.1]; exact hk) (by rw [hss.2, h2]; decide) hne
   rw [show ((w.1.toNat : Nat) : Int) = w.1 by omega] at hr
   refine ⟨hr, ?_⟩
   rw [setSt_at (by rw [hss.1]; exact hk), if_neg hne, hss.2]; exact hg
  ·exact ⟨h, hg⟩
 ·exact ⟨h, hg⟩
theorem RdOk.goOns {W : Wd} {g : Nat} : ∀ (l : List Wt) (A : Wd) (rd : List Int), RdOk W A g rd → (A.g g).st = 1 → (∀ w ∈ l, 0 ≤ w.1) → RdOk W (goOnsM A rd l).1 g (goOnsM A rd l).2 ∧ ((goOnsM A rd l).1.g g).st = 1
 | [], A, rd, h, hg, _ => ⟨h, hg⟩
 | r :: t, A, rd, h, hg, hw => by
  obtain ⟨a, b⟩ := h.goOn hg (hw r (by simp)) false
  exact RdOk.goOns t _ _ a b (fun w hm => hw w (by simp [hm]))
def RdR (W : Wd) (g : Nat) (d : Dd) : Prop := RdOk W d.W g d.rd
theorem rd_send {B : Nat} {W : Wd} (h : WF B W) {g : Nat} (hg : (W.g g).st = 1) {x : In4} {c : Cs3} (c0 : 0 ≤ c.2.1 ∧ c.2.1 < (W.Cs.length : Int)) (place : Int) {d : Dd} (hd : sendM W [] g x c place = some d) : RdR W g d := by
 have hr := mSend_ok (h.cs _ (ch_mem c0)) (W.Ns.getD c.2.1.toNat 0) (ns_le h _) ((W.g g).rg c.2.2)
 unfold sendM at hd
 simp only at hd
 split at hd
 ·cases hd; exact RdOk.refl W g
 ·split at hd
  ·cases hd
   have h0 : RdOk W (W.setCh c.2.1 (mSend (W.Ns.getD c.2.1.toNat 0) (W.ch c.2.1) ((W.g g).rg c.2.2)).1) g [] := RdOk.base g rfl
   unfold RdR
   simp only
   split
   ·rename_i e
    exact (h0.goOn (by exact hg) (hr.2 e).1.1 true).1.same (SameSt.fin _ _ _ _)
   ·exact h0.same (SameSt.fin _ _ _ _)
  ·cases hd
theorem rd_recv {B : Nat} {W : Wd} (h : WF B W) {g : Nat} (hg : (W.g g).st = 1) {x : In4} {c : Cs3} (c0 : 0 ≤ c.2.1 ∧ c.2.1 < (W.Cs.length : Int)) (place : Int) {d : Dd} (hd : recvM W [] g x c place = some d) : RdR W g d := by
 have hr := mRecv_ok (h.cs _ (ch_mem c0))
 unfold recvM at hd
 simp only at hd
 split at hd
 ·cases hd
  have h0 : RdOk W (W.setCh c.2.1 (mRecv (W.ch c.2.1)).1) g [] := RdOk.base g rfl
  unfold RdR
  simp only
  split
  ·rename_i e
   exact (h0.goOn (by exact hg) (hr.2 e).1.1 false).1.same (SameSt.fin _ _ _ _)
  ·exact h0.same (SameSt.fin _ _ _ _)
 ·cases hd
theorem rd_try {B : Nat} {W : Wd} (h : WF B W) {g : Nat} (hg : (W.g g).st = 1) {n : Nat} {x : In4} (hx : InsW W n x) (ho : x.1 = 13 ∨ x.1 = 14 ∨ x.1 = 16) {place : Int} (hp : 0 ≤ place ∧ place < ((W.cas x).length : Int)) (h2 : ((W.cas x).getD place.toNat (1, 0, 0)).1 ≠ 2) {d : Dd} (hd : tryM W [] g x place = some d) : RdR W g d := by
 have hk := hx.casOk ho h.p.ck _ (cas_mem hp)
 have c0 := And.intro hk.2.1 (hk.2.2.1 h2)
 unfold tryM at hd
 simp only at hd
 split at hd
 ·exact rd_send h hg c0 place hd
 ·exact rd_recv h hg c0 place hd
theorem rd_wait (W : Wd) (g : Nat) (x : In4) : RdOk W (waitM W g x) g [] := (RdOk.base (W := W) (A := { W with Cs := wasF (g : Int) (W.g g).regs 0 (W.cas x) W.Cs }) g rfl).own 2
theorem rd_chan {B : Nat} {W : Wd} (h : WF B W) {g : Nat} {n : Nat} {x : In4} (ha : At W g x) (hx : InsW W n x) (ho : x.1 = 13 ∨ x.1 = 14) : RdR W g (chanM W [] g x) := by
 have hlen : (W.cas x).length = 1 := by unfold Wd.cas; rcases ho with e | e <;> simp [e]
 have h2 : ((W.cas x).getD (Int.toNat 0) (1, 0, 0)).1 ≠ 2 := by unfold Wd.cas; rcases ho with e | e <;> simp [e]
 unfold chanM
 cases e : tryM W [] g x 0 with
 | none => exact rd_wait W g x
 | some d => exact rd_try h ha.st hx (by rcases ho with e | e <;> simp [e]) (by rw [hlen]; omega) h2 e
theorem rd_choose {B : Nat} {W : Wd} (h : WF B W) {g : Nat} {n : Nat} {x : In4} (ha : At W g x) (hx : InsW W n x) (ho : x.1 = 16) {dr : Int} {go : Bool} (hd : go = true → (0 ≤ dr ∧ dr < ((W.cas x).length : Int)) ∧ ((W.cas x).getD dr.toNat (1, 0, 0)).1 ≠ 2) : RdR W g (chooseM W [] g x dr go) := by
 unfold chooseM
 split
 ·rename_i e
  cases e2 : tryM W [] g x dr with
  | none => exact RdOk.refl W g
  | some d => exact rd_try h ha.st hx (by simp [ho]) (hd e).1 (hd e).2 e2
 ·split
  ·exact rd_wait W g x
  ·exact (RdOk.refl W g).same (SameSt.put _ _ _ _)
theorem rd_close {B : Nat} {W : Wd} (h : WF B W) {g : Nat} (hg : (W.g g).st = 1) {n : Nat} {x : In4} (hx : InsW W n x) (ho : x.1 = 15) : RdR W g (closeM W [] x) := by
 have hC := h.cs _ (ch_mem (hx.o15 ho))
 unfold closeM
 simp only
 split
 ·exact RdOk.refl W g
 ·split
  ·exact ((RdOk.base (W := W) (A := W.setCh x.2.1 ⟨(W.ch x.2.1).buf, [], [], true⟩) g rfl).goOns _ _ _ (by exact hg) (fun w hw => (hC.2.2.2.2 w hw).1.1)).1
  ·exact RdOk.base g rfl
theorem rd_call (W : Wd) (g : Nat) (x : In4) : RdR W g (callM W [] g x) := by
 unfold callM
 simp only
 split
 ·exact RdOk.refl W g
 ·exact (RdOk.refl W g).same (SameSt.setG rfl)
theorem rd_ret (W : Wd) (g : Nat) (x : In4) : RdR W g (retM W [] g x) := by
 unfold retM
 simp only
 split
 ·exact ((RdOk.refl W g).own 4).same (SameSt.of_gs rfl)
 ·exact (RdOk.refl W g).same (SameSt.setG rfl)
theorem rd_spawn {W : Wd} {g : Nat} (hg : g < W.gs.length) (x : In4) : RdR W g (spawnM W [] g x) := by
 unfold spawnM
 split
 ·exact RdOk.refl W g
 ·refine RdOk.same (A := { W with gs := W.gs ++ [⟨1, 1, newF x.2.1 ((W.g g).rg x.2.2.1) 0⟩] }) ?_ (SameSt.put _ _ _ _)
  have e : ∀ k, ({ W with gs := W.gs ++ [⟨1, 1, newF x.2.1 ((W.g g).rg x.2.2.1) 0⟩] } : Wd).g k = if k = W.gs.length then ⟨1, 1, newF x.2.1 ((W.g g).rg x.2.2.1) 0⟩ else W.g k := fun k => by
   unfold Wd.g
   simp only [List.getD_eq_getElem?_getD]
   by_cases h1 : k < W.gs.length
   ·rw [List.getElem?_append_left h1, if_neg (by omega)]
   ·by_cases h2 : k = W.gs.length
    ·subst h2; rw [if_pos rfl, List.getElem?_append_right (Nat.le_refl _)]; simp
    ·have e1 : W.gs[k]? = none := List.getElem?_eq_none (by omega)
     rw [if_neg h2, e1, List.getElem?_eq_none (by simp; omega)]
  refine ⟨by simp, by simp, fun h hh => ?_, fun k hk hn => ?_⟩
  ·simp at hh
   refine ⟨W.gs.length, hh, by omega, ?_, ?_⟩
   ·rw [g_out (by omega)]; decide
   ·rw [e, if_pos rfl]
  ·rw [e, if_neg (fun e2 => hn (by simp [e2]))]
theorem rd_sleep (W : Wd) (g : Nat) (x : In4) : RdR W g (sleepM W [] g x) := by
 unfold sleepM
 simp only
 generalize (if 1048576 < (W.g g).rg x.2.1 then (1048576 : Int) else (W.g g).rg x.2.1) = t
 split
 ·exact RdOk.refl W g
 ·exact ((RdOk.refl W g).own 3).same (SameSt.of_gs rfl)
theorem rd_lock (W : Wd) (g : Nat) (x : In4) : RdR W g (lockM W [] g x) := by
 unfold lockM RdR
 simp only
 split
 ·exact RdOk.base g rfl
 ·exact (RdOk.base (W := W) (A := { W with Ls := W.Ls.set x.2.1.toNat (W.lk x.2.1 ++ [(g : Int)]) }) g rfl).own 2
theorem rd_unlock {B : Nat} {W : Wd} (h : WF B W) {g : Nat} (hg : (W.g g).st = 1) {n : Nat} {x : In4} (hx : InsW W n x) (ho : x.1 = 19) : RdR W g (unlockM W [] g x) := by
 have hi := hx.o18 (.inr ho)
 obtain ⟨a, b, c, d⟩ := h.ls _ _ (lk_get hi)
 unfold unlockM
 simp only
 generalize W.lk x.2.1 = L at *
 cases L with
 | nil => simp only [gaveR]; rw [if_neg (by decide)]; exact RdOk.refl W g
 | cons y t =>
  by_cases e : y = (g : Int)
  ·simp only [gaveR, gaveL, if_pos e]
   rw [if_pos trivial]
   split
   ·exact RdOk.base g rfl
   ·rename_i e1
    cases t with
    | nil => exact absurd rfl e1
    | cons z s =>
     simp only [List.headD_cons] at e1 ⊢
     obtain ⟨z0, z1⟩ := b z (by simp)
     obtain ⟨d1, -⟩ := d z (by simp)
     have hr := ((RdOk.refl W g).same (B := { W with Ls := W.Ls.set x.2.1.toNat (z :: s) }) (SameSt.of_gs rfl)).more (k := z.toNat) (by show z.toNat < W.gs.length; omega) (by show (W.g z.toNat).st ≠ 1; rw [d1]; decide) (fun e2 => by rw [e2, hg] at d1; omega)
     rw [show ((z.toNat : Nat) : Int) = z by omega] at hr
     exact hr
  ·simp only [gaveR, if_neg e]
   rw [if_neg (by decide)]; exact RdOk.refl W g
theorem rd_emit (W : Wd) (g : Nat) (x : In4) : RdR W g (emitM W [] g x) := by
 unfold emitM
 split
 ·exact RdOk.refl W g
 ·exact RdOk.base g rfl
theorem rd_deed {B : Nat} {W : Wd} (h : WF B W) {g : Nat} {n : Nat} {x : In4} (ha : At W g x) (hx : InsW W n x) {dr : Int} {go : Bool} (hd : x.1 = 16 → go = true → (0 ≤ dr ∧ dr < ((W.cas x).length : Int)) ∧ ((W.cas x).getD dr.toNat (1, 0, 0)).1 ≠ 2) : RdR W g (deedM W g x dr go) := by
 unfold deedM
 by_cases e : x.1 = 9
 ·rw [if_pos e]; exact rd_call W g x
 rw [if_neg e]
 clear e
 by_cases e : x.1 = 10
 ·rw [if_pos e]; exact rd_ret W g x
 rw [if_neg e]
 clear e
 by_cases e : x.1 = 11
 ·rw [if_pos e]; exact rd_spawn ha.lt x
 rw [if_neg e]
 clear e
 by_cases e : x.1 = 12
 ·rw [if_pos e]; exact RdOk.refl W g
 rw [if_neg e]
 clear e
 by_cases e : x.1 = 13
 ·rw [if_pos e]; exact rd_chan h ha hx (.inl e)
 rw [if_neg e]
 clear e
 by_cases e : x.1 = 14
 ·rw [if_pos e]; exact rd_chan h ha hx (.inr e)
 rw [if_neg e]
 clear e
 by_cases e : x.1 = 15
 ·rw [if_pos e]; exact rd_close h ha.st hx e
 rw [if_neg e]
 clear e
 by_cases e : x.1 = 16
 ·rw [if_pos e]; exact rd_choose h ha hx e (hd e)
 rw [if_neg e]
 clear e
 by_cases e : x.1 = 17
 ·rw [if_pos e]; exact rd_sleep W g x
 rw [if_neg e]
 clear e
 by_cases e : x.1 = 18
 ·rw [if_pos e]; exact rd_lock W g x
 rw [if_neg e]
 clear e
 by_cases e : x.1 = 19
 ·rw [if_pos e]; exact rd_unlock h ha.st hx e
 rw [if_neg e]
 clear e
 by_cases e : x.1 = 20
 ·rw [if_pos e]; exact rd_emit W g x
 rw [if_neg e]
 clear e
 by_cases e : x.1 = 21
 ·rw [if_pos e]; exact (RdOk.refl W g).same (SameSt.put _ _ _ _)
 rw [if_neg e]
 clear e
 exact RdOk.refl W g
theorem RdOk.from {W V A : Wd} {g : Nat} {rd : List Int} (s : SameSt W V) (h : RdOk V A g rd) : RdOk W A g rd :=
 ⟨h.nd, by rw [← s.1]; exact h.len, fun x hx => by obtain ⟨i, a, b, c, d⟩ := h.st x hx; exact ⟨i, a, b, by rw [← s.2]; exact c, d⟩, fun i a b => by rw [← s.2]; exact h.oth i a b⟩
theorem SameSt.end_ (d : Dd) : SameSt d.W d.end_ := by unfold Dd.end_; split <;> exact SameSt.of_gs rfl
theorem rd_do {B : Nat} {W : Wd} (h : WF B W) (hB : B ≤ 80000) {g : Nat} (hl : W.lets (g : Int)) (v : Int) : RdR W g (doM W g (W.ins g) (askM W ((W.ins g).getD (0, 0, 0, 0)) v).1 (askM W ((W.ins g).getD (0, 0, 0, 0)) v).2) := by
 obtain ⟨l1, l2, l3, l4⟩ := hl
 simp only [Int.toNat_natCast] at l4
 have hg : g < W.gs.length := by omega
 cases hx : W.ins g with
 | none => exact RdOk.refl W g
 | some x =>
  obtain ⟨k1, k2, k3⟩ := h.insOk hx
  obtain ⟨s1, s2, s3⟩ := h.step hg l4 hx
  simp only [Option.getD_some]
  have hask : x.1 = 16 → (askM W x v).2 = true → (0 ≤ (askM W x v).1 ∧ (askM W x v).1 < (((W.step g).cas x).length : Int)) ∧ (((W.step g).cas x).getD (askM W x v).1.toNat (1, 0, 0)).1 ≠ 2 := fun e1 e2 => by
   rw [cas_eq s3.ks]; exact askM_place e1 e2
  unfold doM
  simp only
  split
  ·exact (RdOk.refl W g).same (SameSt.setG rfl)
  ·rename_i e
   exact RdOk.from (V := W.step g) (SameSt.setG (W := W) (g := g) rfl) (rd_deed s1 s2 (k1.fol s3) hask)
theorem rd_exec {B : Nat} {W : Wd} (h : WF B W) (hB : B ≤ 80000) {g : Nat} (hl : W.lets (g : Int)) (v : Int) :
  RdOk W (execM W (g : Int) v).1 g (execM W (g : Int) v).2.2 ∧ ((execM W (g : Int) v).2.1 = true → ((execM W (g : Int) v).1.g g).st = 1 ∧ (execM W (g : Int) v).1.en = 0) := by
 unfold execM
 rw [if_pos hl]
 simp only [Int.toNat_natCast]
 refine ⟨(rd_do h hB hl v).same (SameSt.end_ _), fun e => ?_⟩
 unfold keepsM at e
 simp only [Bool.and_eq_true, decide_eq_true_eq] at e
 exact ⟨e.1.2, e.1.1⟩
structure TkOk (W W' : Wd) (rd : List Int) : Prop where
 nd : rd.Nodup
 len : W'.gs.length = W.gs.length
 st : ∀ h ∈ rd, ∃ k : Nat, h = (k : Int) ∧ (W.g k).st ≠ 1 ∧ (W'.g k).st = 1
 oth : ∀ k : Nat, (k : Int) ∉ rd → (W'.g k).st = (W.g k).st
theorem tk_woke : ∀ (l : List It) (W : Wd), (∀ x ∈ l, (0 ≤ x.id ∧ x.id < (W.gs.length : Int)) ∧ (W.g x.id.toNat).st = 3) → (l.map (·.id)).Nodup → TkOk W (wokeM W l) (l.map (·.id))
 | [], W, _, _ => ⟨by simp, rfl, fun h hh => by simp at hh, fun _ _ => rfl⟩
 | x :: t, W, h1, h2 => by
  obtain ⟨hx1, hx2⟩ := h1 x (by simp)
  have hg : x.id.toNat < W.gs.length := by omega
  have hxn : ((x.id.toNat : Nat) : Int) = x.id := by omega
  have h2' := h2
  rw [List.map_cons, List.nodup_cons] at h2
  have hid : ∀ y ∈ t, y.id.toNat ≠ x.id.toNat := fun y hy e => by
   obtain ⟨k1, -⟩ := h1 y (by simp [hy])
   have : y.id = x.id := by omega
   exact h2.1 (by rw [← this]; exact List.mem_map_of_mem (f := (·.id)) hy)
  obtain ⟨a, b, c, d⟩ := tk_woke t (W.setSt x.id.toNat 1) (fun y hy => by
    obtain ⟨k1, k2⟩ := h1 y (by simp [hy])
    refine ⟨by rw [setSt_len]; exact k1, ?_⟩
    rw [setSt_at hg, if_neg (fun e => hid y hy e.symm)]
    exact k2) h2.2
  refine ⟨h2', by show (wokeM (W.setSt x.id.toNat 1) t).gs.length = _; rw [b, setSt_len], fun h hh => ?_, fun k hk => ?_⟩
  ·rw [List.map_cons, List.mem_cons] at hh
   rcases hh with rfl | hh
   ·refine ⟨x.id.toNat, hxn.symm, by rw [hx2]; decide, ?_⟩
    show ((wokeM (W.setSt x.id.toNat 1) t).g x.id.toNat).st = 1
    rw [d _ (by rw [hxn]; exact h2.1), setSt_at hg, if_pos rfl]
   ·obtain ⟨k, k1, k2, k3⟩ := c h hh
    refine ⟨k, k1, fun e => k2 ?_, k3⟩
    rw [setSt_at hg]
    split
    ·rfl
    ·exact e
  ·rw [List.map_cons, List.mem_cons, not_or] at hk
   show ((wokeM (W.setSt x.id.toNat 1) t).g k).st = _
   rw [d k hk.2, setSt_at hg, if_neg (fun e => hk.1 (by omega))]
theorem tk_tick {B : Nat} {W : Wd} (h : WF B W) : TkOk W (tickM W).1 (tickM W).2 := by
 unfold tickM
 split
 ·simp only
  obtain ⟨a, b⟩ := wakes_perm _ W.hp ((W.clock : Int) + 1) (Nat.le_refl _)
  have hall : ∀ x, x ∈ (wakes W.hp ((W.clock : Int) + 1)).1 ∨ x ∈ (wakes W.hp ((W.clock : Int) + 1)).2 → x ∈ W.hp := fun x hx => a.mem_iff.1 (List.mem_append.2 hx)
  have hnd := (a.map (·.id)).nodup_iff.2 h.hp.2.1
  rw [List.map_append, List.nodup_append] at hnd
  have hw := tk_woke (wakes W.hp ((W.clock : Int) + 1)).1 { W with clock := W.clock + 1, hp := (wakes W.hp ((W.clock : Int) + 1)).2 } (fun x hx => by
   obtain ⟨k1, k2, -⟩ := h.hp.2.2.1 x (hall x (.inl hx)); exact ⟨k1, k2⟩) hnd.1
  exact ⟨hw.nd, hw.len, hw.st, hw.oth⟩
 ·exact ⟨by simp, rfl, fun h hh => by simp at hh, fun _ _ => rfl⟩
def Pm.l (P : Pm) : List Int := P.q.nx.toList ++ P.q.l
def Mm.l (M : Mm) : List Int := if M.G = -1 then [] else [M.G]
def Sd.all (X : Sd) : List Int := X.gl ++ (X.ps.flatMap Pm.l ++ X.ms.flatMap Mm.l)
theorem flat_get {α : Type} {f : α → List Int} : ∀ {l : List α} {i : Nat} {a : α}, l[i]? = some a → ∃ R, (l.flatMap f).Perm (f a ++ R) ∧ ∀ b, ((l.set i b).flatMap f).Perm (f b ++ R)
 | [], i, a, h => by simp at h
 | x :: l, 0, a, h => by
  simp at h; subst h
  exact ⟨l.flatMap f, by simp, fun b => by simp⟩
 | x :: l, i + 1, a, h => by
  obtain ⟨R, h1, h2⟩ := flat_get (f := f) (l := l) (i := i) (a := a) (by simpa using h)
  refine ⟨f x ++ R, ?_, fun b => ?_⟩
  ·rw [List.flatMap_cons]
   exact (h1.append_left (f x)).trans (by rw [← List.append_assoc, ← List.append_assoc]; exact List.perm_append_comm.append_right R)
  ·rw [List.set_cons_succ, List.flatMap_cons]
   exact ((h2 b).append_left (f x)).trans (by rw [← List.append_assoc, ← List.append_assoc]; exact List.perm_append_comm.append_right R)
theorem all_p {X : Sd} {i : Nat} (hi : i < X.ps.length) : ∃ R, X.all.Perm (X.gl ++ ((X.p i).l ++ R)) ∧ ∀ (Y : Sd) (P : Pm), Y.ps = X.ps.set i P → Y.ms = X.ms → Y.all.Perm (Y.gl ++ (P.l ++ R)) := by
 obtain ⟨R, h1, h2⟩ := flat_get (f := Pm.l) (X.p_at hi)
 refine ⟨R ++ X.ms.flatMap Mm.l, ?_, fun Y P e1 e2 => ?_⟩
 ·unfold Sd.all
  refine List.Perm.append_left _ ?_
  rw [← List.append_assoc]
  exact h1.append_right _
 ·unfold Sd.all
  refine List.Perm.append_left _ ?_
  rw [e1, e2, ← List.append_assoc]
  exact (h2 P).append_right _
theorem all_m {X : Sd} {i : Nat} (hi : i < X.ms.length) : ∃ R, X.all.Perm ((X.m i).l ++ R) ∧ ∀ (Y : Sd) (M : Mm), Y.ms = X.ms.set i M → Y.ps = X.ps → Y.gl = X.gl → Y.all.Perm (M.l ++ R) := by
 obtain ⟨R, h1, h2⟩ := flat_get (f := Mm.l) (X.m_at hi)
 have key : ∀ (a b c d : List Int), c.Perm (d ++ R) → (a ++ (b ++ c)).Perm (d ++ (a ++ (b ++ R))) := fun a b c d h => by
  refine ((h.append_left b).append_left a).trans ?_
  have e1 : (b ++ (d ++ R)).Perm (d ++ (b ++ R)) := by
   rw [← List.append_assoc, ← List.append_assoc]; exact List.perm_append_comm.append_right R
  exact (e1.append_left a).trans (List.perm_append_comm_assoc a d (b ++ R))
 exact ⟨X.gl ++ (X.ps.flatMap Pm.l ++ R), key _ _ _ _ h1, fun Y M e1 e2 e3 => by
  unfold Sd.all; rw [e1, e2, e3]; exact key _ _ _ _ (h2 M)⟩
theorem mPut_perm (N : Nat) (q : LQ) (v : Int) (gl : List Int) (hq : q.nx = none) : ((mPut N q v gl).2.1 ++ ((mPut N q v gl).1.nx.toList ++ (mPut N q v gl).1.l)).Perm (gl ++ (v :: q.l)) ∧ (mPut N q v gl).1.nx = none := by
 unfold mPut
 split
 ·refine ⟨?_, hq⟩
  simp only [hq, Option.toList_none, List.nil_append]
  exact List.Perm.append_left _ (List.perm_append_comm (l₁ := q.l) (l₂ := [v]))
 ·refine ⟨?_, hq⟩
  simp only [hq, Option.toList_none, List.nil_append]
  rw [List.append_assoc]
  refine List.Perm.append_left _ ?_
  have e : q.l = q.l.take (q.l.length / 2) ++ q.l.drop (q.l.length / 2) := (List.take_append_drop _ _).symm
  have h2 : (v :: q.l) = [v] ++ (q.l.take (q.l.length / 2) ++ q.l.drop (q.l.length / 2)) := by rw [← e]; rfl
  rw [h2, ← List.append_assoc]
  exact List.perm_append_comm.append_right _
theorem mTurn_perm (N : Nat) (q : LQ) (gl : List Int) : ((mTurn N q gl).2.1 ++ ((mTurn N q gl).1.nx.toList ++ (mTurn N q gl).1.l)).Perm (gl ++ (q.nx.toList ++ q.l)) ∧ (mTurn N q gl).1.nx = none := by
 unfold mTurn
 cases h : q.nx with
 | none => simp only; exact ⟨by rw [h], h⟩
 | some v =>
  simp only
  obtain ⟨a, b⟩ := mPut_perm N ⟨none, q.l⟩ v gl rfl
  exact ⟨by simpa using a, b⟩
theorem mGet_perm (q : LQ) : (q.nx.toList ++ q.l).Perm ((mGet q).2.toList ++ ((mGet q).1.nx.toList ++ (mGet q).1.l)) := by
 unfold mGet
 cases h : q.nx with
 | none =>
  cases h2 : q.l with
  | nil => simp [h, h2]
  | cons x t => simp
 | some v => simp
theorem take_tail {α : Type} (x : α) (t : List α) (k : Nat) (hk : 1 ≤ k) : (x :: t) = x :: (((x :: t).take k).tail ++ (x :: t).drop k) := by
 obtain ⟨j, rfl⟩ : ∃ j, k = j + 1 := ⟨k - 1, by omega⟩
 simp
theorem mFetch_perm (N : Nat) (q : LQ) (gl : List Int) (k : Int) : (gl ++ (q.nx.toList ++ q.l)).Perm ((mFetch N q gl k).2.2.toList ++ ((mFetch N q gl k).2.1 ++ ((mFetch N q gl k).1.nx.toList ++ (mFetch N q gl k).1.l))) := by
 unfold mFetch
 cases gl with
 | nil => simp
 | cons x t =>
  simp only [Option.toList_some]
  have h1 := mShare_pos N q (x :: t) k
  generalize mShare N q (x :: t) k = j at *
  have e := take_tail x t j h1
  generalize ((x :: t).take j).tail = A at *
  generalize (x :: t).drop j = Bq at *
  rw [e]
  simp only [List.cons_append, List.nil_append, List.perm_cons]
  have : (A ++ Bq ++ (q.nx.toList ++ q.l)).Perm (Bq ++ (q.nx.toList ++ q.l) ++ A) := by
   rw [List.append_assoc]; exact List.perm_append_comm
  simpa [List.append_assoc] using this
theorem mSteal_perm (N : Nat) (q f : LQ) : ((q.nx.toList ++ q.l) ++ (f.nx.toList ++ f.l)).Perm ((mSteal N q f).2.2.toList ++ (((mSteal N q f).1.nx.toList ++ (mSteal N q f).1.l) ++ ((mSteal N q f).2.1.nx.toList ++ (mSteal N q f).2.1.l))) := by
 unfold mSteal
 cases h : f.l with
 | nil =>
  simp only [Option.toList_none, List.append_nil]
  exact List.perm_append_comm
 | cons x t =>
  simp only [Option.toList_some]
  obtain ⟨j, hj⟩ : ∃ j, j = min (((x :: t).length + 1) / 2) (N - q.l.length + 1) := ⟨_, rfl⟩
  rw [← hj]
  have h1 : 1 ≤ j := by rw [hj, List.length_cons]; omega
  have e := take_tail x t j h1
  generalize ((x :: t).take j).tail = A at *
  generalize (x :: t).drop j = Bq at *
  rw [e]
  have h2 : (q.nx.toList ++ q.l ++ (f.nx.toList ++ x :: (A ++ Bq))).Perm (x :: (q.nx.toList ++ q.l ++ (f.nx.toList ++ (A ++ Bq)))) := by
   rw [← List.append_assoc, ← List.append_assoc]; exact List.perm_middle
  refine h2.trans ?_
  simp only [List.cons_append, List.nil_append, List.perm_cons]
  have h3 : (f.nx.toList ++ (A ++ Bq)).Perm (A ++ (f.nx.toList ++ Bq)) := by
   rw [← List.append_assoc, ← List.append_assoc]; exact List.perm_append_comm.append_right _
  have h4 := h3.append_left (q.nx.toList ++ q.l)
  simpa [List.append_assoc] using h4
theorem setP_p {X : Sd} {i : Nat} (hi : i < X.ps.length) (P : Pm) (j : Nat) : (X.setP i P).p j = if i = j then P else X.p j := by
 unfold Sd.setP Sd.p
 simp only [List.getD_eq_getElem?_getD, List.getElem?_set]
 split
 ·simp [hi]
 ·rfl
theorem setM_m {X : Sd} {i : Nat} (hi : i < X.ms.length) (M : Mm) (j : Nat) : (X.setM i M).m j = if i = j then M else X.m j := by
 unfold Sd.setM Sd.m
 simp only [List.getD_eq_getElem?_getD, List.getElem?_set]
 split
 ·simp [hi]
 ·rfl
theorem perm_in {a b c R : List Int} (h : a.Perm (b ++ c)) : (a ++ R).Perm (b ++ (c ++ R)) := by rw [← List.append_assoc]; exact h.append_right R
theorem turn_perm {X : Sd} {i : Nat} (hi : i < X.ps.length) : (turnM X i).all.Perm X.all := by
 obtain ⟨R, h1, h2⟩ := all_p hi
 refine (h2 (turnM X i) _ rfl rfl).trans (List.Perm.trans ?_ h1.symm)
 have h3 := (mTurn_perm (X.p i).N (X.p i).q X.gl).1
 have h4 := h3.append_right R
 simpa [turnM, Pm.l, List.append_assoc] using h4
theorem near_perm {X : Sd} {i : Nat} (hi : i < X.ps.length) : X.all.Perm ((nearM X i).2.toList ++ (nearM X i).1.all) := by
 obtain ⟨R, h1, h2⟩ := all_p hi
 unfold nearM
 split
 ·rename_i h
  simp only
  cases hg : X.gl with
  | nil => exact absurd hg h.2
  | cons x t =>
   refine h1.trans ?_
   rw [hg]
   have := h2 { X with gl := t } (X.p i) (by show X.ps = X.ps.set i (X.p i); rw [set_self _ _ _ (X.p_at hi)]) rfl
   exact List.Perm.cons _ this.symm
 ·have hG := mGet_perm (X.p i).q
  split
  ·rename_i g hg
   rw [hg] at hG
   simp only
   refine h1.trans ?_
   have h3 := h2 (X.setP i { X.p i with q := (mGet (X.p i).q).1 }) _ rfl rfl
   refine List.Perm.trans ?_ (h3.symm.append_left [g])
   have h4 : (X.gl ++ ((X.p i).l ++ R)).Perm (X.gl ++ ([g] ++ (((mGet (X.p i).q).1.nx.toList ++ (mGet (X.p i).q).1.l) ++ R))) := (perm_in hG).append_left X.gl
   refine h4.trans ?_
   rw [← List.append_assoc]
   refine (List.perm_append_comm.append_right _).trans ?_
   rw [List.append_assoc]
   exact List.Perm.refl _
  ·rename_i hg
   refine h1.trans ?_
   have h3 := h2 { X.setP i { X.p i with q := (mFetch (X.p i).N (X.p i).q X.gl 0).1 } with gl := (mFetch (X.p i).N (X.p i).q X.gl 0).2.1 } _ rfl rfl
   refine List.Perm.trans ?_ (h3.symm.append_left _)
   have h5 := mFetch_perm (X.p i).N (X.p i).q X.gl 0
   have h6 := h5.append_right R
   simpa [Pm.l, List.append_assoc] using h6
theorem mTurn_none (N : Nat) (q : LQ) (gl : List Int) (h : q.nx = none) : mTurn N q gl = (q, gl, 0) := by unfold mTurn; rw [h]
theorem near_none {X : Sd} {i : Nat} (hi : i < X.ps.length) (h : (nearM (turnM X i) i).2 = none) : (X.p i).q = ⟨none, []⟩ ∧ X.gl = [] ∧ (nearM (turnM X i) i).1 = X := by
 have hl : i < (turnM X i).ps.length := by unfold turnM Sd.setP; simpa using hi
 have hp : (turnM X i).p i = { X.p i with q := (mTurn (X.p i).N (X.p i).q X.gl).1 } := by
  have := setP_p hi { X.p i with q := (mTurn (X.p i).N (X.p i).q X.gl).1 } i
  rw [if_pos rfl] at this; exact this
 have hn := (mTurn_perm (X.p i).N (X.p i).q X.gl).2
 have hgl : (turnM X i).gl = (mTurn (X.p i).N (X.p i).q X.gl).2.1 := rfl
 have h' := h
 unfold nearM at h
 split at h
 ·rename_i h0
  simp only at h
  rw [List.head?_eq_none_iff] at h
  exact absurd h h0.2
 ·split at h
  ·cases h
  ·rename_i hg
   have e1 : ((turnM X i).p i).q.l = [] := by
    unfold mGet at hg
    rw [hp] at hg ⊢
    simp only [hn] at hg
    cases e : (mTurn (X.p i).N (X.p i).q X.gl).1.l with
    | nil => rfl
    | cons x t => rw [e] at hg; cases hg
   have e2 : (turnM X i).gl = [] := by
    unfold mFetch at h
    cases e : (turnM X i).gl with
    | nil => rfl
    | cons x t => rw [e] at h; cases h
   have hq : (X.p i).q.nx = none := by
    cases e : (X.p i).q.nx with
    | none => rfl
    | some v =>
     rw [hp] at e1
     rw [hgl] at e2
     simp only at e1
     unfold mTurn mPut at e1 e2
     simp only [e] at e1 e2
     split at e1
     ·simp at e1
     ·rename_i hc; rw [if_neg hc] at e2; simp at e2
   have ht := mTurn_none (X.p i).N (X.p i).q X.gl hq
   have e3 : (X.p i).q.l = [] := by rw [hp, ht] at e1; exact e1
   have e4 : X.gl = [] := by rw [hgl, ht] at e2; exact e2
   have hqq : (X.p i).q = ⟨none, []⟩ := by
    cases hq2 : (X.p i).q with
    | mk a b => rw [hq2] at hq e3; simp only at hq e3; subst hq; subst e3; rfl
   have hT : turnM X i = X := by
    unfold turnM
    rw [ht]
    unfold Sd.setP
    simp only
    rw [set_self _ _ _ (X.p_at hi)]
   refine ⟨hqq, e4, ?_⟩
   rw [hT] at h' ⊢
   unfold nearM
   rw [if_neg (fun hc => hc.2 e4)]
   have hg2 : (mGet (X.p i).q).2 = none := by rw [hqq]; rfl
   rw [hg2]
   simp only
   unfold Sd.setP
   rw [e4, hqq]
   simp only [mFetch]
   have : ({ X.p i with q := ⟨none, []⟩ } : Pm) = X.p i := by rw [← hqq]
   rw [this, set_self _ _ _ (X.p_at hi)]
   show ({ X with gl := [] } : Sd) = X
   rw [← e4]
structure Sl where
 pa : Option Addr
 ma : Option Addr
 ld : List (Nat × Nat)
 mc : Nat
def SAt (w0 w : World) (b sp : Nat) (L : Sl) (X : Sd) (R : List Asr) : Prop := ∃ S : Sa, S.fits X ∧ (S.pa = L.pa ∧ (S.ma = L.ma ∧ S.mc = L.mc) ∧ S.ld = L.ld) ∧ Own w0 w (schP b sp X S ++ R)
section
variable {w0 w : World} {b sp : Nat} {L : Sl} {X : Sd} {R : List Asr}
theorem Own.sat (h : Own w0 w (SchA b sp X :: R)) : ∃ L, SAt w0 w b sp L X R := by
 obtain ⟨S, hf, h1⟩ := h.sch
 exact ⟨⟨S.pa, S.ma, S.ld, S.mc⟩, S, hf, ⟨rfl, ⟨rfl, rfl⟩, rfl⟩, h1⟩
theorem SAt.to (h : SAt w0 w b sp L X R) : Own w0 w (SchA b sp X :: R) := by obtain ⟨S, hf, -, h⟩ := h; exact Own.toSch hf h
theorem SAt.step {w' : World} (h : SAt w0 w b sp L X R) (hb : Below w.heap.size w w') : SAt w0 w' b sp L X R := by obtain ⟨S, hf, e, h⟩ := h; exact ⟨S, hf, e, h.step hb⟩
theorem SAt.bel (h : SAt w0 w b sp L X R) : Below w0.heap.size w0 w := by obtain ⟨S, hf, e, h⟩ := h; exact h.bel
theorem SAt.c11 (h : SAt w0 w b sp L X R) : w.cell? ⟨b, 11, none⟩ = some (.pointer (some ⟨sp, 0, none⟩)) := by obtain ⟨S, hf, e, h⟩ := h; exact (h.cel 0 rfl 11 _ rfl).1
theorem SAt.c12 (h : SAt w0 w b sp L X R) : ∃ c, w.cell? ⟨b, 12, none⟩ = some (.slice L.pa X.ps.length c) := by obtain ⟨S, hf, ⟨e, -, -⟩, h⟩ := h; rw [← e]; exact ⟨_, (h.cel 0 rfl 12 _ rfl).1⟩
theorem SAt.c13 (h : SAt w0 w b sp L X R) : ∃ c, w.cell? ⟨b, 13, none⟩ = some (.slice L.ma X.ms.length c) := by obtain ⟨S, hf, ⟨-, e, -⟩, h⟩ := h; rw [← e.1]; exact ⟨_, (h.cel 0 rfl 13 _ rfl).1⟩
theorem SAt.c13' (h : SAt w0 w b sp L X R) : w.cell? ⟨b, 13, none⟩ = some (.slice L.ma X.ms.length L.mc) := by obtain ⟨S, hf, ⟨-, e, -⟩, h⟩ := h; rw [← e.1, ← e.2]; exact (h.cel 0 rfl 13 _ rfl).1
theorem SAt.c15 (h : SAt w0 w b sp L X R) : w.cell? ⟨b, 15, none⟩ = some (.int .i64 X.sl) := by obtain ⟨S, hf, e, h⟩ := h; exact (h.cel 0 rfl 15 _ rfl).1
theorem SAt.c16 (h : SAt w0 w b sp L X R) : w.cell? ⟨b, 16, none⟩ = some (.int .i64 (X.st : Int)) ∧ w.frozen? ⟨b, 16, none⟩ = false := by obtain ⟨S, hf, e, h⟩ := h; exact h.cel 0 rfl 16 _ rfl
theorem SAt.pa (h : SAt w0 w b sp L X R) {i : Nat} (hi : i < X.ps.length) : ∃ pb off p g, L.pa = some ⟨pb, off, none⟩ ∧ L.ld[i]? = some (p, g) := by
 obtain ⟨S, hf, ⟨e1, e2, e3⟩, h⟩ := h
 obtain ⟨pb, off, p, g, k1, k2, -⟩ := sp_proc h hf hi
 exact ⟨pb, off, p, g, by rw [← e1]; exact k1, by rw [← e3]; exact k2⟩
theorem SAt.ma (h : SAt w0 w b sp L X R) {i : Nat} (hi : i < X.ms.length) : ∃ mb off, L.ma = some ⟨mb, off, none⟩ := by
 obtain ⟨S, hf, ⟨e1, e2, e3⟩, h⟩ := h
 obtain ⟨mb, off, k1, -⟩ := sp_mach h hi
 exact ⟨mb, off, by rw [← e2.1]; exact k1⟩
theorem SAt.proc (h : SAt w0 w b sp L X R) {i pb off p g : Nat} (hi : i < X.ps.length) (hpa : L.pa = some ⟨pb, off, none⟩) (hld : L.ld[i]? = some (p, g)) :
  (w.cell? ⟨pb, off + i * 3, none⟩ = some (.pointer (some ⟨p, 0, none⟩)) ∧ w.cell? ⟨pb, off + i * 3 + 1, none⟩ = some (.int .i64 ((X.p i).tu : Int)) ∧ w.cell? ⟨pb, off + i * 3 + 2, none⟩ = some (.int .i64 (X.p i).by_)) ∧
  w.frozen? ⟨pb, off + i * 3 + 1, none⟩ = false ∧ w.frozen? ⟨pb, off + i * 3 + 2, none⟩ = false := by
 obtain ⟨S, hf, ⟨e1, e2, e3⟩, h⟩ := h
 obtain ⟨pb', off', p', g', k1, k2, k3⟩ := sp_proc h hf hi
 rw [e1, hpa] at k1; rw [e3, hld] at k2
 cases k1; cases k2
 exact k3
theorem SAt.mach (h : SAt w0 w b sp L X R) {i mb off : Nat} (hi : i < X.ms.length) (hma : L.ma = some ⟨mb, off, none⟩) :
  (w.cell? ⟨mb, off + i * 3, none⟩ = some (.int .i64 (X.m i).P) ∧ w.cell? ⟨mb, off + i * 3 + 1, none⟩ = some (.int .i64 (X.m i).G) ∧ w.cell? ⟨mb, off + i * 3 + 2, none⟩ = some (.int .i64 (X.m i).L)) ∧
  w.frozen? ⟨mb, off + i * 3, none⟩ = false ∧ w.frozen? ⟨mb, off + i * 3 + 1, none⟩ = false ∧ w.frozen? ⟨mb, off + i * 3 + 2, none⟩ = false := by
 obtain ⟨S, hf, ⟨e1, e2, e3⟩, h⟩ := h
 obtain ⟨mb', off', k1, k2⟩ := sp_mach h hi
 rw [e2.1, hma] at k1
 cases k1
 exact k2
theorem SAt.setBy (h : SAt w0 w b sp L X R) {i pb off : Nat} (hi : i < X.ps.length) (hpa : L.pa = some ⟨pb, off, none⟩) (t : Int) : SAt w0 (w.setCell ⟨pb, off + i * 3 + 2, none⟩ (.int .i64 t)) b sp L (X.setP i { X.p i with by_ := t }) R := by
 obtain ⟨S, hf, ⟨e1, e2, e3⟩, h⟩ := h
 exact ⟨S, hf.setP _ _, ⟨e1, e2, e3⟩, own_by h hf hi (by rw [e1]; exact hpa) t⟩
theorem SAt.setTu (h : SAt w0 w b sp L X R) {i pb off : Nat} (hi : i < X.ps.length) (hpa : L.pa = some ⟨pb, off, none⟩) (t : Nat) : SAt w0 (w.setCell ⟨pb, off + i * 3 + 1, none⟩ (.int .i64 (t : Int))) b sp L (X.setP i { X.p i with tu := t }) R := by
 obtain ⟨S, hf, ⟨e1, e2, e3⟩, h⟩ := h
 exact ⟨S, hf.setP _ _, ⟨e1, e2, e3⟩, own_tu h hf hi (by rw [e1]; exact hpa) t⟩
theorem SAt.setP (h : SAt w0 w b sp L X R) {i mb off : Nat} (hi : i < X.ms.length) (hma : L.ma = some ⟨mb, off, none⟩) (t : Int) : SAt w0 (w.setCell ⟨mb, off + i * 3, none⟩ (.int .i64 t)) b sp L (X.setM i { X.m i with P := t }) R := by
 obtain ⟨S, hf, ⟨e1, e2, e3⟩, h⟩ := h
 exact ⟨S, hf.setM _ _, ⟨e1, e2, e3⟩, own_mP h hi (by rw [e2.1]; exact hma) t⟩
theorem SAt.setG (h : SAt w0 w b sp L X R) {i mb off : Nat} (hi : i < X.ms.length) (hma : L.ma = some ⟨mb, off, none⟩) (t : Int) : SAt w0 (w.setCell ⟨mb, off + i * 3 + 1, none⟩ (.int .i64 t)) b sp L (X.setM i { X.m i with G := t }) R := by
 obtain ⟨S, hf, ⟨e1, e2, e3⟩, h⟩ := h
 exact ⟨S, hf.setM _ _, ⟨e1, e2, e3⟩, own_mG h hi (by rw [e2.1]; exact hma) t⟩
theorem SAt.setL (h : SAt w0 w b sp L X R) {i mb off : Nat} (hi : i < X.ms.length) (hma : L.ma = some ⟨mb, off, none⟩) (t : Int) : SAt w0 (w.setCell ⟨mb, off + i * 3 + 2, none⟩ (.int .i64 t)) b sp L (X.setM i { X.m i with L := t }) R := by
 obtain ⟨S, hf, ⟨e1, e2, e3⟩, h⟩ := h
 exact ⟨S, hf.setM _ _, ⟨e1, e2, e3⟩, own_mL h hi (by rw [e2.1]; exact hma) t⟩
theorem SAt.setSt (h : SAt w0 w b sp L X R) (t : Nat) : SAt w0 (w.setCell ⟨b, 16, none⟩ (.int .i64 (t : Int))) b sp L { X with st := t } R := by
 obtain ⟨S, hf, e, h⟩ := h
 exact ⟨S, ⟨hf.w, hf.l⟩, e, h.setAt 0 rfl 16 _⟩
theorem SAt.world (h : SAt w0 w b sp L X R) : ∃ T Q, Own w0 w (WldA b X.W T :: (Q ++ R)) ∧ ∀ w' W' R', Own w0 w' (WldA b W' T :: (Q ++ R')) → SAt w0 w' b sp L { X with W := W' } R' := by
 obtain ⟨S, hf, e, h⟩ := h
 refine ⟨stl sp X S, squeue X S, h.toW hf, fun w' W' R' h' => ?_⟩
 obtain ⟨D', h1, h2⟩ := Own.ofW (X := X) (S := S) hf.l h'
 exact ⟨_, h1, e, h2⟩
theorem SAt.tail (h : SAt w0 w b sp L X R) : ∃ S, Own w0 w (R ++ S) ∧ ∀ w' R', Own w0 w' (R' ++ S) → SAt w0 w' b sp L X R' := by
 obtain ⟨S, hf, e, h⟩ := h
 exact ⟨schP b sp X S, h.perm List.perm_append_comm, fun w' R' h' => ⟨S, hf, e, h'.perm List.perm_append_comm⟩⟩
theorem SAt.less {A : Asr} (h : SAt w0 w b sp L X (A :: R)) : SAt w0 w b sp L X R := by
 obtain ⟨S, h1, h2⟩ := h.tail
 exact h2 _ _ (Own.drop h1)
theorem sd_get (h : SAt w0 w b sp L X R) {i p g : Nat} (hi : i < X.ps.length) (hld : L.ld[i]? = some (p, g)) :
  Calls Tryz.prog 70 #[.pointer (some ⟨p, 0, none⟩)] w fun r w' => r = .returned (gotv (mGet (X.p i).q).2) ∧ SAt w0 w' b sp L (X.setP i { X.p i with q := (mGet (X.p i).q).1 }) R := by
 obtain ⟨S, hf, ⟨e1, e2, e3⟩, h⟩ := h
 exact (own_q1 h hf hi (by rw [e3]; exact hld) (fun R' h' => own_get8 h')).mono (fun r w' hh => ⟨hh.1, S, hf.setP _ _, ⟨e1, e2, e3⟩, hh.2⟩)
theorem sd_turn (h : SAt w0 w b sp L X R) {i p g : Nat} (hi : i < X.ps.length) (hld : L.ld[i]? = some (p, g)) (hl : X.gl.length ≤ 1000000) :
  Calls Tryz.prog 90 #[.pointer (some ⟨p, 0, none⟩), .pointer (some ⟨b, 14, none⟩)] w fun r w' => r = .returned (.int .i64 ((mTurn (X.p i).N (X.p i).q X.gl).2.2 : Int)) ∧ SAt w0 w' b sp L (turnM X i) R := by
 obtain ⟨S, hf, ⟨e1, e2, e3⟩, h⟩ := h
 have e : (mTurn (X.p i).N (X.p i).q X.gl).1 = ⟨none, (mTurn (X.p i).N (X.p i).q X.gl).1.l⟩ := by
  have := (mTurn_perm (X.p i).N (X.p i).q X.gl).2
  cases h2 : (mTurn (X.p i).N (X.p i).q X.gl).1 with
  | mk a c => rw [h2] at this; simp only at this; subst this; rfl
 refine (own_qg h hf hi (by rw [e3]; exact hld) (fun R' h' => own_turn8 h' hl)).mono (fun r w' hh => ?_)
 obtain ⟨h1, a, c, h2⟩ := hh
 refine ⟨h1, { S with ga := a, gc := c }, ⟨hf.w, by rw [hf.l]; unfold turnM Sd.setP; simp⟩, ⟨e1, e2, e3⟩, ?_⟩
 rw [← e] at h2
 exact h2
theorem sd_fetch (h : SAt w0 w b sp L X R) {i p g : Nat} (hi : i < X.ps.length) (hld : L.ld[i]? = some (p, g)) (hl : X.gl.length ≤ 1000000) (k : Int) :
  Calls Tryz.prog 108 #[.pointer (some ⟨p, 0, none⟩), .pointer (some ⟨b, 14, none⟩), .int .i64 k] w fun r w' => r = .returned (gotv (mFetch (X.p i).N (X.p i).q X.gl k).2.2) ∧ SAt w0 w' b sp L { X.setP i { X.p i with q := (mFetch (X.p i).N (X.p i).q X.gl k).1 } with gl := (mFetch (X.p i).N (X.p i).q X.gl k).2.1 } R := by
 obtain ⟨S, hf, ⟨e1, e2, e3⟩, h⟩ := h
 refine (own_qg h hf hi (by rw [e3]; exact hld) (fun R' h' => own_fetch8 h' k hl)).mono (fun r w' hh => ?_)
 obtain ⟨h1, a, c, h2⟩ := hh
 exact ⟨h1, { S with ga := a, gc := c }, ⟨hf.w, by rw [hf.l]; unfold Sd.setP; simp⟩, ⟨e1, e2, e3⟩, h2⟩
theorem sd_ready (h : SAt w0 w b sp L X R) {i p g : Nat} (hi : i < X.ps.length) (hld : L.ld[i]? = some (p, g)) (hl : X.gl.length ≤ 1000000) (v : Int) :
  Calls Tryz.prog 73 #[.pointer (some ⟨p, 0, none⟩), .int .i64 v, .pointer (some ⟨b, 14, none⟩)] w fun r w' => r = .returned (.int .i64 ((mReady (X.p i).N (X.p i).q v X.gl).2.2 : Int)) ∧ SAt w0 w' b sp L { X.setP i { X.p i with q := (mReady (X.p i).N (X.p i).q v X.gl).1 } with gl := (mReady (X.p i).N (X.p i).q v X.gl).2.1 } R := by
 obtain ⟨S, hf, ⟨e1, e2, e3⟩, h⟩ := h
 refine (own_qg h hf hi (by rw [e3]; exact hld) (fun R' h' => own_ready8 h' v hl)).mono (fun r w' hh => ?_)
 obtain ⟨h1, a, c, h2⟩ := hh
 exact ⟨h1, { S with ga := a, gc := c }, ⟨hf.w, by rw [hf.l]; unfold Sd.setP; simp⟩, ⟨e1, e2, e3⟩, h2⟩
theorem ofG0 {S : Sa} {w' : World} {gl : List Int} (hf : S.fits X) (e : S.pa = L.pa ∧ (S.ma = L.ma ∧ S.mc = L.mc) ∧ S.ld = L.ld) (h : Own w0 w' (gloA (gpOf b sp X S) gl :: LstA (locs (qds S.ld X.ps)) :: (sfar X S ++ R))) : SAt w0 w' b sp L { X with gl := gl } R := by
 obtain ⟨a, c, h2⟩ := Own.ofG (X := X) (S := S) (ps := X.ps) rfl h rfl
 exact ⟨{ S with ga := a, gc := c }, ⟨hf.w, hf.l⟩, e, h2⟩
theorem sd_gput (h : SAt w0 w b sp L X R) (a : Option Addr) (n c : Nat) (m : List Int) (hn : n = m.length) (hm : IntsAt w a m) (hl : X.gl.length + m.length ≤ 1000000000) :
  Calls Tryz.prog 28 #[.pointer (some ⟨b, 14, none⟩), .slice a n c] w fun r w' => r = .returned (.tuple #[]) ∧ SAt w0 w' b sp L { X with gl := X.gl ++ m } R := by
 obtain ⟨S, hf, e, h⟩ := h
 exact (own_gput8 h.toG a n c m hn hm hl).mono (fun r w' hh => ⟨hh.1, ofG0 hf e hh.2⟩)
theorem sd_gtake (h : SAt w0 w b sp L X R) (k : Int) (hl : X.gl.length ≤ 1000000) :
  Calls Tryz.prog 107 #[.pointer (some ⟨b, 14, none⟩), .int .i64 k] w fun r w' => ∃ a' c', r = .returned (.slice a' (takes k X.gl.length) c') ∧ IntsAt w' a' (X.gl.take (takes k X.gl.length)) ∧ SAt w0 w' b sp L { X with gl := X.gl.drop (takes k X.gl.length) } R := by
 obtain ⟨S, hf, e, h⟩ := h
 refine (own_gtake8 h.toG k hl).mono (fun r w' hh => ?_)
 obtain ⟨a', c', h1, h2⟩ := hh
 exact ⟨a', c', h1, (h2.row 0 rfl).ints, ofG0 hf e h2.drop⟩
theorem SAt.loc (h : SAt w0 w b sp L X R) {i p g : Nat} (hi : i < X.ps.length) (hld : L.ld[i]? = some (p, g)) : LocAt w p g (X.p i).N (X.p i).q := by
 obtain ⟨S, hf, ⟨e1, e2, e3⟩, h⟩ := h
 obtain ⟨F, ⟨-, h1⟩, -⟩ := (h.pick 2 rfl).lstFact (locs_at (qds_at (by rw [e3]; exact hld) (X.p_at hi)))
 exact h1
theorem sd_next (h : SAt w0 w b sp L X R) {i p g : Nat} (hi : i < X.ps.length) (hld : L.ld[i]? = some (p, g)) :
  Calls Tryz.prog 38 #[.pointer (some ⟨p, 0, none⟩)] w fun r w' => r = .returned (.int .i64 (X.p i).q.num) ∧ w' = w := lnext_any w p g _ _ (h.loc hi hld)
theorem sd_steal (h : SAt w0 w b sp L X R) {i v p g p' g' : Nat} (hi : i < X.ps.length) (hv : v < X.ps.length) (hne : i ≠ v) (hld : L.ld[i]? = some (p, g)) (hld' : L.ld[v]? = some (p', g')) :
  Calls Tryz.prog 92 #[.pointer (some ⟨p, 0, none⟩), .pointer (some ⟨p', 0, none⟩)] w fun r w' => r = .returned (gotv (mSteal (X.p i).N (X.p i).q (X.p v).q).2.2) ∧
   SAt w0 w' b sp L ((X.setP i { X.p i with q := (mSteal (X.p i).N (X.p i).q (X.p v).q).1 }).setP v { X.p v with q := (mSteal (X.p i).N (X.p i).q (X.p v).q).2.1 }) R := by
 obtain ⟨S, hf, ⟨e1, e2, e3⟩, h⟩ := h
 rw [← e3] at hld hld'
 have k0 := (h.pick 2 rfl).unl
 have hL : (locs (qds S.ld X.ps))[i]? = some (locA (qd1 (p, g) (X.p i))) := locs_at (qds_at hld (X.p_at hi))
 have hL' : (locs (qds S.ld X.ps))[v]? = some (locA (qd1 (p', g') (X.p v))) := locs_at (qds_at hld' (X.p_at hv))
 obtain ⟨R', r1, r2⟩ := pick2_perm _ i v _ _ hL hL' hne
 have k1 : Own w0 w (locA (qd1 (p, g) (X.p i)) :: locA (qd1 (p', g') (X.p v)) :: (R' ++ (schP b sp X S ++ R).eraseIdx 2)) := k0.perm (r1.append_right _)
 refine (own_steal8 k1).mono (fun r w' hh => ⟨hh.1, ?_⟩)
 have k2 : Own w0 w' ((locs (qds S.ld (X.ps.set i { X.p i with q := (mSteal (X.p i).N (X.p i).q (X.p v).q).1 } |>.set v { X.p v with q := (mSteal (X.p i).N (X.p i).q (X.p v).q).2.1 }))) ++ (schP b sp X S ++ R).eraseIdx 2) := by
  rw [← qds_set v hld', ← qds_set i hld, ← locs_set, ← locs_set]
  exact hh.2.perm ((r2 _ _).append_right _)
 have k3 := (Own.lst k2).back (As := schP b sp X S ++ R) (i := 2) (by simp [schP])
 have ev : (X.ps.set i { X.p i with q := (mSteal (X.p i).N (X.p i).q (X.p v).q).1 })[v]? = some (X.p v) := by rw [List.getElem?_set_ne hne]; exact X.p_at hv
 have e4 : pcs S.ld ((X.ps.set i { X.p i with q := (mSteal (X.p i).N (X.p i).q (X.p v).q).1 }).set v { X.p v with q := (mSteal (X.p i).N (X.p i).q (X.p v).q).2.1 }) = pcs S.ld X.ps := (pcs_q hld' ev _).trans (pcs_q hld (X.p_at hi) _)
 refine ⟨S, (hf.setP _ _).setP _ _, ⟨e1, e2, e3⟩, ?_⟩
 have hlen : ((X.ps.set i { X.p i with q := (mSteal (X.p i).N (X.p i).q (X.p v).q).1 }).set v { X.p v with q := (mSteal (X.p i).N (X.p i).q (X.p v).q).2.1 }).length = X.ps.length := by simp
 unfold schP stl Sd.setP
 simp only
 rw [hlen, e4]
 exact k3
end
end Go.Proofs.YtodjgipiomnnfaaGreat
open Go Go.RowKit
set_option linter.unusedVariables false
namespace Go.Proofs.YtodjgipiomnnfaaGreat
theorem near_glo {X : Sd} {i : Nat} (h : (X.p i).tu % 7 = 6) (hg : X.gl ≠ []) : nearM X i = ({ X with gl := X.gl.tail }, X.gl.head?) := by unfold nearM; rw [if_pos ⟨h, hg⟩]
theorem near_far {X : Sd} {i : Nat} (h : ¬ ((X.p i).tu % 7 = 6 ∧ X.gl ≠ [])) : nearM X i = match (mGet (X.p i).q).2 with
  | some g => (X.setP i { X.p i with q := (mGet (X.p i).q).1 }, some g)
  | none => ({ X.setP i { X.p i with q := (mFetch (X.p i).N (X.p i).q X.gl 0).1 } with gl := (mFetch (X.p i).N (X.p i).q X.gl 0).2.1 }, (mFetch (X.p i).N (X.p i).q X.gl 0).2.2) := by unfold nearM; rw [if_neg h]; rfl
theorem mGet_none {q : LQ} (h : (mGet q).2 = none) : (mGet q).1 = q := by
 unfold mGet at *
 split
 ·rename_i e; rw [e] at h; cases h
 ·rename_i e
  rw [e] at h
  simp only at h
  split
  ·rfl
  ·rename_i e2; rw [e2] at h; cases h
theorem setP_self {X : Sd} {i : Nat} (hi : i < X.ps.length) {P : Pm} (e : P = X.p i) : X.setP i P = X := by
 unfold Sd.setP; rw [e, set_self _ _ _ (X.p_at hi)]
def nearB (X : Sd) (i : Nat) : Sd × Option Int := match (mGet (X.p i).q).2 with
  | some g => (X.setP i { X.p i with q := (mGet (X.p i).q).1 }, some g)
  | none => ({ X.setP i { X.p i with q := (mFetch (X.p i).N (X.p i).q X.gl 0).1 } with gl := (mFetch (X.p i).N (X.p i).q X.gl 0).2.1 }, (mFetch (X.p i).N (X.p i).q X.gl 0).2.2)
theorem near_any {w0 w : World} {b sp : Nat} {L : Sl} {X : Sd} {R : List Asr} (h : SAt w0 w b sp L X R) {i pb off : Nat} (hi : i < X.ps.length) (hpa : L.pa = some ⟨pb, off, none⟩) (hl : X.gl.length ≤ 1000000) (htu : (X.p i).tu ≤ 1000000) :
  Calls Tryz.prog 91 #[.pointer (some ⟨b, 0, none⟩), .pointer (some ⟨pb, off + i * 3, none⟩)] w fun r w' => r = .returned (gotv (nearM X i).2) ∧ SAt w0 w' b sp L (nearM X i).1 R := by
 obtain ⟨_, _, p, g, -, hld⟩ := h.pa hi
 have HLD := Lib.hid hld
 have HPA := Lib.hid hpa
 have HI := Lib.hid hi
 have HL := Lib.hid hl
 obtain ⟨tu, htu2⟩ : ∃ tu, tu = (X.p i).tu := ⟨_, rfl⟩
 have x1 := (h.proc hi hpa hld).1.2.1
 rw [← htu2] at x1 htu
 have HTU := Lib.hid htu2
 have hmod : IntKind.i64.wrap (Int.tmod (tu : Int) 7) = ((tu % 7 : Nat) : Int) := by rw [Int.tmod_eq_emod_of_nonneg (by omega), IntKind.wrap_i64]; omega
 have HB : Hid (∀ (wx : World), SAt w0 wx b sp L X R → Calls Tryz.prog 70 #[.pointer (some ⟨p, 0, none⟩)] wx fun r w' => r = .returned (gotv (mGet (X.p i).q).2) ∧
   ((∃ v, (mGet (X.p i).q).2 = some v ∧ SAt w0 w' b sp L (nearB X i).1 R ∧ (nearB X i).2 = some v) ∨ ((mGet (X.p i).q).2 = none ∧ SAt w0 w' b sp L X R))) := Lib.hid (fun wx hx => by
  refine (sd_get hx hi hld).mono (fun r w' hh => ⟨hh.1, ?_⟩)
  have h2 := hh.2
  cases hg : (mGet (X.p i).q).2 with
  | some v =>
   refine .inl ⟨v, rfl, ?_, ?_⟩
   ·unfold nearB; rw [hg]; exact h2
   ·unfold nearB; rw [hg]
  | none =>
   refine .inr ⟨rfl, ?_⟩
   rw [mGet_none hg, setP_self hi rfl] at h2
   exact h2)
 have HFE : Hid (∀ (wx : World), (mGet (X.p i).q).2 = none → SAt w0 wx b sp L X R → Calls Tryz.prog 108 #[.pointer (some ⟨p, 0, none⟩), .pointer (some ⟨b, 14, none⟩), .int .i64 0] wx fun r w' => r = .returned (gotv (nearB X i).2) ∧ SAt w0 w' b sp L (nearB X i).1 R) := Lib.hid (fun wx hg hx => by
  refine (sd_fetch hx hi hld hl 0).mono (fun r w' hh => ?_)
  unfold nearB; rw [hg]
  exact hh)
 have HX : Hid (∀ wx, SAt w0 wx b sp L X R → wx.cell? ⟨pb, off + i * 3, none⟩ = some (.pointer (some ⟨p, 0, none⟩))) := Lib.hid (fun wx hx => (hx.proc hi hpa hld).1.1)
 have H := Lib.hid h
 generalize hnn : nearM X i = nn at *
 have HNN := Lib.hid hnn
 generalize hnb : nearB X i = nb at *
 have HNB := Lib.hid hnb
 have HGT : Hid (∀ k, Calls Tryz.prog 107 #[.pointer (some ⟨b, 14, none⟩), .int .i64 k] w fun r w' => ∃ a' c', r = .returned (.slice a' (takes k X.gl.length) c') ∧ IntsAt w' a' (X.gl.take (takes k X.gl.length)) ∧ SAt w0 w' b sp L { X with gl := X.gl.drop (takes k X.gl.length) } R) := Lib.hid (fun k => sd_gtake h k hl)
 clear h hld hpa hi hl htu2 hnn hnb
 by_cases hs : tu % 7 = 6
 ·have hs2 : ((tu : Int) % 7 == 6) = true := by rw [beq_iff_eq]; omega
  clear hmod
  cases hgl : X.gl with
  | nil =>
   have HG0 : Hid (∀ k, Calls Tryz.prog 107 #[.pointer (some ⟨b, 14, none⟩), .int .i64 k] w fun r w' => ∃ a' c', r = .returned (.slice a' 0 c') ∧ SAt w0 w' b sp L X R) := Lib.hid (fun k => (HGT.out k).mono (fun r w' hh => by
    obtain ⟨a', c', h1, h2, h3⟩ := hh
    have e0 : takes k X.gl.length = 0 := by rw [hgl]; unfold takes; simp
    rw [e0] at h1 h3
    refine ⟨a', c', h1, ?_⟩
    have e1 : ({ X with gl := X.gl.drop 0 } : Sd) = X := by simp
    rw [e1] at h3; exact h3))
   have HE : Hid (nn = nb) := Lib.hid (by rw [← HNN.out, ← HNB.out, near_far (fun hc => hc.2 hgl)]; rfl)
   clear hgl HGT hs
   go_enter Tryz.func91, Tryz.ntmps91
   go_wp2_with fail
   refine (HG0.out _).mono ?_
   rintro r w1 ⟨a', c', rfl, h1⟩
   have H1 := Lib.hid h1
   have x0 := HX.out _ h1
   clear h1 x1
   go_wp2_with fail
   refine (HB.out _ H1.out).mono ?_
   rintro r w2 ⟨rfl, hh⟩
   rcases hh with ⟨v, hv, h2, e2⟩ | ⟨hv, h2⟩
   ·rw [hv]
    have HQ : Hid (SAt w0 w2 b sp L nn.1 R ∧ nn.2 = some v) := Lib.hid (by rw [HE.out]; exact ⟨h2, e2⟩)
    clear h2 hv e2
    unfold gotv
    simp only [Option.getD_some, Option.isSome_some]
    go_wp2
    go_ret2
    exact ⟨by rw [HQ.out.2]; rfl, HQ.out.1⟩
   ·rw [hv]
    have HFX := Lib.hid (fun wx (hx : SAt w0 wx b sp L X R) => HFE.out wx hv hx)
    have H2 := Lib.hid h2
    have x2 := HX.out _ h2
    clear hv h2
    unfold gotv
    simp only [Option.getD_none, Option.isSome_none]
    go_upto_region 8 with fail
    refine wp_region_lexK (fun wx => ∃ nq, wx = World.drewN (w2) nq) 7 5 (Array.replicate 12 false) #[true, true, true, true, true, true, true, false, false, false, false, false] (by kernel_rfl) (by kernel_rfl) ?_
    refine wpAnyK_seg 0 7 _ #[true, true, true, true, true, true, true, false, false, false, false, false] 0 (by kernel_rfl) noPanic_put (drew_q w2) (by kernel_rfl) ?_
    simp only [List.take_succ_cons, List.take_zero, List.drop_zero]
    repeat ((first | refine wpSegH_no (by rfl) ?_ | (refine wpSegH_yes (by rfl) ?_; apply Exists.intro; apply And.intro; (· (rintro wx ⟨nq, rfl⟩; go_simp; first | done | with_reducible rfl)))); simp only [Act.put, List.setIfInBounds_toArray, List.set_cons_zero, List.set_cons_succ])
    refine wpSegH_nil ?_
    refine wpAnyK_next ?_
    refine wpAnyK_phase (fun _ => True) 5 0 #[true, true, true, true, true, true, true, true, true, true, true, true] ?_
    refine wpAnyK_one 7 _ #[true, true, true, true, true, true, true, true, false, false, false, false] 4 (by kernel_rfl) (fun K hK => ?_)
    have HKK := Lib.hid hK
    clear hK
    simp only [List.drop_succ_cons, List.drop_zero]
    refine headH_mk (by rfl) ?_
    go_simp
    refine (HFX.out _ (H2.out.step (below_dN w2 _))).mono ?_
    rintro r w3 ⟨rfl, h3⟩
    rw [← HE.out] at h3 ⊢
    have H3 := Lib.hid h3
    clear h3 x2 HFX H2
    unfold gotv
    refine HKK.out _ _ (trivial) ?_
    clear HKK K
    refine wpAnyK_seg 8 4 _ #[true, true, true, true, true, true, true, true, true, true, true, true] 0 (by kernel_rfl) noPanic_put (trivial) (by kernel_rfl) ?_
    simp only [List.take_succ_cons, List.take_zero, List.drop_succ_cons, List.drop_zero]
    repeat ((first | refine wpSegH_no (by rfl) ?_ | (refine wpSegH_yes (by rfl) ?_; apply Exists.intro; apply And.intro; (· (intro wx hS; (try dsimp only at hS); go_simp; first | done | with_reducible rfl)))); simp only [Act.put, List.setIfInBounds_toArray, List.set_cons_zero, List.set_cons_succ])
    refine wpSegH_nil ?_
    refine wpAnyK_next ?_
    refine wpAnyK_done (by kernel_rfl) (NoPanic.normal ?_)
    go_wp2
    go_ret2
    exact ⟨rfl, H3.out⟩
  | cons y t =>
   have HG1 : Hid (∀ k, k = 1 → Calls Tryz.prog 107 #[.pointer (some ⟨b, 14, none⟩), .int .i64 k] w fun r w' => ∃ b' off' c', r = .returned (.slice (some ⟨b', off', none⟩) 1 c') ∧ w'.cell? ⟨b', off', none⟩ = some (.int .i64 y) ∧ SAt w0 w' b sp L nn.1 R ∧ nn.2 = some y) := Lib.hid (fun k hk => (HGT.out k).mono (fun r w' hh => by
    obtain ⟨a', c', h1, h2, h3⟩ := hh
    have e0 : takes k X.gl.length = 1 := by rw [hgl, hk]; unfold takes; simp only [List.length_cons]; omega
    rw [e0] at h1 h2 h3
    rw [hgl] at h2
    obtain ⟨b', off', e1, e2⟩ := h2 0 (by simp)
    rw [e1] at h1
    refine ⟨b', off', c', h1, by simpa using e2, ?_⟩
    rw [← HNN.out, near_glo (by rw [← HTU.out]; exact hs) (by rw [hgl]; simp)]
    rw [List.drop_one] at h3
    exact ⟨h3, by rw [hgl]; rfl⟩))
   clear hgl HGT hs
   go_enter Tryz.func91, Tryz.ntmps91
   go_wp2_with fail
   refine (HG1.out _ rfl).mono ?_
   rintro r w1 ⟨b', off', c', rfl, e2, h1, e3⟩
   have H1 := Lib.hid h1
   have H3 := Lib.hid e3
   clear h1 x1 e3 HG1
   go_wp2
   go_ret2
   exact ⟨by rw [H3.out]; rfl, H1.out⟩
 ·have hs2 : ((tu : Int) % 7 == 6) = false := by rw [beq_eq_false_iff_ne]; omega
  have HE : Hid (nn = nb) := Lib.hid (by rw [← HNN.out, ← HNB.out, near_far (fun hc => hs (by rw [HTU.out]; exact hc.1))]; rfl)
  have H1 := H
  have x0 := HX.out _ H.out
  clear hmod HGT hs
  ·go_enter Tryz.func91, Tryz.ntmps91
   go_wp2_with fail
   refine (HB.out _ H1.out).mono ?_
   rintro r w2 ⟨rfl, hh⟩
   rcases hh with ⟨v, hv, h2, e2⟩ | ⟨hv, h2⟩
   ·rw [hv]
    have HQ : Hid (SAt w0 w2 b sp L nn.1 R ∧ nn.2 = some v) := Lib.hid (by rw [HE.out]; exact ⟨h2, e2⟩)
    clear h2 hv e2
    unfold gotv
    simp only [Option.getD_some, Option.isSome_some]
    go_wp2
    go_ret2
    exact ⟨by rw [HQ.out.2]; rfl, HQ.out.1⟩
   ·rw [hv]
    have HFX := Lib.hid (fun wx (hx : SAt w0 wx b sp L X R) => HFE.out wx hv hx)
    have H2 := Lib.hid h2
    have x2 := HX.out _ h2
    clear hv h2
    unfold gotv
    simp only [Option.getD_none, Option.isSome_none]
    go_upto_region 8 with fail
    refine wp_region_lexK (fun wx => ∃ nq, wx = World.drewN (w2) nq) 7 5 (Array.replicate 12 false) #[true, true, true, true, true, true, true, false, false, false, false, false] (by kernel_rfl) (by kernel_rfl) ?_
    refine wpAnyK_seg 0 7 _ #[true, true, true, true, true, true, true, false, false, false, false, false] 0 (by kernel_rfl) noPanic_put (drew_q w2) (by kernel_rfl) ?_
    simp only [List.take_succ_cons, List.take_zero, List.drop_zero]
    repeat ((first | refine wpSegH_no (by rfl) ?_ | (refine wpSegH_yes (by rfl) ?_; apply Exists.intro; apply And.intro; (· (rintro wx ⟨nq, rfl⟩; go_simp; first | done | with_reducible rfl)))); simp only [Act.put, List.setIfInBounds_toArray, List.set_cons_zero, List.set_cons_succ])
    refine wpSegH_nil ?_
    refine wpAnyK_next ?_
    refine wpAnyK_phase (fun _ => True) 5 0 #[true, true, true, true, true, true, true, true, true, true, true, true] ?_
    refine wpAnyK_one 7 _ #[true, true, true, true, true, true, true, true, false, false, false, false] 4 (by kernel_rfl) (fun K hK => ?_)
    have HKK := Lib.hid hK
    clear hK
    simp only [List.drop_succ_cons, List.drop_zero]
    refine headH_mk (by rfl) ?_
    go_simp
    refine (HFX.out _ (H2.out.step (below_dN w2 _))).mono ?_
    rintro r w3 ⟨rfl, h3⟩
    rw [← HE.out] at h3 ⊢
    have H3 := Lib.hid h3
    clear h3 x2 HFX H2
    unfold gotv
    refine HKK.out _ _ (trivial) ?_
    clear HKK K
    refine wpAnyK_seg 8 4 _ #[true, true, true, true, true, true, true, true, true, true, true, true] 0 (by kernel_rfl) noPanic_put (trivial) (by kernel_rfl) ?_
    simp only [List.take_succ_cons, List.take_zero, List.drop_succ_cons, List.drop_zero]
    repeat ((first | refine wpSegH_no (by rfl) ?_ | (refine wpSegH_yes (by rfl) ?_; apply Exists.intro; apply And.intro; (· (intro wx hS; (try dsimp only at hS); go_simp; first | done | with_reducible rfl)))); simp only [Act.put, List.setIfInBounds_toArray, List.set_cons_zero, List.set_cons_succ])
    refine wpSegH_nil ?_
    refine wpAnyK_next ?_
    refine wpAnyK_done (by kernel_rfl) (NoPanic.normal ?_)
    go_wp2
    go_ret2
    exact ⟨rfl, H3.out⟩
theorem append_none {P : Program} {w : World} {s by_ : Nat} (t ty e : TypeId) (i : TypeInfo) (z : Value) (ht : P.underlying t = some (.slice e)) (hi : P.info? e = some i) (hz : i.zero = some z) (hsize : i.size = s) (hby : i.bytes = by_) (hzs : z.cells.size = s) (hs0 : 0 < s)
  {g : Nat} (hg : g < w.heap.size) {b : Option Addr} {c m : Nat} {ds : List Value} (hb : CellsAt w b ds) (hd : ds.length = m * s) (hone : ∀ u ∈ ds, u.oneCell' = true) (hm : m ≤ maxLen) (h47 : m * by_ ≤ 140737488355328) (ha : (w.cell? ⟨g, 0, none⟩) = none) :
  ∃ a' cap' w', (Builtin.append_ #[t, t] ty #[.slice (some ⟨g, 0, none⟩) 0 0, .slice b m c]).run P w = .ok (.slice a' m cap') w' ∧ RowG s w' a' cap' m ds ∧ Chg [g] w w' ∧ ∀ x ∈ blk a', x = g ∨ w.heap.size ≤ x := by
 by_cases hm0 : m = 0
 ·subst hm0
  have hdn : ds = [] := List.length_eq_zero_iff.1 (by rw [hd]; simp)
  subst hdn
  refine ⟨some ⟨g, 0, none⟩, 0, w, ?_, RowG.zero hg, Chg.refl _ _, fun x hx => .inl (by simpa [blk] using hx)⟩
  cases b with
  | none => simp [Builtin.append_, run_underlying ht, sizeOf, typeInfo, hi, Builtin.lenOf, Builtin.firstCells, storeCells]
  | some ad => simp [Builtin.append_, run_underlying ht, sizeOf, typeInfo, hi, Builtin.lenOf, Builtin.firstCells, storeCells, loadCells, loadCellsFrom]
 ·cases b with
  | none =>
   exfalso
   have : 0 < ds.length := by rw [hd]; exact Nat.mul_pos (by omega) hs0
   obtain ⟨_, _, h1, _⟩ := hb 0 _ (List.getElem?_eq_getElem this)
   cases h1
  | some ad =>
   have hnews : ∀ j u, ds[j]? = some u → w.cell? (ad.add j) = some u := fun j u hj => by
    obtain ⟨b, off, h1, h2⟩ := hb j u hj
    cases h1
    rw [Addr.add_lit, h2]
   obtain ⟨v', w', hr, r1, r2⟩ := run_append_arg_grows (P := P) w t ty e i z s by_ ht hi hz hsize hby hzs hs0 ⟨g, 0, none⟩ 0 0 [] (by simp) (fun j u hj => by simp at hj) ad m c ds hd hnews (by omega) (by unfold maxLen at hm; unfold maxLen; omega) (by simpa using h47)
   simp only [List.nil_append, Nat.zero_add] at r1
   obtain ⟨a', cap', rfl, hrow, hbase⟩ := RowG.of_own r1
   exact ⟨a', cap', w', hr, by simpa using hrow, (grownBy_chg r2).mono (by simp), fun x hx => .inr (hbase x hx)⟩
theorem wpList_append_none {P : Program} {w : World} {ops : Array Oper} {rest : List Oper} {o : Oper} {ac : Act} {Q : Exit → Act → World → Prop} {s by_ : Nat} (hgd : o.guard = none) (sl x : Operand) (t : TypeId)
  (ho : o.op = .call { callee := .builtin .append, args := #[sl, x], argTypes := #[t, t] }) (e : TypeId) (i : TypeInfo) (z : Value) (ht : P.underlying t = some (.slice e)) (hi : P.info? e = some i) (hz : i.zero = some z) (hsize : i.size = s) (hby : i.bytes = by_) (hzs : z.cells.size = s) (hs0 : 0 < s)
  {g : Nat} {b : Option Addr} {c m : Nat} {ds : List Value} (hs : ac.eval sl = .slice (some ⟨g, 0, none⟩) 0 0) (hx : ac.eval x = .slice b m c) (hg : g < w.heap.size) (hb : CellsAt w b ds) (hd : ds.length = m * s) (hone : ∀ u ∈ ds, u.oneCell' = true) (hm : m ≤ maxLen) (h47 : m * by_ ≤ 140737488355328) (ha : (w.cell? ⟨g, 0, none⟩) = none)
  (h : ∀ a' cap' w', RowG s w' a' cap' m ds → Chg [g] w w' → (∀ x ∈ blk a', x = g ∨ w.heap.size ≤ x) → wpList P ops Q rest (ac.put o.dst (.slice a' m cap')) w') : wpList P ops Q (o :: rest) ac w := by
 refine wpList_plain hgd fun K hK => ?_
 obtain ⟨a', cap', w', hr, h2, h3, h4⟩ := append_none (P := P) (w := w) t o.type e i z ht hi hz hsize hby hzs hs0 hg hb (c := c) hd hone hm h47 ha
 unfold Oper.wp execOp
 simp only [ho, resolve, invoke, builtin, Sem.run_bind, Sem.run_pure, Result.andThen_ok, List.map_toArray, List.map_cons, List.map_nil, hs, hx, hr]
 exact hK _ _ (h a' cap' w' h2 h3 h4)









def lim : Nat → Nat
 | 0 => 1
 | k + 1 => 128 * lim k



end Go.Proofs.YtodjgipiomnnfaaGreat

open Go Go.RowKit
set_option linter.unusedVariables false
namespace Go.Proofs.YtodjgipiomnnfaaGreat
def room : Nat → Nat
 | 0 => 0
 | f + 1 => if f = 0 then 2 else 128 * room f



def Cells (k : IntKind) (w : World) (a : Option Addr) (zs : List Int) : Prop :=
 ∀ i (h : i < zs.length), ∃ b off, a = some ⟨b, off, none⟩ ∧ w.cell? ⟨b, off + i, none⟩ = some (.int k zs[i]) ∧ (Lit.int k zs[i]).wf = true
end Go.Proofs.YtodjgipiomnnfaaGreat

open Go Go.RowKit
set_option linter.unusedVariables false
namespace Go.Proofs.YtodjgipiomnnfaaGreat
abbrev Rec := Int × Nat
def Rec.ok (r : Rec) : Prop := 1 ≤ r.1 ∧ r.1 ≤ 4 ∧ r.2 < 4611686018427387904
instance (r : Rec) : Decidable (Rec.ok r) := by unfold Rec.ok; infer_instance


def recCells (l : List Rec) : List Value := l.flatMap fun r => [Value.int .i64 r.1, Value.int .u64 (r.2 : Int)]



end Go.Proofs.YtodjgipiomnnfaaGreat

open Go Go.RowKit
set_option linter.unusedVariables false
namespace Go.Proofs.YtodjgipiomnnfaaGreat
def numc (l : List Nat) : List Value := l.map fun (n : Nat) => Value.int .u64 (n : Int)
theorem numc_len (l : List Nat) : (numc l).length = l.length := by simp [numc]
theorem numc_one (l : List Nat) : ∀ u ∈ numc l, u.oneCell' = true := by
 intro u hu; unfold numc at hu; rw [List.mem_map] at hu; obtain ⟨n, _, rfl⟩ := hu; rfl
theorem recc_one (l : List Rec) : ∀ u ∈ recCells l, u.oneCell' = true := by
 intro u hu; unfold recCells at hu; rw [List.mem_flatMap] at hu; obtain ⟨r, _, h⟩ := hu; simp at h; rcases h with rfl | rfl <;> rfl
theorem info_u6 : (Tryz.prog.info? 55).map (fun i => (i.zero, i.size, i.bytes)) = some (some (.int .u64 0), 1, 8) := by kernel_rfl
theorem info_rcd : (Tryz.prog.info? 99).map (fun i => (i.zero, i.size, i.bytes)) = some (some (.agg #[.int .i64 0, .int .u64 0]), 2, 16) := by kernel_rfl
theorem cloneu_any (w : World) (a : Option Addr) (n c : Nat) (cs : List Value) (h : CellsAt w a cs) (hn : cs.length = n) (hone : ∀ u ∈ cs, u.oneCell' = true) (h0 : a = none → n = 0 ∧ c = 0) (hl : n * 8 ≤ 140737488355328) :
  Calls Tryz.prog 29 #[.slice a n c] w fun r w' => ∃ a' c', r = .returned (.slice a' n c') ∧ RowG 1 w' a' c' n cs ∧ (∀ x ∈ blk a', w.heap.size ≤ x) ∧ Below w.heap.size w w' := by
 cases a with
 | none =>
  obtain ⟨rfl, rfl⟩ := h0 rfl
  obtain rfl := List.length_eq_zero_iff.1 hn
  clear h hone
  have he : ∀ w : World, (binOp .eql 44 (.slice none 0 0) (.slice none 0 0)).run Tryz.prog w = .ok (.bool true) w := fun _ => rfl
  go_enter Tryz.func29, Tryz.ntmps29
  go_wp2
  go_ret
  exact ⟨none, 0, rfl, RowG.nil _ _, fun x hx => by simp [blk] at hx, Below.refl _ _⟩
 | some ad =>
  obtain ⟨i0, hi0, hz0, hz1, hz2⟩ := info_parts info_u6
  have Hi := Lib.hid hi0; clear hi0
  have Hz0 := Lib.hid hz0; clear hz0
  have Hz1 := Lib.hid hz1; clear hz1
  have Hz2 := Lib.hid hz2; clear hz2
  have H := Lib.hid h
  have HO := Lib.hid hone
  have HN := Lib.hid hn
  clear h hone h0 hn
  have he : ∀ w : World, (binOp .eql 44 (.slice (some ad) n c) (.slice none 0 0)).run Tryz.prog w = .ok (.bool false) w := fun _ => rfl
  go_enter Tryz.func29, Tryz.ntmps29
  go_wp2_with (at_builtin; refine wpList_append_none (m := n) (ds := cs) rfl _ _ 44 rfl 55 i0 _ Tryz.underlying44 Hi.out Hz0.out Hz1.out Hz2.out rfl (by omega) rfl rfl (by simp) (H.out.below (below_alloc1 _ _)) (by rw [HN.out]; simp) HO.out (by unfold maxLen; omega) (by omega) (by rw [World.cell?_alloc_mark]; rfl) ?_)
  intro a1 c1 w1 k1 ch1 f1
  have hf : RowG 1 w1 a1 c1 n cs ∧ (∀ x ∈ blk a1, w.heap.size ≤ x) ∧ Below w.heap.size w w1 := by
   refine ⟨by simpa using k1, fun x hx => ?_, Chg.below (below_alloc1 _ _) ch1 (fun x hx => by simp at hx; omega)⟩
   rcases f1 x hx with h | h
   ·omega
   ·first | omega | (simp at h; omega)
  have HF := Lib.hid hf
  clear hf k1 ch1 f1
  go_wp2
  go_ret
  exact ⟨a1, c1, by simp, HF.out⟩
end Go.Proofs.YtodjgipiomnnfaaGreat
