/-
  Texts put together: WdWF2, WdWF3, WdWF4, WdGets, WdCln, WdNew, WdWld, ClM, SeM, WdBox, WdAwk, InArgs, W16Sel.
-/
import Derived.Test.YtjidcagklakjaaaGreatMs5
import Derived.Test.YtjidcagklakjaaaGreatMs3
import Derived.Test.YtjidcagklakjaaaGreatMs4
import Derived.Test.YtjidcagklakjaaaGreatMs1
import Derived.Test.YtjidcagklakjaaaGreatMs2
import Derived.SliceStrings
import Derived.Deep.Grids
import Derived.WideShapes
import Derived.OpenShut
/-
  Worlds that programs come to: what each op leaves.
-/
open Go Go.RowKit
set_option linter.unusedVariables false
namespace Go.Proofs.YtjidcagklakjaaaGreat
/-- A world behind another one. -/
structure Fol (W V : Wd) : Prop where
  fs : V.fs = W.fs
  ks : V.ks = W.ks
  Ns : V.Ns = W.Ns
  cl : V.Cs.length = W.Cs.length
  ll : V.Ls.length = W.Ls.length
  gl : W.gs.length ≤ V.gs.length
theorem Fol.refl (W : Wd) : Fol W W := ⟨rfl, rfl, rfl, rfl, rfl, Nat.le_refl _⟩
theorem Fol.trans {A B C : Wd} (h : Fol A B) (k : Fol B C) : Fol A C := ⟨k.fs.trans h.fs, k.ks.trans h.ks, k.Ns.trans h.Ns, k.cl.trans h.cl, k.ll.trans h.ll, Nat.le_trans h.gl k.gl⟩
theorem cas_eq {W V : Wd} (h : V.ks = W.ks) (x : In4) : V.cas x = W.cas x := by unfold Wd.cas; rw [h]
theorem insAt_eq {W V : Wd} (h : V.fs = W.fs) (fn pc : Int) : V.insAt fn pc = W.insAt fn pc := by unfold Wd.insAt; rw [h]
abbrev InsW (W : Wd) (n : Nat) (x : In4) : Prop := InsOk W.fs.length W.Cs.length W.ks.length W.Ls.length n x
theorem InsOk.fol {W V : Wd} {n : Nat} {x : In4} (h : InsW W n x) (f : Fol W V) : InsW V n x := by
  unfold InsW; rw [f.fs, f.cl, f.ks, f.ll]; exact h
theorem fol_goOn {B : Nat} {W : Wd} (h : WF B W) (hB : B ≤ 90000) (rd : List Int) {w : Wt} (hw : WtIf W w) (s : Bool) : Fol W (goOnM W rd w s).1 := by
  obtain ⟨-, h1, h2, h3, h4, h5, -⟩ := h.goOn hB rd hw s
  refine ⟨h2, h3, ?_, h4, h5, by omega⟩
  unfold goOnM
  simp only
  split
  · split
    · rename_i x hx
      obtain ⟨-, -, -, -, -, -, e⟩ := fin_same W x w s
      exact e
    · rfl
  · rfl
theorem fol_setCh (W : Wd) (i : Int) (C : Ch) : Fol W (W.setCh i C) := ⟨rfl, rfl, rfl, by unfold Wd.setCh; simp, rfl, Nat.le_refl _⟩
theorem fol_fin (W : Wd) (x : In4) (w : Wt) (s : Bool) : Fol W (W.fin x w s) := by
  obtain ⟨a, b, c, d, e, f, g⟩ := fin_same W x w s
  exact ⟨a, b, g, by rw [c], by rw [d], by omega⟩
theorem fol_setG (W : Wd) (g : Nat) (G : Gt) : Fol W (W.setG g G) := ⟨rfl, rfl, rfl, rfl, rfl, by unfold Wd.setG; simp⟩
theorem fol_put (W : Wd) (g : Nat) (k v : Int) : Fol W (W.put g k v) := fol_setG _ _ _
theorem ch_mem {W : Wd} {i : Int} (h : 0 ≤ i ∧ i < (W.Cs.length : Int)) : W.ch i ∈ W.Cs := by
  have e : i = ((i.toNat : Nat) : Int) := by omega
  rw [e]
  exact List.mem_of_getElem? (Wd.ch_at (by omega))
theorem mSend_ok {B : Nat} {W : Wd} {C : Ch} (h : ChOk B W C) (N : Nat) (hN : N ≤ 16) (v : Int) : ChOk B W (mSend N C v).1 ∧ ((mSend N C v).2.2.1 = true → WtOk W (mSend N C v).2.1) := by
  obtain ⟨h1, h2, h3, h4, h5⟩ := h
  unfold mSend
  split
  · exact ⟨⟨h1, h2, h3, h4, h5⟩, fun e => by cases e⟩
  · split
    · rename_i x t e
      rw [e] at h3 h5
      refine ⟨⟨h1, h2, by simp at h3; show t.length ≤ B; omega, h4, fun w hw => h5 w (by simp [hw])⟩, fun _ => h5 x (by simp)⟩
    · rename_i e
      split
      · exact ⟨⟨by simp; omega, h2, by rw [e]; simp, h4, fun w hw => by simp only [e] at hw; cases hw⟩, fun e => by cases e⟩
      · exact ⟨⟨h1, h2, h3, h4, h5⟩, fun e => by cases e⟩
theorem mRecv_ok {B : Nat} {W : Wd} {C : Ch} (h : ChOk B W C) : ChOk B W (mRecv C).1 ∧ ((mRecv C).2.1.2.2.2 = true → WtOk W (mRecv C).2.1.2.2.1) := by
  obtain ⟨h1, h2, h3, h4, h5⟩ := h
  unfold mRecv
  split
  · rename_i x t e
    rw [e] at h2 h4
    have ht : t.length ≤ B := by simp at h2; omega
    have ht2 : ∀ w ∈ t, WtOk W w := fun w hw => h4 w (by simp [hw])
    split
    · rename_i y b e2
      refine ⟨⟨?_, ht, h3, ht2, h5⟩, fun _ => h4 x (by simp)⟩
      have := congrArg List.length e2
      simp at this; show b.length ≤ 16; omega
    · exact ⟨⟨by simp, ht, h3, ht2, h5⟩, fun _ => h4 x (by simp)⟩
  · split
    · rename_i y b e2
      refine ⟨⟨?_, by simp, h3, fun w hw => by simp at hw, h5⟩, fun e => by cases e⟩
      rw [e2] at h1; simp at h1; show b.length ≤ 16; omega
    · exact ⟨⟨h1, h2, h3, h4, h5⟩, fun e => by cases e⟩
theorem ns_le {B : Nat} {W : Wd} (h : WF B W) (i : Nat) : W.Ns.getD i 0 ≤ 16 := by
  rw [List.getD_eq_getElem?_getD]
  cases e : W.Ns[i]? with
  | none => simp
  | some N => exact h.ns.2 N (List.mem_of_getElem? e)
/-- What an op comes to. -/
def DdOk (B : Nat) (W : Wd) (d : Dd) : Prop := WF B d.W ∧ Fol W d.W
theorem WF.send {B : Nat} {W : Wd} (h : WF B W) (hB : B ≤ 90000) (rd : List Int) {g : Nat} (hg : g < W.gs.length) {n : Nat} {x : In4} (hx : InsW W n x) (ho : x.1 = 13 ∨ x.1 = 14 ∨ x.1 = 16) {c : Cs3} (hc : c ∈ W.cas x) (h1 : c.1 = 1) {place : Int} (hp : 0 ≤ place ∧ place < ((W.cas x).length : Int)) :
    SendOk W rd g x c place ∧ ∀ d, sendM W rd g x c place = some d → DdOk B W d := by
  have hk := hx.casOk ho h.p.ck c hc
  have c0 : 0 ≤ c.2.1 ∧ c.2.1 < (W.Cs.length : Int) := ⟨hk.2.1, hk.2.2.1 (by omega)⟩
  have hC := h.cs _ (ch_mem c0)
  have hr := mSend_ok hC (W.Ns.getD c.2.1.toNat 0) (ns_le h _) ((W.g g).rg c.2.2)
  have hW1 := h.setCh c.2.1 hr.1
  have hY : ∀ rd', WF B (if (mSend (W.Ns.getD c.2.1.toNat 0) (W.ch c.2.1) ((W.g g).rg c.2.2)).2.2.1 then goOnM (W.setCh c.2.1 (mSend (W.Ns.getD c.2.1.toNat 0) (W.ch c.2.1) ((W.g g).rg c.2.2)).1) rd' (mSend (W.Ns.getD c.2.1.toNat 0) (W.ch c.2.1) ((W.g g).rg c.2.2)).2.1 true else (W.setCh c.2.1 (mSend (W.Ns.getD c.2.1.toNat 0) (W.ch c.2.1) ((W.g g).rg c.2.2)).1, rd')).1 ∧
      Fol W (if (mSend (W.Ns.getD c.2.1.toNat 0) (W.ch c.2.1) ((W.g g).rg c.2.2)).2.2.1 then goOnM (W.setCh c.2.1 (mSend (W.Ns.getD c.2.1.toNat 0) (W.ch c.2.1) ((W.g g).rg c.2.2)).1) rd' (mSend (W.Ns.getD c.2.1.toNat 0) (W.ch c.2.1) ((W.g g).rg c.2.2)).2.1 true else (W.setCh c.2.1 (mSend (W.Ns.getD c.2.1.toNat 0) (W.ch c.2.1) ((W.g g).rg c.2.2)).1, rd')).1 := fun rd' => by
    split
    · rename_i e
      have hw : WtIf (W.setCh c.2.1 (mSend (W.Ns.getD c.2.1.toNat 0) (W.ch c.2.1) ((W.g g).rg c.2.2)).1) (mSend (W.Ns.getD c.2.1.toNat 0) (W.ch c.2.1) ((W.g g).rg c.2.2)).2.1 := (hr.2 e).toIf
      exact ⟨(hW1.goOn hB rd' hw true).1, (fol_setCh W _ _).trans (fol_goOn hW1 hB rd' hw true)⟩
    · exact ⟨hW1, fol_setCh W _ _⟩
  have hF : ∀ rd' w, w.1 = (g : Int) → w.2.1 = place → FinOk (if (mSend (W.Ns.getD c.2.1.toNat 0) (W.ch c.2.1) ((W.g g).rg c.2.2)).2.2.1 then goOnM (W.setCh c.2.1 (mSend (W.Ns.getD c.2.1.toNat 0) (W.ch c.2.1) ((W.g g).rg c.2.2)).1) rd' (mSend (W.Ns.getD c.2.1.toNat 0) (W.ch c.2.1) ((W.g g).rg c.2.2)).2.1 true else (W.setCh c.2.1 (mSend (W.Ns.getD c.2.1.toNat 0) (W.ch c.2.1) ((W.g g).rg c.2.2)).1, rd')).1 x w := fun rd' w e1 e2 => by
    obtain ⟨y1, y2⟩ := hY rd'
    exact y1.finOk (hx.fol y2) ho w (by rw [e1]; have := y2.gl; omega) (by rw [cas_eq y2.ks, e2]; exact hp)
  refine ⟨⟨c0, by have := h.p.nc; omega, ⟨hk.2.2.2.1, hk.2.2.2.2⟩, h.lim hB, fun e => hW1.goOk hB (hr.2 e).toIf, fun _ => hF rd _ rfl rfl⟩, fun d hd => ?_⟩
  unfold sendM at hd
  simp only at hd
  split at hd
  · cases hd; exact ⟨h, Fol.refl _⟩
  · split at hd
    · cases hd
      obtain ⟨y1, y2⟩ := hY rd
      exact ⟨y1.fin (hF rd _ rfl rfl) false, y2.trans (fol_fin _ _ _ _)⟩
    · cases hd
theorem WF.recv {B : Nat} {W : Wd} (h : WF B W) (hB : B ≤ 90000) (rd : List Int) {g : Nat} (hg : g < W.gs.length) {n : Nat} {x : In4} (hx : InsW W n x) (ho : x.1 = 13 ∨ x.1 = 14 ∨ x.1 = 16) {c : Cs3} (hc : c ∈ W.cas x) (h1 : c.1 ≠ 2) {place : Int} (hp : 0 ≤ place ∧ place < ((W.cas x).length : Int)) :
    RecvOk W rd g x c place ∧ ∀ d, recvM W rd g x c place = some d → DdOk B W d := by
  have hk := hx.casOk ho h.p.ck c hc
  have c0 : 0 ≤ c.2.1 ∧ c.2.1 < (W.Cs.length : Int) := ⟨hk.2.1, hk.2.2.1 h1⟩
  have hC := h.cs _ (ch_mem c0)
  have hr := mRecv_ok hC
  have hW1 := h.setCh c.2.1 hr.1
  have hY : ∀ rd', WF B (if (mRecv (W.ch c.2.1)).2.1.2.2.2 then goOnM (W.setCh c.2.1 (mRecv (W.ch c.2.1)).1) rd' (mRecv (W.ch c.2.1)).2.1.2.2.1 false else (W.setCh c.2.1 (mRecv (W.ch c.2.1)).1, rd')).1 ∧ Fol W (if (mRecv (W.ch c.2.1)).2.1.2.2.2 then goOnM (W.setCh c.2.1 (mRecv (W.ch c.2.1)).1) rd' (mRecv (W.ch c.2.1)).2.1.2.2.1 false else (W.setCh c.2.1 (mRecv (W.ch c.2.1)).1, rd')).1 := fun rd' => by
    split
    · rename_i e
      have hw : WtIf (W.setCh c.2.1 (mRecv (W.ch c.2.1)).1) (mRecv (W.ch c.2.1)).2.1.2.2.1 := (hr.2 e).toIf
      exact ⟨(hW1.goOn hB rd' hw false).1, (fol_setCh W _ _).trans (fol_goOn hW1 hB rd' hw false)⟩
    · exact ⟨hW1, fol_setCh W _ _⟩
  have hF : ∀ rd' w, w.1 = (g : Int) → w.2.1 = place → FinOk (if (mRecv (W.ch c.2.1)).2.1.2.2.2 then goOnM (W.setCh c.2.1 (mRecv (W.ch c.2.1)).1) rd' (mRecv (W.ch c.2.1)).2.1.2.2.1 false else (W.setCh c.2.1 (mRecv (W.ch c.2.1)).1, rd')).1 x w := fun rd' w e1 e2 => by
    obtain ⟨y1, y2⟩ := hY rd'
    exact y1.finOk (hx.fol y2) ho w (by rw [e1]; have := y2.gl; omega) (by rw [cas_eq y2.ks, e2]; exact hp)
  refine ⟨⟨c0, by have := h.p.nc; omega, h.lim hB, fun e => hW1.goOk hB (hr.2 e).toIf, fun _ => hF rd _ rfl rfl⟩, fun d hd => ?_⟩
  unfold recvM at hd
  simp only at hd
  split at hd
  · cases hd
    obtain ⟨y1, y2⟩ := hY rd
    exact ⟨y1.fin (hF rd _ rfl rfl) _, y2.trans (fol_fin _ _ _ _)⟩
  · cases hd
theorem cas_mem {W : Wd} {x : In4} {place : Int} (hp : 0 ≤ place ∧ place < ((W.cas x).length : Int)) : (W.cas x).getD place.toNat (1, 0, 0) ∈ W.cas x := by
  rw [List.getD_eq_getElem?_getD, List.getElem?_eq_getElem (by omega)]
  exact List.getElem_mem _
theorem WF.try_ {B : Nat} {W : Wd} (h : WF B W) (hB : B ≤ 90000) (rd : List Int) {g : Nat} (hg : g < W.gs.length) {n : Nat} {x : In4} (hx : InsW W n x) (ho : x.1 = 13 ∨ x.1 = 14 ∨ x.1 = 16) {place : Int} (hp : 0 ≤ place ∧ place < ((W.cas x).length : Int)) (h2 : ((W.cas x).getD place.toNat (1, 0, 0)).1 ≠ 2) :
    TryOk W rd g x place ∧ ∀ d, tryM W rd g x place = some d → DdOk B W d := by
  have hc := cas_mem hp
  refine ⟨⟨hx.casX ho, by have := h.p.kl; omega, hp, fun e => (h.send hB rd hg hx ho hc e hp).1, fun e => (h.recv hB rd hg hx ho hc h2 hp).1⟩, fun d hd => ?_⟩
  unfold tryM at hd
  simp only at hd
  split at hd
  · rename_i e; exact (h.send hB rd hg hx ho hc e hp).2 d hd
  · exact (h.recv hB rd hg hx ho hc h2 hp).2 d hd
theorem waF_ok {B : Nat} {W : Wd} {g : Int} (regs : List Int) (i : Nat) (k : Cs3) (Cs : List Ch) (h : ∀ C ∈ Cs, ChOk B W C) (hw : ∀ v, WtOk W (g, (i : Int), v)) : ∀ C ∈ waF g regs i k Cs, ChOk (B + 1) W C := by
  unfold waF
  split
  · rename_i C hC
    obtain ⟨h1, h2, h3, h4, h5⟩ := h C (List.mem_of_getElem? hC)
    split
    · intro D hD
      rcases mem_set hD with e | e
      · exact (h D e).mono (by omega)
      · rw [e]
        refine ⟨h1, Nat.le_trans h2 (by omega), by simp; omega, h4, fun w hw' => ?_⟩
        simp only [List.mem_append, List.mem_cons, List.not_mem_nil, or_false] at hw'
        rcases hw' with e1 | e1
        · exact h5 w e1
        · rw [e1]; exact hw _
    · split
      · intro D hD
        rcases mem_set hD with e | e
        · exact (h D e).mono (by omega)
        · rw [e]
          refine ⟨h1, by simp; omega, Nat.le_trans h3 (by omega), fun w hw' => ?_, h5⟩
          simp only [List.mem_append, List.mem_cons, List.not_mem_nil, or_false] at hw'
          rcases hw' with e1 | e1
          · exact h4 w e1
          · rw [e1]; exact hw _
      · exact fun D hD => (h D hD).mono (by omega)
  · exact fun D hD => (h D hD).mono (by omega)
theorem wasF_ok {W : Wd} {g : Int} (regs : List Int) : ∀ (ks : List Cs3) (i B : Nat) (Cs : List Ch), (∀ C ∈ Cs, ChOk B W C) → (∀ j v, i ≤ j → j < i + ks.length → WtOk W (g, (j : Int), v)) → ∀ C ∈ wasF g regs i ks Cs, ChOk (B + ks.length) W C
  | [], i, B, Cs, h, _ => by unfold wasF; exact h
  | k :: t, i, B, Cs, h, hw => by
    unfold wasF
    have h1 := waF_ok regs i k Cs h (fun v => hw i v (Nat.le_refl _) (by simp))
    have h2 := wasF_ok regs t (i + 1) (B + 1) _ h1 (fun j v a b => hw j v (by omega) (by simp; omega))
    rw [List.length_cons, show B + (t.length + 1) = B + 1 + t.length by omega]
    exact h2
/-- A goroutine that is Ready, behind its instruction. -/
structure At (W : Wd) (g : Nat) (x : In4) : Prop where
  lt : g < W.gs.length
  st : (W.g g).st = 1
  ins : W.insAt (W.g g).fn ((W.g g).pc - 1) = some x
theorem WF.setSt {B : Nat} {W : Wd} (h : WF B W) {g : Nat} (hg : g < W.gs.length) (hs : (W.g g).st = 1) (s : Int) : WF B (W.setSt g s) :=
  h.setG (by rw [hs]; decide) ⟨(h.at hg).n, (h.at hg).len, (h.at hg).fr⟩
theorem WF.wait {B : Nat} {W : Wd} (h : WF B W) {g : Nat} {n : Nat} {x : In4} (ha : At W g x) (hx : InsW W n x) (ho : x.1 = 13 ∨ x.1 = 14 ∨ x.1 = 16) : WF (B + W.ks.length + 1) (waitM W g x) ∧ Fol W (waitM W g x) := by
  have h1 := h.setSt ha.lt ha.st 2
  have hg2 : (W.setSt g 2).g g = { W.g g with st := 2 } := by unfold Wd.setSt; rw [Wd.g_setG _ _ _ _ ha.lt, if_pos rfl]
  have hl : (W.setSt g 2).gs.length = W.gs.length := by unfold Wd.setSt Wd.setG; simp
  have hcl := hx.casLen ho
  have hw : ∀ j v, 0 ≤ j → j < 0 + (W.cas x).length → WtOk (W.setSt g 2) ((g : Int), (j : Int), v) := fun j v _ hj => by
    refine ⟨⟨by simp, by rw [hl]; have := ha.lt; simp; omega⟩, by simp only [Int.toNat_natCast]; rw [hg2], x, ?_, ho, by simp, by show (j : Int) < ((W.cas x).length : Int); omega⟩
    simp only [Int.toNat_natCast]
    rw [hg2]
    exact ha.ins
  have h2 := wasF_ok (W := W.setSt g 2) (g := (g : Int)) (W.g g).regs (W.cas x) 0 B W.Cs h1.cs hw
  have h3 := (h1.mono (C := B + (W.cas x).length) (by omega)).chans (wasF (g : Int) (W.g g).regs 0 (W.cas x) W.Cs) (wasF_len _ _ _ _ _) h2
  exact ⟨h3.mono (by omega), ⟨rfl, rfl, rfl, wasF_len _ _ _ _ _, rfl, by show W.gs.length ≤ (W.gs.set g _).length; simp⟩⟩
theorem WF.waitOk {B : Nat} {W : Wd} (h : WF B W) (hB : B ≤ 80000) {n : Nat} {x : In4} (hx : InsW W n x) (ho : x.1 = 13 ∨ x.1 = 14 ∨ x.1 = 16) : WaitOk W x :=
  ⟨hx.casX ho, by have := h.p.kl; omega, hx.casOk ho h.p.ck, ⟨B + 16, fun C hC => ⟨by have := (h.cs C hC).1; omega, by have := (h.cs C hC).2.1; omega, by have := (h.cs C hC).2.2.1; omega⟩, by omega⟩, by have := h.p.nc; omega⟩
theorem WF.chan {B : Nat} {W : Wd} (h : WF B W) (hB : B ≤ 80000) (rd : List Int) {g : Nat} {n : Nat} {x : In4} (ha : At W g x) (hx : InsW W n x) (ho : x.1 = 13 ∨ x.1 = 14) : (TryOk W rd g x 0 ∧ WaitOk W x) ∧ DdOk (B + W.ks.length + 1) W (chanM W rd g x) := by
  have ho' : x.1 = 13 ∨ x.1 = 14 ∨ x.1 = 16 := by omega
  have hcl := hx.casLen ho'
  have h2 : ((W.cas x).getD (0 : Int).toNat (1, 0, 0)).1 ≠ 2 := by
    unfold Wd.cas
    rcases ho with e | e
    · rw [if_pos e]; show (1 : Int) ≠ 2; decide
    · rw [if_neg (by omega), if_pos e]; show (0 : Int) ≠ 2; decide
  have ht := h.try_ (by omega) rd ha.lt hx ho' (place := 0) (by omega) h2
  refine ⟨⟨ht.1, h.waitOk hB hx ho'⟩, ?_⟩
  unfold chanM
  cases e : tryM W rd g x 0 with
  | none => exact h.wait ha hx ho'
  | some d => exact ⟨(ht.2 d e).1.mono (by omega), (ht.2 d e).2⟩
/-- The places of those that would go on. -/
theorem enF_mem (f : Cs3 → Bool) : ∀ (l : List Cs3) (i : Nat) (v : Int), v ∈ enF f i l → ∃ j, ∃ h : j < l.length, v = ((i + j : Nat) : Int) ∧ f l[j] = true
  | [], i, v, h => by simp [enF] at h
  | k :: t, i, v, h => by
    unfold enF at h
    split at h
    · rename_i e
      simp only [List.mem_cons] at h
      rcases h with rfl | h
      · exact ⟨0, by simp, by simp, by simpa using e⟩
      · obtain ⟨j, hj, e1, e2⟩ := enF_mem f t (i + 1) v h
        exact ⟨j + 1, by simpa using hj, by rw [e1]; omega, by simpa using e2⟩
    · obtain ⟨j, hj, e1, e2⟩ := enF_mem f t (i + 1) v h
      exact ⟨j + 1, by simpa using hj, by rw [e1]; omega, by simpa using e2⟩
theorem elF_lt : ∀ (l : List Cs3) (i : Nat), elF i l < ((i + l.length : Nat) : Int)
  | [], i => by unfold elF; omega
  | k :: t, i => by
    unfold elF
    split
    · simp; omega
    · have := elF_lt t (i + 1); simp at this ⊢; omega
theorem goesN_kind {Ns : List Nat} {Cs : List Ch} {k : Cs3} (h : goesN Ns Cs k = true) : k.1 ≠ 2 := by
  unfold goesN at h
  split at h
  · split at h
    · omega
    · split at h
      · omega
      · cases h
  · cases h
/-- What a draw comes to is a place of those that go on. -/
theorem askM_place {W : Wd} {x : In4} {d : Int} (hx : x.1 = 16) (h : (askM W x d).2 = true) : (0 ≤ (askM W x d).1 ∧ (askM W x d).1 < ((W.cas x).length : Int)) ∧ ((W.cas x).getD (askM W x d).1.toNat (1, 0, 0)).1 ≠ 2 := by
  unfold askM at h ⊢
  rw [if_neg (by omega), if_pos hx] at h ⊢
  split at h
  · cases h
  · rename_i h0
    rw [if_neg h0]
    simp only
    obtain ⟨b, hb⟩ : ∃ b, b = belowZ ((enF (goesN W.Ns W.Cs) 0 (W.cas x)).length : Int) d := ⟨_, rfl⟩
    have hb2 : 0 ≤ b ∧ b < ((enF (goesN W.Ns W.Cs) 0 (W.cas x)).length : Int) := by
      rw [hb]; unfold belowZ; split <;> split <;> omega
    rw [← hb]
    have hm : (enF (goesN W.Ns W.Cs) 0 (W.cas x)).getD b.toNat 0 ∈ enF (goesN W.Ns W.Cs) 0 (W.cas x) := by
      rw [List.getD_eq_getElem?_getD, List.getElem?_eq_getElem (by omega)]
      exact List.getElem_mem _
    obtain ⟨j, hj, e1, e2⟩ := enF_mem _ _ _ _ hm
    rw [e1]
    refine ⟨by omega, ?_⟩
    rw [Nat.zero_add, Int.toNat_natCast, List.getD_eq_getElem?_getD, List.getElem?_eq_getElem hj]
    exact goesN_kind e2
theorem WF.choose {B : Nat} {W : Wd} (h : WF B W) (hB : B ≤ 80000) {g : Nat} {n : Nat} {x : In4} (ha : At W g x) (hx : InsW W n x) (ho : x.1 = 16) {dr : Int} {go : Bool} (hd : go = true → (0 ≤ dr ∧ dr < ((W.cas x).length : Int)) ∧ ((W.cas x).getD dr.toNat (1, 0, 0)).1 ≠ 2) :
    ChooseOk W g x dr go ∧ DdOk (B + W.ks.length + 1) W (chooseM W [] g x dr go) := by
  have ho' : x.1 = 13 ∨ x.1 = 14 ∨ x.1 = 16 := by omega
  refine ⟨⟨hx.casX ho', by have := h.p.kl; omega, fun e => (h.try_ (by omega) [] ha.lt hx ho' (hd e).1 (hd e).2).1, fun _ => h.waitOk hB hx ho', (hx.o16 ho).2⟩, ?_⟩
  unfold chooseM
  split
  · rename_i e
    have ht := h.try_ (by omega) [] ha.lt hx ho' (hd e).1 (hd e).2
    cases e2 : tryM W [] g x dr with
    | none => exact ⟨h.mono (by omega), Fol.refl _⟩
    | some d => exact ⟨(ht.2 d e2).1.mono (by omega), (ht.2 d e2).2⟩
  · split
    · exact h.wait ha hx ho'
    · exact ⟨(h.put g x.2.2.2 (elF 0 (W.cas x)) (hx.o16 ho).2).mono (by omega), fol_put _ _ _ _⟩
theorem WtIf.goOn {B : Nat} {W : Wd} (h : WF B W) (hB : B ≤ 90000) (rd : List Int) {w : Wt} (hw : WtIf W w) (s : Bool) {v : Wt} (hv : WtIf W v) : WtIf (goOnM W rd w s).1 v := by
  obtain ⟨h1, h2, h3, h4, h5, h6, h7, h8⟩ := h.goOn hB rd hw s
  refine ⟨by rw [h2]; exact hv.1, fun hs => ?_⟩
  by_cases e : v.1 = w.1
  · rw [e] at hs; exact absurd hs h8
  · obtain ⟨a, b, c⟩ := h7 v.1.toNat (by have := hv.1; omega)
    rw [a] at hs
    obtain ⟨x, k1, k2, k3⟩ := hv.2 hs
    exact ⟨x, by rw [b, c, insAt_eq h3]; exact k1, k2, by rw [cas_eq h4]; exact k3⟩
theorem WF.goOns {B : Nat} : ∀ (l : List Wt) (W : Wd), WF B W → B ≤ 90000 → ∀ (rd : List Int), (∀ w ∈ l, WtIf W w) → WF B (goOnsM W rd l).1 ∧ Fol W (goOnsM W rd l).1 ∧ ∀ v, WtIf W v → WtIf (goOnsM W rd l).1 v
  | [], W, h, _, rd, _ => ⟨h, Fol.refl _, fun _ hv => hv⟩
  | r :: t, W, h, hB, rd, hw => by
    have hr := hw r (by simp)
    have h1 := (h.goOn hB rd hr false).1
    have hf := fol_goOn h hB rd hr false
    obtain ⟨a, b, c⟩ := WF.goOns t (goOnM W rd r false).1 h1 hB (goOnM W rd r false).2 (fun v hv => WtIf.goOn h hB rd hr false (hw v (by simp [hv])))
    exact ⟨a, hf.trans b, fun v hv => c v (WtIf.goOn h hB rd hr false hv)⟩
theorem WF.close {B : Nat} {W : Wd} (h : WF B W) (hB : B ≤ 90000) {n : Nat} {x : In4} (hx : InsW W n x) (ho : x.1 = 15) (rd : List Int) : CloseOk W x ∧ DdOk B W (closeM W rd x) := by
  have c0 := hx.o15 ho
  have hC := h.cs _ (ch_mem c0)
  have hW1 := h.setCh x.2.1 (C := ⟨(W.ch x.2.1).buf, [], [], true⟩) ⟨hC.1, by simp, by simp, fun w hw => by simp at hw, fun w hw => by simp at hw⟩
  have hR : ∀ w ∈ (W.ch x.2.1).R, WtIf (W.setCh x.2.1 ⟨(W.ch x.2.1).buf, [], [], true⟩) w := fun w hw => (hC.2.2.2.2 w hw).toIf
  refine ⟨⟨c0, by have := h.p.nc; omega, by have := hC.2.2.1; omega, fun _ _ i hi => ?_⟩, ?_⟩
  · obtain ⟨a, b, c⟩ := WF.goOns ((W.ch x.2.1).R.take i) _ hW1 hB [] (fun w hw => hR w (List.mem_of_mem_take hw))
    exact a.goOk hB (c _ (hR _ (List.getElem_mem _)))
  · unfold closeM
    simp only
    split
    · exact ⟨h, Fol.refl _⟩
    · split
      · obtain ⟨a, b, c⟩ := WF.goOns (W.ch x.2.1).R _ hW1 hB rd hR
        exact ⟨a, (fol_setCh W _ _).trans b⟩
      · exact ⟨hW1, fol_setCh W _ _⟩
theorem getD_app1 {l m : List Int} {i : Nat} (h : i < l.length) : (l ++ m).getD i 0 = l.getD i 0 := by
  rw [List.getD_eq_getElem?_getD, List.getElem?_append_left h, ← List.getD_eq_getElem?_getD]
theorem getD_app2 {l m : List Int} {i : Nat} (h : l.length ≤ i) : (l ++ m).getD i 0 = m.getD (i - l.length) 0 := by
  rw [List.getD_eq_getElem?_getD, List.getElem?_append_right h, ← List.getD_eq_getElem?_getD]
theorem getD_take {l : List Int} {n i : Nat} (h : i < n) : (l.take n).getD i 0 = l.getD i 0 := by
  rw [List.getD_eq_getElem?_getD, List.getElem?_take, if_pos h, ← List.getD_eq_getElem?_getD]
theorem GW.new {fs : List (List In4)} {f a c : Int} (st : Int) (hf : 0 ≤ f ∧ f < (fs.length : Int)) (hc : 0 ≤ c ∧ c < 8) : GW fs ⟨st, 1, newF f a c⟩ := by
  refine ⟨⟨Nat.le_refl _, by show 1 ≤ 16; omega⟩, rfl, fun i hi => ?_⟩
  obtain rfl : i = 0 := by simp at hi; exact hi
  exact ⟨hf, ⟨by show (0 : Int) ≤ 0; omega, by show (0 : Int) ≤ _; omega⟩, hc⟩
theorem GW.call {fs : List (List In4)} {G : Gt} (h : GW fs G) (hn : G.n < 16) {f a c : Int} (hf : 0 ≤ f ∧ f < (fs.length : Int)) (hc : 0 ≤ c ∧ c < 8) : GW fs { G with n := G.n + 1, z := G.z ++ newF f a c } := by
  refine ⟨⟨by simp, by simp; omega⟩, by simp [h.len, newF]; omega, fun i hi => ?_⟩
  simp only at hi ⊢
  have hl := h.len
  by_cases e : i < G.n
  · rw [getD_app1 (by omega), getD_app1 (by omega), getD_app1 (by omega)]
    exact h.fr i e
  · obtain rfl : i = G.n := by omega
    rw [getD_app2 (by omega), getD_app2 (by omega), getD_app2 (by omega), hl, Nat.sub_self, Nat.add_sub_cancel_left, Nat.add_sub_cancel_left]
    exact ⟨hf, ⟨by show (0 : Int) ≤ 0; omega, by show (0 : Int) ≤ _; omega⟩, hc⟩
theorem GW.ret {fs : List (List In4)} {G : Gt} (h : GW fs G) (hn : 1 < G.n) (v : Int) : GW fs { G with n := G.n - 1, z := (G.z.take ((G.n - 1) * 11)).set ((G.n - 2) * 11 + 2 + (G.z.getD (G.o + 10) 0).toNat) v } := by
  have hl := h.len
  have h16 := h.n
  have ht : GW fs { G with n := G.n - 1, z := G.z.take ((G.n - 1) * 11) } := by
    refine ⟨⟨by simp only; omega, by simp only; omega⟩, by simp only [List.length_take]; omega, fun i hi => ?_⟩
    simp only at hi ⊢
    rw [getD_take (by omega), getD_take (by omega), getD_take (by omega)]
    exact h.fr i (by omega)
  have hf := (h.fr (G.n - 1) (by omega)).2.2
  exact ht.reg (G.n - 2) (G.z.getD (G.o + 10) 0).toNat (by show (G.z.getD ((G.n - 1) * 11 + 10) 0).toNat < 8; omega) v
theorem GW.place {fs : List (List In4)} {G : Gt} (h : GW fs G) (v : Int) (hv : 0 ≤ v ∧ v ≤ ((fs.getD G.fn.toNat []).length : Int)) : GW fs { G with z := G.z.set (G.o + 1) v } := by
  refine ⟨h.n, by simpa using h.len, fun i hi => ?_⟩
  simp only at hi ⊢
  have hl := h.len
  unfold Gt.fn Gt.o at *
  rw [getD_set_ne (i := (G.n - 1) * 11 + 1) (j := i * 11) (by omega), getD_set_ne (i := (G.n - 1) * 11 + 1) (j := i * 11 + 10) (by omega)]
  obtain ⟨a, b, c⟩ := h.fr i hi
  refine ⟨a, ?_, c⟩
  by_cases e : i = G.n - 1
  · subst e
    rw [getD_set_eq (by omega)]
    exact hv
  · rw [getD_set_ne (by omega)]
    exact b
end Go.Proofs.YtjidcagklakjaaaGreat
/-
  Worlds that programs come to: Exec, Tick, New.
-/
open Go Go.RowKit
set_option linter.unusedVariables false
namespace Go.Proofs.YtjidcagklakjaaaGreat
theorem WF.locks {B : Nat} {W : Wd} (h : WF B W) (Ls' : List (List Int)) (hl : Ls'.length = W.Ls.length) (hc : ∀ (i : Nat) (L : List Int), Ls'[i]? = some L → LsOk B W i L) : WF B { W with Ls := Ls' } := by
  refine ⟨?_, h.ns, h.g1, h.gw, h.cs, hc, h.hp, h.nx, h.clock, h.out⟩
  show PW W.fs W.ks W.Cs.length Ls'.length
  rw [hl]; exact h.p
theorem LsOk.mono {B C : Nat} {W : Wd} {i : Nat} {L : List Int} (h : LsOk B W i L) (hb : B ≤ C) : LsOk C W i L := ⟨Nat.le_trans h.1 hb, h.2⟩
theorem setSt_at {W : Wd} {g : Nat} (hg : g < W.gs.length) (s : Int) (j : Nat) : (W.setSt g s).g j = if g = j then { W.g g with st := s } else W.g j := by unfold Wd.setSt; exact Wd.g_setG _ _ _ _ hg
theorem setSt_len (W : Wd) (g : Nat) (s : Int) : (W.setSt g s).gs.length = W.gs.length := by unfold Wd.setSt Wd.setG; simp
theorem lk_get {W : Wd} {i : Int} (h : 0 ≤ i ∧ i < (W.Ls.length : Int)) : W.Ls[i.toNat]? = some (W.lk i) := by
  have e : i = ((i.toNat : Nat) : Int) := by omega
  have := Wd.lk_at (W := W) (i := i.toNat) (by omega)
  rw [← e] at this; exact this
theorem WF.lock {B : Nat} {W : Wd} (h : WF B W) (rd : List Int) {g : Nat} {n : Nat} {x : In4} (ha : At W g x) (hx : InsW W n x) (ho : x.1 = 18) : DdOk (B + 1) W (lockM W rd g x) := by
  have hi := hx.o18 (.inl ho)
  have hL := h.ls _ _ (lk_get hi)
  have hset : ∀ (V : Wd), V.Ls = W.Ls → ∀ (i : Nat) (L : List Int), (W.Ls.set x.2.1.toNat (W.lk x.2.1 ++ [(g : Int)]))[i]? = some L → (i = x.2.1.toNat ∧ L = W.lk x.2.1 ++ [(g : Int)]) ∨ W.Ls[i]? = some L := fun V _ i L hh => by
    by_cases e : i = x.2.1.toNat
    · subst e
      rw [List.getElem?_set_self (by omega)] at hh
      exact .inl ⟨rfl, by simpa using hh.symm⟩
    · rw [List.getElem?_set_ne (by omega)] at hh; exact .inr hh
  unfold lockM
  simp only
  by_cases e0 : W.lk x.2.1 = []
  · rw [if_pos e0]
    refine ⟨(h.mono (C := B + 1) (by omega)).locks _ (by simp) (fun i L hh => ?_), ⟨rfl, rfl, rfl, rfl, by simp, Nat.le_refl _⟩⟩
    rcases hset W rfl i L hh with ⟨rfl, rfl⟩ | hh
    · rw [e0]
      refine ⟨by simp, fun j hj => ?_, by simp, fun j hj => by simp at hj⟩
      simp at hj; subst hj; exact ⟨by omega, by have := ha.lt; omega⟩
    · exact (h.ls i L hh).mono (by omega)
  · rw [if_neg e0]
    have h1 := h.setSt ha.lt ha.st 2
    have hne : ∀ j : Int, (W.g j.toNat).st = 2 → j.toNat ≠ g := fun j hj e => by rw [e, ha.st] at hj; omega
    have hk : ∀ (i : Nat) (j : Int), LkOk W i j → LkOk (W.setSt g 2) i j := fun i j ⟨a, y, b, c⟩ => by
      have e := setSt_at ha.lt 2 j.toNat
      rw [if_neg (fun e => hne j a e.symm)] at e
      refine ⟨by rw [e]; exact a, y, ?_, c⟩
      show W.insAt ((W.setSt g 2).g j.toNat).fn (((W.setSt g 2).g j.toNat).pc - 1) = some y
      rw [e]; exact b
    refine ⟨(h1.mono (C := B + 1) (by omega)).locks _ (by simp [Wd.setSt, Wd.setG]) (fun i L hh => ?_), ⟨rfl, rfl, rfl, rfl, by show (List.set _ _ _).length = _; simp, by show W.gs.length ≤ (List.set _ _ _).length; simp⟩⟩
    rcases hset W rfl i L hh with ⟨rfl, rfl⟩ | hh
    · obtain ⟨a, b, c, d⟩ := hL
      have et : (W.lk x.2.1 ++ [(g : Int)]).tail = (W.lk x.2.1).tail ++ [(g : Int)] := by
        cases e : W.lk x.2.1 with
        | nil => exact absurd e e0
        | cons a t => rfl
      refine ⟨by simp; omega, fun j hj => ?_, ?_, fun j hj => ?_⟩
      · rw [setSt_len]
        simp only [List.mem_append, List.mem_cons, List.not_mem_nil, or_false] at hj
        rcases hj with hj | rfl
        · exact b j hj
        · exact ⟨by omega, by have := ha.lt; omega⟩
      · rw [et, List.nodup_append]
        refine ⟨c, by simp, fun j hj k hk' => ?_⟩
        simp at hk'; subst hk'
        intro e
        have := (d j hj).1
        rw [e] at this
        simp only [Int.toNat_natCast] at this
        rw [ha.st] at this; omega
      · rw [et] at hj
        simp only [List.mem_append, List.mem_cons, List.not_mem_nil, or_false] at hj
        rcases hj with hj | rfl
        · exact hk _ _ (d j hj)
        · have e := setSt_at ha.lt 2 g
          rw [if_pos rfl] at e
          refine ⟨by simp only [Int.toNat_natCast]; rw [e], x, ?_, ho, by omega⟩
          simp only [Int.toNat_natCast]
          rw [e]; exact ha.ins
    · obtain ⟨a, b, c, d⟩ := h.ls i L hh
      exact ⟨by omega, by rw [setSt_len]; exact b, c, fun j hj => hk _ _ (d j hj)⟩
theorem WF.unlock {B : Nat} {W : Wd} (h : WF B W) (rd : List Int) {g : Nat} {n : Nat} {x : In4} (hx : InsW W n x) (ho : x.1 = 19) : DdOk B W (unlockM W rd g x) := by
  have hi := hx.o18 (.inr ho)
  obtain ⟨a, b, c, d⟩ := h.ls _ _ (lk_get hi)
  have hget := lk_get hi
  unfold unlockM
  simp only
  generalize W.lk x.2.1 = L at *
  cases L with
  | nil => simp only [gaveR]; rw [if_neg (by decide)]; exact ⟨h, Fol.refl _⟩
  | cons y t =>
    by_cases e : y = (g : Int)
    · simp only [gaveR, gaveL, if_pos e]
      have hset : ∀ (i : Nat) (L : List Int), (W.Ls.set x.2.1.toNat t)[i]? = some L → (i = x.2.1.toNat ∧ L = t) ∨ (i ≠ x.2.1.toNat ∧ W.Ls[i]? = some L) := fun i L hh => by
        by_cases e : i = x.2.1.toNat
        · subst e
          rw [List.getElem?_set_self (by omega)] at hh
          exact .inl ⟨rfl, by simpa using hh.symm⟩
        · rw [List.getElem?_set_ne (by omega)] at hh; exact .inr ⟨e, hh⟩
      have h1 : WF B { W with Ls := W.Ls.set x.2.1.toNat t } := h.locks _ (by simp) (fun i L hh => by
        rcases hset i L hh with ⟨rfl, rfl⟩ | ⟨-, hh⟩
        · refine ⟨by simp at a; omega, fun j hj => b j (by simp [hj]), ?_, fun j hj => d j (List.mem_of_mem_tail hj)⟩
          exact (show L.Nodup from by simpa using c).sublist (List.tail_sublist L)
        · exact h.ls i L hh)
      have hf : Fol W { W with Ls := W.Ls.set x.2.1.toNat t } := ⟨rfl, rfl, rfl, rfl, by simp, Nat.le_refl _⟩
      rw [if_pos trivial]
      split
      · exact ⟨h1, hf⟩
      · rename_i e1
        cases t with
        | nil => exact absurd rfl e1
        | cons z s =>
          simp only [List.headD_cons] at e1 ⊢
          obtain ⟨z0, z1⟩ := b z (by simp)
          obtain ⟨d1, y', d2, d3, d4⟩ := d z (by simp)
          have hzn : ((z.toNat : Nat) : Int) = z := by omega
          have hgz := h.at (j := z.toNat) (by omega)
          refine ⟨h1.goes z.toNat _ ⟨hgz.n, hgz.len, hgz.fr⟩ (fun C hC => ?_) (fun i L hh hm => ?_) (fun it hit e2 => ?_), hf.trans (fol_setG _ _ _)⟩
          · rw [hzn]
            obtain ⟨-, -, -, k1, k2⟩ := h.cs C hC
            refine ⟨fun w hw e2 => ?_, fun w hw e2 => ?_⟩
            · obtain ⟨-, -, x2, k3, k4, -⟩ := k1 w hw
              rw [e2, d2] at k3; cases k3; omega
            · obtain ⟨-, -, x2, k3, k4, -⟩ := k2 w hw
              rw [e2, d2] at k3; cases k3; omega
          · rw [hzn] at hm
            rcases hset i L hh with ⟨rfl, rfl⟩ | ⟨e3, hh⟩
            · simp only [List.tail_cons] at hm c
              exact (List.nodup_cons.1 c).1 hm
            · obtain ⟨-, x2, k3, -, k4⟩ := (h.ls i L hh).2.2.2 _ hm
              rw [d2] at k3; cases k3; omega
          · rw [hzn] at e2
            obtain ⟨-, k, -⟩ := h.hp.2.2.1 it hit
            rw [e2, d1] at k; omega
    · simp only [gaveR, if_neg e]
      rw [if_neg (by decide)]; exact ⟨h, Fol.refl _⟩
theorem WF.sleep {B : Nat} {W : Wd} (h : WF B W) (hB : B ≤ 80000) (rd : List Int) {g : Nat} {x : In4} (ha : At W g x) : DdOk (B + 1) W (sleepM W rd g x) := by
  unfold sleepM
  simp only
  obtain ⟨r, hr⟩ : ∃ r, r = if 1048576 < (W.g g).rg x.2.1 then 1048576 else (W.g g).rg x.2.1 := ⟨_, rfl⟩
  rw [← hr]
  have hr2 : r ≤ 1048576 := by rw [hr]; split <;> omega
  clear hr
  by_cases h0 : r ≤ 0
  · rw [if_pos h0]; exact ⟨h.mono (by omega), Fol.refl _⟩
  · rw [if_neg h0]
    have h1 := h.setSt ha.lt ha.st 3
    have hno : ∀ y ∈ W.hp, y.id ≠ (g : Int) := fun y hy e => by
      obtain ⟨-, k, -⟩ := h.hp.2.2.1 y hy
      rw [e] at k; simp only [Int.toNat_natCast] at k; rw [ha.st] at k; omega
    have hperm := push_perm W.hp ⟨(W.clock : Int) + r, (W.nx : Int), (g : Int)⟩
    refine ⟨?_, ⟨rfl, rfl, rfl, rfl, rfl, by show W.gs.length ≤ _; rw [show (W.setSt g 3).gs.length = W.gs.length from setSt_len W g 3]; exact Nat.le_refl _⟩⟩
    refine ⟨h1.p, h1.ns, h1.g1, h1.gw, fun C hC => (h1.cs C hC).mono (by omega), fun i L hL => (h1.ls i L hL).mono (by omega), ⟨?_, ?_, fun y hy => ?_, push_heap h.hp.2.2.2⟩, by show W.nx + 1 ≤ B + 1; have := h.nx; omega, Nat.le_trans h.clock (by omega), h.out⟩
    · show (pushF W.hp _).length ≤ _; rw [pushF_len]; have := h.hp.1; omega
    · show ((pushF W.hp _).map (·.id)).Nodup
      rw [(hperm.map (·.id)).nodup_iff, List.map_cons, List.nodup_cons]
      refine ⟨fun hm => ?_, h.hp.2.1⟩
      obtain ⟨y, hy, e⟩ := List.mem_map.1 hm
      exact hno y hy e
    · have hy' := hperm.mem_iff.1 hy
      simp only [List.mem_cons] at hy'
      rcases hy' with rfl | hy'
      · refine ⟨⟨by simp, by rw [show ({ W.setSt g 3 with hp := _, nx := _ } : Wd).gs.length = W.gs.length from setSt_len W g 3]; have := ha.lt; simp; omega⟩, ?_, ⟨by simp only; omega, by simp only; have := h.clock; omega⟩, by simp, by show (W.nx : Int) < ((W.nx + 1 : Nat) : Int); omega⟩
        have e := setSt_at ha.lt 3 g
        rw [if_pos rfl] at e
        show ((W.setSt g 3).g (Int.toNat (g : Int))).st = 3
        rw [Int.toNat_natCast, e]
      · obtain ⟨a, b, c, d⟩ := h1.hp.2.2.1 y hy'
        exact ⟨a, b, c, d.1, by have := d.2; show y.seq < ((W.nx + 1 : Nat) : Int); have e : (W.setSt g 3).nx = W.nx := rfl; rw [e] at this; omega⟩
theorem WF.outs {B : Nat} {W : Wd} (h : WF B W) (o : List Int) (ho : o.length ≤ 1000) : WF B { W with out := o } := ⟨h.p, h.ns, h.g1, h.gw, h.cs, h.ls, h.hp, h.nx, h.clock, ho⟩
theorem WF.ends {B : Nat} {W : Wd} (h : WF B W) (e y : Int) : WF B { W with en := e, why := y } := ⟨h.p, h.ns, h.g1, h.gw, h.cs, h.ls, h.hp, h.nx, h.clock, h.out⟩
theorem WF.end_ {B : Nat} {d : Dd} (h : WF B d.W) : WF B d.end_ := by
  unfold Dd.end_; split
  · exact h
  · exact h.ends _ _
theorem fol_end {W : Wd} {d : Dd} (h : Fol W d.W) : Fol W d.end_ := by
  unfold Dd.end_; split
  · exact h
  · exact ⟨h.fs, h.ks, h.Ns, h.cl, h.ll, h.gl⟩
theorem WF.call {B : Nat} {W : Wd} (h : WF B W) (rd : List Int) {g : Nat} {n : Nat} {x : In4} (ha : At W g x) (hx : InsW W n x) (ho : x.1 = 9) : DdOk B W (callM W rd g x) := by
  obtain ⟨a, b, c⟩ := hx.o9 (.inl ho)
  unfold callM
  simp only
  split
  · exact ⟨h, Fol.refl _⟩
  · exact ⟨h.setG (by rw [ha.st]; decide) ((h.at ha.lt).call (by omega) a c), fol_setG _ _ _⟩
theorem WF.ret {B : Nat} {W : Wd} (h : WF B W) (rd : List Int) {g : Nat} {x : In4} (ha : At W g x) : DdOk B W (retM W rd g x) := by
  unfold retM
  simp only
  split
  · have h1 := h.setSt ha.lt ha.st 4
    exact ⟨⟨h1.p, h1.ns, h1.g1, h1.gw, h1.cs, h1.ls, h1.hp, h1.nx, h1.clock, h1.out⟩, ⟨rfl, rfl, rfl, rfl, rfl, by show W.gs.length ≤ _; rw [show ({ W.setSt g 4 with en := _ } : Wd).gs.length = W.gs.length from setSt_len W g 4]; exact Nat.le_refl _⟩⟩
  · exact ⟨h.setG (by rw [ha.st]; decide) ((h.at ha.lt).ret (by omega) _), fol_setG _ _ _⟩
theorem WF.spawn {B : Nat} {W : Wd} (h : WF B W) (rd : List Int) {g : Nat} {n : Nat} {x : In4} (ha : At W g x) (hx : InsW W n x) (ho : x.1 = 11) : DdOk B W (spawnM W rd g x) := by
  obtain ⟨a, b, c⟩ := hx.o9 (.inr ho)
  unfold spawnM
  split
  · exact ⟨h, Fol.refl _⟩
  · have h1 : WF B { W with gs := W.gs ++ [⟨1, 1, newF x.2.1 ((W.g g).rg x.2.2.1) 0⟩] } := h.gsm _ ⟨by simp, fun j hj _ => by
      rw [List.getD_eq_getElem?_getD, List.getElem?_append_left hj, ← List.getD_eq_getElem?_getD]; exact ⟨rfl, rfl, rfl⟩⟩ (by simp; omega) (fun G hG => by
      simp only [List.mem_append, List.mem_cons, List.not_mem_nil, or_false] at hG
      rcases hG with hG | rfl
      · exact h.gw G hG
      · exact GW.new 1 a (by omega))
    refine ⟨h1.put g x.2.2.2 _ c, ?_⟩
    have := fol_put ({ W with gs := W.gs ++ [⟨1, 1, newF x.2.1 ((W.g g).rg x.2.2.1) 0⟩] } : Wd) g x.2.2.2 (W.gs.length : Int)
    exact ⟨this.fs, this.ks, this.Ns, this.cl, this.ll, Nat.le_trans (by simp) this.gl⟩
theorem WF.emit {B : Nat} {W : Wd} (h : WF B W) (rd : List Int) (g : Nat) (x : In4) : DdOk B W (emitM W rd g x) := by
  unfold emitM
  split
  · exact ⟨h, Fol.refl _⟩
  · exact ⟨h.outs _ (by simp; omega), ⟨rfl, rfl, rfl, rfl, rfl, Nat.le_refl _⟩⟩
theorem DdOk.more {B C : Nat} {W : Wd} {d : Dd} (h : DdOk B W d) (hb : B ≤ C) : DdOk C W d := ⟨h.1.mono hb, h.2⟩
/-- Whatever the op. -/
theorem WF.deed {B : Nat} {W : Wd} (h : WF B W) (hB : B ≤ 80000) {g : Nat} {n : Nat} {x : In4} (ha : At W g x) (hx : InsW W n x) (h9 : 9 ≤ x.1) {dr : Int} {go : Bool} (hd : x.1 = 16 → go = true → (0 ≤ dr ∧ dr < ((W.cas x).length : Int)) ∧ ((W.cas x).getD dr.toNat (1, 0, 0)).1 ≠ 2) :
    DeedOk W g x dr go ∧ DdOk (B + W.ks.length + 1) W (deedM W g x dr go) := by
  have hG := h.at ha.lt
  have hfr := (hG.fr ((W.g g).n - 1) (by have := hG.n; omega)).2.2
  refine ⟨⟨⟨h9, hx.op.2⟩, fun e => (hx.o9 (.inl e)).2.1, fun e => ⟨hx.o10 (.inl e), fun _ => hfr⟩, fun e => ⟨(hx.o9 (.inr e)).2.1, (hx.o9 (.inr e)).2.2, h.g1.2⟩, fun e => (h.chan hB [] ha hx e).1, fun e => (h.close (by omega) hx e []).1, fun e => (h.choose hB ha hx e (hd e)).1,
    fun e => ⟨hx.o10 (.inr (.inl e)), by have := h.hp.1; omega, by have := h.nx; omega, by have := h.clock; omega⟩,
    fun e => ⟨hx.o18 (.inl e), fun L hL => ?_, h.p.nl⟩, fun e => ⟨hx.o18 (.inr e), fun L hL => ?_, h.p.nl, by have := h.g1.2; omega⟩, fun e => ⟨hx.o10 (.inr (.inr e)), h.out⟩, fun e => (hx.o21 e).1⟩, ?_⟩
  · obtain ⟨i, hi⟩ := List.mem_iff_getElem?.1 hL
    have := (h.ls i L hi).1; omega
  · obtain ⟨i, hi⟩ := List.mem_iff_getElem?.1 hL
    exact (h.ls i L hi).2.1
  · have hop : x.1 = 9 ∨ x.1 = 10 ∨ x.1 = 11 ∨ x.1 = 12 ∨ x.1 = 13 ∨ x.1 = 14 ∨ x.1 = 15 ∨ x.1 = 16 ∨ x.1 = 17 ∨ x.1 = 18 ∨ x.1 = 19 ∨ x.1 = 20 ∨ x.1 = 21 ∨ x.1 = 22 := by have := hx.op; omega
    rcases hop with e | e | e | e | e | e | e | e | e | e | e | e | e | e
    · rw [show deedM W g x dr go = callM W [] g x by unfold deedM; rw [e]; rfl]; exact (h.call [] ha hx e).more (by omega)
    · rw [show deedM W g x dr go = retM W [] g x by unfold deedM; rw [e]; rfl]; exact (h.ret [] ha).more (by omega)
    · rw [show deedM W g x dr go = spawnM W [] g x by unfold deedM; rw [e]; rfl]; exact (h.spawn [] ha hx e).more (by omega)
    · rw [show deedM W g x dr go = ⟨W, [], none⟩ by unfold deedM; rw [e]; rfl]; exact ⟨h.mono (by omega), Fol.refl _⟩
    · rw [show deedM W g x dr go = chanM W [] g x by unfold deedM; rw [e]; rfl]; exact (h.chan hB [] ha hx (.inl e)).2
    · rw [show deedM W g x dr go = chanM W [] g x by unfold deedM; rw [e]; rfl]; exact (h.chan hB [] ha hx (.inr e)).2
    · rw [show deedM W g x dr go = closeM W [] x by unfold deedM; rw [e]; rfl]; exact (h.close (by omega) hx e []).2.more (by omega)
    · rw [show deedM W g x dr go = chooseM W [] g x dr go by unfold deedM; rw [e]; rfl]; exact (h.choose hB ha hx e (hd e)).2
    · rw [show deedM W g x dr go = sleepM W [] g x by unfold deedM; rw [e]; rfl]; exact (h.sleep hB [] ha).more (by omega)
    · rw [show deedM W g x dr go = lockM W [] g x by unfold deedM; rw [e]; rfl]; exact (h.lock [] ha hx e).more (by omega)
    · rw [show deedM W g x dr go = unlockM W [] g x by unfold deedM; rw [e]; rfl]; exact (h.unlock [] hx e).more (by omega)
    · rw [show deedM W g x dr go = emitM W [] g x by unfold deedM; rw [e]; rfl]; exact (h.emit [] g x).more (by omega)
    · rw [show deedM W g x dr go = ⟨W.put g x.2.1 dr, [], none⟩ by unfold deedM; rw [e]; rfl]; exact ⟨(h.put g x.2.1 dr (hx.o21 e).1).mono (by omega), fol_put _ _ _ _⟩
    · rw [show deedM W g x dr go = ⟨W, [], some x.2.1⟩ by unfold deedM; rw [e]; rfl]; exact ⟨h.mono (by omega), Fol.refl _⟩
theorem pureM_none {x : In4} {o : Nat} {z : List Int} (h : pureM x o z = none) (h0 : 0 ≤ x.1) : 9 ≤ x.1 := by
  rcases Int.lt_or_le x.1 9 with e | e
  · exfalso
    have : x.1 = 0 ∨ x.1 = 1 ∨ x.1 = 2 ∨ x.1 = 3 ∨ x.1 = 4 ∨ x.1 = 5 ∨ x.1 = 6 ∨ x.1 = 7 ∨ x.1 = 8 := by omega
    unfold pureM at h
    rcases this with e | e | e | e | e | e | e | e | e <;> simp [e] at h
  · exact e
theorem pureM_some {x : In4} {o : Nat} {z z' : List Int} (h : pureM x o z = some z') (h0 : 0 ≤ x.1) : x.1 ≤ 8 := by
  rcases Int.lt_or_le 8 x.1 with e | e
  · exfalso
    unfold pureM at h
    simp only at h
    rw [if_neg (by omega), if_neg (by omega), if_neg (by omega), if_neg (by omega), if_neg (by omega), if_neg (by omega), if_neg (by omega), if_neg (by omega), if_neg (by omega)] at h
    cases h
  · exact e
theorem GW.pure {fs : List (List In4)} {G : Gt} (h : GW fs G) {nc nk nl : Nat} {x : In4} (hx : InsOk fs.length nc nk nl (fs.getD G.fn.toNat []).length x) (hpc : 0 ≤ G.pc ∧ G.pc < ((fs.getD G.fn.toNat []).length : Int)) {z' : List Int} (hz : pureM x G.o G.z = some z') : GW fs { G with z := z' } := by
  have h8 := pureM_some hz hx.op.1
  have hp := hx.pure h8
  have h1 := h.place (G.pc + 1) (by omega)
  have hr : ∀ (v : Int), 0 ≤ x.2.1 → x.2.1 < 8 → GW fs { G with z := (G.z.set (G.o + 1) (G.pc + 1)).set (G.o + 2 + x.2.1.toNat) v } := fun v a b => h1.reg (G.n - 1) x.2.1.toNat (by omega) v
  have hset : ∀ v, 0 ≤ v ∧ v ≤ ((fs.getD G.fn.toNat []).length : Int) → GW fs { G with z := (G.z.set (G.o + 1) (G.pc + 1)).set (G.o + 1) v } := fun v hv => by rw [List.set_set]; exact h.place v hv
  unfold pureM at hz
  simp only at hz
  unfold PureOk at hp
  split at hz
  · cases hz; exact h1
  split at hz
  · cases hz; exact hr _ (by omega) (by omega)
  split at hz
  · cases hz; exact hr _ (by omega) (by omega)
  split at hz
  · cases hz; exact hr _ (by omega) (by omega)
  split at hz
  · cases hz; exact hr _ (by omega) (by omega)
  split at hz
  · cases hz; exact hr _ (by omega) (by omega)
  split at hz
  · cases hz; exact hr _ (by omega) (by omega)
  split at hz
  · rename_i e; cases hz; have := hx.j7 e; exact hset _ (by omega)
  split at hz
  · rename_i e
    have := hx.j8 e
    split at hz
    · cases hz; exact h1
    · cases hz; exact hset _ (by omega)
  · cases hz
theorem Wd.ins_eq (W : Wd) (g : Nat) : W.ins g = W.insAt (W.g g).fn (W.g g).pc := rfl
theorem Gt.step_at (G : Gt) (hl : G.z.length = G.n * 11) (hn : 1 ≤ G.n) (v : Int) : ({ G with z := G.z.set (G.o + 1) v } : Gt).fn = G.fn ∧ ({ G with z := G.z.set (G.o + 1) v } : Gt).pc = v := by
  refine ⟨?_, ?_⟩
  · show (G.z.set (G.o + 1) v).getD G.o 0 = G.z.getD G.o 0
    rw [getD_set_ne (by omega)]
  · show (G.z.set (G.o + 1) v).getD (G.o + 1) 0 = v
    rw [getD_set_eq (by unfold Gt.o; omega)]
/-- Behind an instruction. -/
theorem WF.step {B : Nat} {W : Wd} (h : WF B W) {g : Nat} (hg : g < W.gs.length) (hs : (W.g g).st = 1) {x : In4} (hx : W.ins g = some x) : WF B (W.step g) ∧ At (W.step g) g x ∧ Fol W (W.step g) := by
  have hG := h.at hg
  obtain ⟨k1, k2, k3⟩ := h.insOk hx
  have e := (W.g g).step_at hG.len hG.n.1 ((W.g g).pc + 1)
  have eg : (W.step g).g g = { W.g g with z := (W.g g).z.set ((W.g g).o + 1) ((W.g g).pc + 1) } := by unfold Wd.step; rw [Wd.g_setG _ _ _ _ hg, if_pos rfl]
  refine ⟨h.setG (by rw [hs]; decide) (hG.place _ (by omega)), ⟨by unfold Wd.step Wd.setG; simpa using hg, by rw [eg]; exact hs, ?_⟩, fol_setG _ _ _⟩
  rw [eg, e.1, e.2]
  show W.insAt (W.g g).fn ((W.g g).pc + 1 - 1) = some x
  rw [Int.add_sub_cancel]; exact hx
theorem askM_cas {W V : Wd} (h : V.ks = W.ks) (x : In4) : V.cas x = W.cas x := cas_eq h x
/-- All that Exec wants, and what it leaves. -/
theorem WF.do_ {B : Nat} {W : Wd} (h : WF B W) (hB : B ≤ 80000) {g : Nat} (hl : W.lets (g : Int)) (v : Int) :
    DoOk W g (askM W ((W.ins g).getD (0, 0, 0, 0)) v).1 (askM W ((W.ins g).getD (0, 0, 0, 0)) v).2 ∧
    DdOk (B + W.ks.length + 1) W (doM W g (W.ins g) (askM W ((W.ins g).getD (0, 0, 0, 0)) v).1 (askM W ((W.ins g).getD (0, 0, 0, 0)) v).2) := by
  obtain ⟨l1, l2, l3, l4⟩ := hl
  simp only [Int.toNat_natCast] at l4
  have hg : g < W.gs.length := by omega
  have hG := h.at hg
  have hf := hG.fr ((W.g g).n - 1) (by have := hG.n; omega)
  have hm : (W.fs.getD (W.g g).fn.toNat []).length ≤ 900 := by
    rw [List.getD_eq_getElem?_getD]
    cases e : W.fs[(W.g g).fn.toNat]? with
    | none => simp
    | some l => exact h.p.fl l (List.mem_of_getElem? e)
  have hpc : 0 ≤ (W.g g).pc ∧ (W.g g).pc ≤ ((W.fs.getD (W.g g).fn.toNat []).length : Int) := hf.2.1
  cases hx : W.ins g with
  | none =>
    refine ⟨⟨hg, hG.n, by omega, fun x hx' _ => (by rw [hx] at hx'; cases hx'), fun x hx' _ => (by rw [hx] at hx'; cases hx')⟩, ?_⟩
    exact ⟨h.mono (by omega), Fol.refl _⟩
  | some x =>
    obtain ⟨k1, k2, k3⟩ := h.insOk hx
    obtain ⟨s1, s2, s3⟩ := h.step hg l4 hx
    simp only [Option.getD_some]
    have hask : x.1 = 16 → (askM W x v).2 = true → (0 ≤ (askM W x v).1 ∧ (askM W x v).1 < (((W.step g).cas x).length : Int)) ∧ (((W.step g).cas x).getD (askM W x v).1.toNat (1, 0, 0)).1 ≠ 2 := fun e1 e2 => by
      rw [cas_eq s3.ks]; exact askM_place e1 e2
    refine ⟨⟨hg, hG.n, by omega, fun y hy hp => ?_, fun y hy hp => ?_⟩, ?_⟩
    · rw [hx] at hy; cases hy
      cases e : pureM x (W.g g).o (W.g g).z with
      | none => exact absurd e hp
      | some z => exact k1.pure (pureM_some e k1.op.1)
    · rw [hx] at hy; cases hy
      exact (s1.deed hB s2 (k1.fol s3) (pureM_none hp k1.op.1) hask).1
    · unfold doM
      simp only
      split
      · rename_i z e
        exact ⟨(h.setG (by rw [l4]; decide) (hG.pure k1 ⟨hpc.1, k3⟩ e)).mono (by omega), fol_setG _ _ _⟩
      · rename_i e
        have := (s1.deed hB s2 (k1.fol s3) (pureM_none e k1.op.1) hask).2
        rw [s3.ks] at this
        exact ⟨this.1, s3.trans this.2⟩
theorem WF.exec {B : Nat} {W : Wd} (h : WF B W) (hB : B ≤ 80000) (g v : Int) : WF (B + W.ks.length + 1) (execM W g v).1 ∧ Fol W (execM W g v).1 := by
  unfold execM
  split
  · rename_i hl
    have e : g = ((g.toNat : Nat) : Int) := by have := hl.2.1; omega
    have hl' : W.lets ((g.toNat : Nat) : Int) := by rw [← e]; exact hl
    obtain ⟨a, b⟩ := (h.do_ hB hl' v).2
    exact ⟨a.end_, fol_end b⟩
  · exact ⟨h.mono (by omega), Fol.refl _⟩
/-- Exec may be asked. -/
theorem WF.execOk {B : Nat} {W : Wd} (h : WF B W) (hB : B ≤ 80000) {g : Nat} (hl : W.lets (g : Int)) : ExecOk W g := by
  have hl' := hl
  obtain ⟨l1, l2, l3, l4⟩ := hl
  have hg : g < W.gs.length := by omega
  have hG := h.at hg
  have hf := hG.fr ((W.g g).n - 1) (by have := hG.n; omega)
  have hm : (W.fs.getD (W.g g).fn.toNat []).length ≤ 900 := by
    rw [List.getD_eq_getElem?_getD]
    cases e : W.fs[(W.g g).fn.toNat]? with
    | none => simp
    | some l => exact h.p.fl l (List.mem_of_getElem? e)
  have hpc : 0 ≤ (W.g g).pc ∧ (W.g g).pc ≤ ((W.fs.getD (W.g g).fn.toNat []).length : Int) := hf.2.1
  have hfn : 0 ≤ (W.g g).fn ∧ (W.g g).fn < (W.fs.length : Int) := hf.1
  refine ⟨hl', ⟨hg, by have := h.g1.2; omega, hG.n, hfn, by omega⟩, ?_, fun v => (h.do_ hB hl' v).1, fun v => ?_⟩
  · cases hx : W.ins g with
    | none => exact ⟨fun e => absurd e (by decide), fun e => absurd e (by decide)⟩
    | some x =>
      obtain ⟨k1, -, -⟩ := h.insOk hx
      exact ⟨fun e => ⟨k1.casX (.inr (.inr e)), by have := h.p.kl; omega, k1.casOk (.inr (.inr e)) h.p.ck⟩, fun e => by have := k1.o21 e; simp only [Option.getD_some] at *; omega⟩
  · obtain ⟨a, b⟩ := h.exec hB (g : Int) v
    have hg' : g < (execM W (g : Int) v).1.gs.length := by have := b.gl; omega
    exact ⟨hg', (a.at hg').n⟩
end Go.Proofs.YtjidcagklakjaaaGreat
/-
  Worlds that programs come to: the clock; new ones.
-/
open Go Go.RowKit
set_option linter.unusedVariables false
namespace Go.Proofs.YtjidcagklakjaaaGreat
theorem wakes_perm : ∀ (k : Nat) (l : List It) (now : Int), l.length ≤ k → ((wakes l now).1 ++ (wakes l now).2).Perm l ∧ (HeapI l → HeapI (wakes l now).2)
  | 0, l, now, h => by
    obtain rfl : l = [] := List.eq_nil_of_length_eq_zero (by omega)
    rw [wakes_stop (by simp)]; exact ⟨List.Perm.refl _, id⟩
  | k + 1, l, now, h => by
    by_cases c : 0 < l.length ∧ (gI l 0).at_ ≤ now
    · rw [wakes_go c.1 c.2]
      obtain ⟨a, b⟩ := wakes_perm k (remF l 0) now (by rw [remF_len c.1]; omega)
      exact ⟨(List.Perm.cons _ a).trans (rem_perm c.1).symm, fun hh => b (rem_heap c.1 hh)⟩
    · rw [wakes_stop c]; exact ⟨List.Perm.refl _, id⟩
theorem wokeM_wf {B : Nat} : ∀ (l : List It) (W : Wd), WF B W → (∀ x ∈ l, (0 ≤ x.id ∧ x.id < (W.gs.length : Int)) ∧ (W.g x.id.toNat).st = 3) → (l.map (·.id)).Nodup → (∀ x ∈ l, ∀ y ∈ W.hp, y.id ≠ x.id) →
    WF B (wokeM W l) ∧ Fol W (wokeM W l) ∧ (wokeM W l).hp = W.hp ∧ (wokeM W l).clock = W.clock
  | [], W, h, _, _, _ => ⟨h, Fol.refl _, rfl, rfl⟩
  | x :: t, W, h, h1, h2, h3 => by
    obtain ⟨hx1, hx2⟩ := h1 x (by simp)
    have hg : x.id.toNat < W.gs.length := by omega
    have hxn : ((x.id.toNat : Nat) : Int) = x.id := by omega
    have hG := h.at hg
    have hw : WF B (W.setSt x.id.toNat 1) := h.goes x.id.toNat _ ⟨hG.n, hG.len, hG.fr⟩ (fun C hC => by
        rw [hxn]
        obtain ⟨-, -, -, k1, k2⟩ := h.cs C hC
        exact ⟨fun w hw e => by have := (k1 w hw).2.1; rw [e, hx2] at this; omega, fun w hw e => by have := (k2 w hw).2.1; rw [e, hx2] at this; omega⟩) (fun i L hL hm => by
        rw [hxn] at hm
        have := ((h.ls i L hL).2.2.2 _ hm).1; rw [hx2] at this; omega) (fun y hy => by rw [hxn]; exact h3 x (by simp) y hy)
    rw [List.map_cons, List.nodup_cons] at h2
    obtain ⟨a, b, c, d⟩ := wokeM_wf t (W.setSt x.id.toNat 1) hw (fun y hy => by
        obtain ⟨k1, k2⟩ := h1 y (by simp [hy])
        refine ⟨by rw [setSt_len]; exact k1, ?_⟩
        rw [setSt_at hg, if_neg (fun e => h2.1 (by
          have : y.id = x.id := by omega
          rw [← this]; exact List.mem_map_of_mem (f := (·.id)) hy))]
        exact k2) h2.2 (fun y hy z hz => h3 y (by simp [hy]) z hz)
    exact ⟨a, (fol_setG _ _ _).trans b, c, d⟩
theorem WF.tick {B : Nat} {W : Wd} (h : WF B W) : WF (B + 1) (tickM W).1 ∧ Fol W (tickM W).1 := by
  unfold tickM
  split
  · simp only
    obtain ⟨a, b⟩ := wakes_perm _ W.hp ((W.clock : Int) + 1) (Nat.le_refl _)
    have hall : ∀ x, x ∈ (wakes W.hp ((W.clock : Int) + 1)).1 ∨ x ∈ (wakes W.hp ((W.clock : Int) + 1)).2 → x ∈ W.hp := fun x hx => a.mem_iff.1 (List.mem_append.2 hx)
    have hnd := (a.map (·.id)).nodup_iff.2 h.hp.2.1
    rw [List.map_append, List.nodup_append] at hnd
    obtain ⟨n1, n2, n3⟩ := hnd
    have hlen := a.length_eq
    rw [List.length_append] at hlen
    have h1 : WF (B + 1) { W with clock := W.clock + 1, hp := (wakes W.hp ((W.clock : Int) + 1)).2 } :=
      ⟨h.p, h.ns, h.g1, h.gw, fun C hC => (h.cs C hC).mono (by omega), fun i L hL => (h.ls i L hL).mono (by omega), ⟨by show (wakes W.hp _).2.length ≤ _; have := h.hp.1; omega, n2, fun x hx => h.hp.2.2.1 x (hall x (.inr hx)), b h.hp.2.2.2⟩, Nat.le_trans h.nx (by omega), by show W.clock + 1 ≤ B + 1; have := h.clock; omega, h.out⟩
    obtain ⟨c, d, -, -⟩ := wokeM_wf (wakes W.hp ((W.clock : Int) + 1)).1 _ h1 (fun x hx => by
      obtain ⟨k1, k2, -⟩ := h.hp.2.2.1 x (hall x (.inl hx)); exact ⟨k1, k2⟩) n1 (fun x hx y hy e => n3 x.id (List.mem_map_of_mem (f := (·.id)) hx) y.id (List.mem_map_of_mem (f := (·.id)) hy) e.symm)
    exact ⟨c, d.fs, d.ks, d.Ns, d.cl, d.ll, d.gl⟩
  · exact ⟨h.mono (by omega), Fol.refl _⟩
theorem newM_wf {fs : List (List In4)} {ks : List Cs3} {rooms : List Int} {locks : Nat} (h : PW fs ks rooms.length locks) : WF 0 (newM fs ks rooms locks) := by
  refine ⟨by unfold newM; simpa using h, ⟨by unfold newM; simp, fun N hN => ?_⟩, by unfold newM; simp, fun G hG => ?_, fun C hC => ?_, fun i L hL => ?_, ⟨by unfold newM; simp, by unfold newM; simp, fun x hx => by unfold newM at hx; simp at hx, fun i _ hi => by unfold newM at hi; simp at hi⟩, by unfold newM; simp, by unfold newM; simp, by unfold newM; simp⟩
  · obtain ⟨z, -, rfl⟩ := List.mem_map.1 hN
    exact roomC_le z
  · simp only [newM, List.mem_cons, List.not_mem_nil, or_false] at hG
    subst hG
    exact GW.new 1 ⟨by omega, by have := h.f; show (0 : Int) < (fs.length : Int); omega⟩ ⟨by omega, by omega⟩
  · obtain ⟨z, -, rfl⟩ := List.mem_map.1 hC
    exact ⟨by simp, by simp, by simp, fun w hw => by simp at hw, fun w hw => by simp at hw⟩
  · have hm : L ∈ List.replicate locks ([] : List Int) := List.mem_of_getElem? hL
    rw [List.mem_replicate] at hm
    rw [hm.2]
    exact ⟨by simp, fun g hg => by simp at hg, by simp, fun g hg => by simp at hg⟩
end Go.Proofs.YtjidcagklakjaaaGreat
/-
  What a world says of itself.
-/
open Go Go.RowKit
set_option linter.unusedVariables false
namespace Go.Proofs.YtjidcagklakjaaaGreat
section
variable {w0 w : World} {p : Nat} {W : Wd} {D : Wa} {T : List Value} {Y : List Asr}
set_option maxRecDepth 100000 in
theorem wlen_any (h : Own w0 w (wparts p W D T ++ Y)) :
    Calls Tryz.prog 29 #[.pointer (some ⟨p, 0, none⟩)] w fun r w' => r = .returned (.int .i64 (W.gs.length : Int)) ∧ w' = w := by
  have p2 := (h.cel 0 rfl 2 _ rfl).1
  generalize W.gs.length = n at *
  clear h
  go_enter Tryz.func29, Tryz.ntmps29
  go_wp2
  go_ret
  exact ⟨rfl, rfl⟩
set_option maxRecDepth 100000 in
theorem wclock_any (h : Own w0 w (wparts p W D T ++ Y)) :
    Calls Tryz.prog 47 #[.pointer (some ⟨p, 0, none⟩)] w fun r w' => r = .returned (.int .u64 (W.clock : Int)) ∧ w' = w := by
  have p7 := (h.cel 0 rfl 7 _ rfl).1
  generalize W.clock = n at *
  clear h
  go_enter Tryz.func47, Tryz.ntmps47
  go_wp2
  go_ret
  exact ⟨rfl, rfl⟩
set_option maxRecDepth 100000 in
theorem wend_any (h : Own w0 w (wparts p W D T ++ Y)) :
    Calls Tryz.prog 30 #[.pointer (some ⟨p, 0, none⟩)] w fun r w' => r = .returned (.tuple #[.int .i64 W.en, .int .i64 W.why]) ∧ ∃ k, w' = w.drewN k := by
  have p9 := (h.cel 0 rfl 9 _ rfl).1
  have p10 := (h.cel 0 rfl 10 _ rfl).1
  generalize W.en = n at *
  generalize W.why = m at *
  clear h
  go_enter Tryz.func30, Tryz.ntmps30
  go_upto_region 1 with fail
  go_quiet (fail)
  go_wp2
  go_ret2
  exact ⟨rfl, ⟨_, rfl⟩⟩
set_option maxRecDepth 100000 in
set_option maxHeartbeats 1000000 in
theorem wstack_any (h : Own w0 w (wparts p W D T ++ Y)) (hf : D.fits W) (k : Nat) (hk : k < W.gs.length) (hl : W.gs.length ≤ 1000) (hm : 1 ≤ (W.g k).n ∧ (W.g k).n ≤ 16) :
    Calls Tryz.prog 24 #[.pointer (some ⟨p, 0, none⟩), .int .i64 (k : Int)] w fun r w' => ∃ g' cap', r = .returned (.slice (some ⟨g', 0, none⟩) (W.g k).n cap') ∧ w.heap.size ≤ g' ∧ StkAt w' g' (W.g k).n cap' (W.g k).z ∧ Below w.heap.size w w' := by
  have p2 := (h.cel 0 rfl 2 _ rfl).1
  have HH := Lib.hid (fun w => hasG_any D.aa W.gs.length D.ac (k : Int) w)
  obtain ⟨s, cap, hs⟩ := hf.sk_at hk
  obtain ⟨b, off, haa, c0, -, c1, -⟩ := all_at h hk hs
  have hst := (stk_at h hk hs).1
  have HC := Lib.hid (stkclone_any s (W.g k).n cap (W.g k).z w hst hm.1 (by omega))
  have hd : decide (0 ≤ (k : Int) ∧ (k : Int) < (W.gs.length : Int)) = true := decide_eq_true (by omega)
  rw [hd, haa] at HH
  rw [haa] at p2
  have k0 : (0 : Int) ≤ (k : Int) := by omega
  have k8 : (k : Int) < (W.gs.length : Int) := by omega
  generalize W.gs.length = N at *
  clear h hf hk hs haa hd hst
  go_enter Tryz.func24, Tryz.ntmps24
  go_wp2_with fail
  refine (HH.out _).mono ?_
  rintro r w1 ⟨rfl, rfl⟩
  go_wp2_with fail
  refine HC.out.mono ?_
  rintro r w2 ⟨g', cap', rfl, h1, h2, h3⟩
  go_wp2
  go_ret
  exact ⟨_, _, rfl, h1, h2, h3⟩
set_option maxRecDepth 100000 in
theorem wout_any (h : Own w0 w (wparts p W D T ++ Y)) (hl : W.out.length ≤ 1000000) :
    Calls Tryz.prog 21 #[.pointer (some ⟨p, 0, none⟩)] w fun r w' => ∃ a' c', r = .returned (.slice a' W.out.length c') ∧ RowG 1 w' a' c' W.out.length (intc W.out) ∧ (∀ x ∈ blk a', w.heap.size ≤ x) ∧ Below w.heap.size w w' := by
  have p8 := (h.cel 0 rfl 8 _ rfl).1
  have HC := Lib.hid (clonei_any w D.oa W.out.length D.oc (intc W.out) (h.rowG 9 rfl) (by intro u hu; obtain ⟨v, -, rfl⟩ := List.mem_map.1 hu; rfl) hl)
  generalize W.out.length = n at *
  clear h hl
  go_enter Tryz.func21, Tryz.ntmps21
  go_wp2_with fail
  refine HC.out.mono ?_
  rintro r w2 ⟨a', c', rfl, h2⟩
  have H2 := Lib.hid h2
  clear h2
  go_wp2
  go_ret
  exact ⟨_, _, rfl, H2.out⟩
theorem st_get {w : World} {b : Nat} {k : Bool} {a1 a2 a3 : Option Addr} {n1 c1 n2 c2 n3 c3 : Nat} (e0 : w.cell? ⟨b, 0, none⟩ = some (.slice a1 n1 c1)) (e1 : w.cell? ⟨b, 1, none⟩ = some (.slice a2 n2 c2)) (e2 : w.cell? ⟨b, 2, none⟩ = some (.slice a3 n3 c3)) (e3 : w.cell? ⟨b, 3, none⟩ = some (.bool k)) :
    (loadVar 88 ⟨b, 0, none⟩).run Tryz.prog w = .ok (.agg #[.slice a1 n1 c1, .slice a2 n2 c2, .slice a3 n3 c3, .bool k]) w := by
  simp [go_sem, e0, e1, e2, e3]
set_option maxRecDepth 100000 in
set_option maxHeartbeats 4000000 in
theorem wchan_any (h : Own w0 w (wparts p W D T ++ Y)) (hf : D.fits W) (i : Nat) (hi : i < W.Cs.length) (hb : (W.ch (i : Int)).buf.length ≤ 100000) (hs : (W.ch (i : Int)).S.length ≤ 100000) (hr : (W.ch (i : Int)).R.length ≤ 100000) :
    Calls Tryz.prog 26 #[.pointer (some ⟨p, 0, none⟩), .int .i64 (i : Int)] w fun r w' => ∃ ba bc sa sc ra rc, r = .returned (.agg #[.slice ba (W.ch (i : Int)).buf.length bc, .slice sa (W.ch (i : Int)).S.length sc, .slice ra (W.ch (i : Int)).R.length rc, .bool (W.ch (i : Int)).cl]) ∧ Own w0 w' (wparts p W D T ++ Y) := by
  have o1 := (h.alloc [.slice none 0 0, .slice none 0 0, .slice none 0 0, .bool false] 88 (b := w.heap.size) rfl)
  generalize hw1 : w.alloc (.cells [.slice none 0 0, .slice none 0 0, .slice none 0 0, .bool false].toArray 88) = w1 at o1
  have o2 := o1.mid
  obtain ⟨pt, b, off, R', -, haa, hc, ho, -⟩ := own_chan o2 hf hi
  have HS := Lib.hid (cstate_any ho hb hs hr)
  have p3 := (o2.cel 0 rfl 3 _ rfl).1
  have HH := Lib.hid (fun w => hasC_any D.ha W.Cs.length D.hc (i : Int) w)
  have hd : decide (0 ≤ (i : Int) ∧ (i : Int) < (W.Cs.length : Int)) = true := decide_eq_true (by omega)
  rw [hd, haa] at HH
  rw [haa] at p3
  have k0 : (0 : Int) ≤ (i : Int) := by omega
  have k8 : (i : Int) < (W.Cs.length : Int) := by omega
  have H1 := Lib.hid o1
  generalize W.Cs.length = N at *
  generalize (W.ch (i : Int)).buf.length = l1 at *
  generalize (W.ch (i : Int)).S.length = l2 at *
  generalize (W.ch (i : Int)).R.length = l3 at *
  generalize (W.ch (i : Int)).cl = cl at *
  have HW := Lib.hid hw1
  clear h hf hi haa hd ho o1 o2 hb hs hr hw1
  go_enter Tryz.func26, Tryz.ntmps26
  go_upto_region 1 with fail
  rw [show w.alloc (.cells #[.slice none 0 0, .slice none 0 0, .slice none 0 0, .bool false] 88) = w1 from HW.out]
  generalize w.heap.size = b4 at *
  clear HW
  go_wp2_with fail
  refine (HH.out _).mono ?_
  rintro r w2 ⟨rfl, rfl⟩
  go_wp2_with fail
  refine HS.out.mono ?_
  rintro r w3 ⟨ba, bc, sa, sc, ra, rc, rfl, -, hb3⟩
  have o3 := H1.out.step hb3
  obtain ⟨z0, y0⟩ := o3.cel 0 rfl 0 _ rfl
  obtain ⟨z1, y1⟩ := o3.cel 0 rfl 1 _ rfl
  obtain ⟨z2, y2⟩ := o3.cel 0 rfl 2 _ rfl
  obtain ⟨z3, y3⟩ := o3.cel 0 rfl 3 _ rfl
  have H4 := Lib.hid ((((o3.set 0 (.slice ba l1 bc)).set 1 (.slice sa l2 sc)).set 2 (.slice ra l3 rc)).set 3 (.bool cl))
  clear o3 H1 HS hb3
  go_wp2
  exact bodyPost_ret (results_cell Tryz.results26 _ ⟨b4, 0, none⟩ rfl (st_get (H4.out.cel 0 rfl 0 _ rfl).1 (H4.out.cel 0 rfl 1 _ rfl).1 (H4.out.cel 0 rfl 2 _ rfl).1 (H4.out.cel 0 rfl 3 _ rfl).1)) rfl ⟨ba, bc, sa, sc, ra, rc, rfl, H4.out.drop⟩
end
end Go.Proofs.YtjidcagklakjaaaGreat
/-
  A program's parts, cloned.
-/
open Go Go.RowKit
set_option linter.unusedVariables false
namespace Go.Proofs.YtjidcagklakjaaaGreat
theorem info_case : (Tryz.prog.info? 80).map (fun i => (i.zero, i.size, i.bytes)) = some (some (.agg #[.int .i64 0, .int .i64 0, .int .i64 0]), 3, 24) := by kernel_rfl
theorem info_ins : (Tryz.prog.info? 73).map (fun i => (i.zero, i.size, i.bytes)) = some (some (.agg #[.int .i64 0, .int .i64 0, .int .i64 0, .int .i64 0]), 4, 32) := by kernel_rfl
set_option maxRecDepth 100000 in
set_option maxHeartbeats 4000000 in
theorem clonek_any (w : World) (a : Option Addr) (n c : Nat) (cs : List Value) (h : CellsAt w a cs) (hlen : cs.length = n * 3) (hnil : a = none → c = 0) (hone : ∀ u ∈ cs, u.oneCell' = true) (hl : n ≤ 1000000) :
    Calls Tryz.prog 34 #[.slice a n c] w fun r w' => ∃ a' c', r = .returned (.slice a' n c') ∧ RowG 3 w' a' c' n cs ∧ (∀ x ∈ blk a', w.heap.size ≤ x) ∧ Below w.heap.size w w' := by
  cases a with
  | none =>
    have hcs : cs = [] := by
      cases cs with
      | nil => rfl
      | cons u t => obtain ⟨b, off, hx, -⟩ := h 0 u rfl; cases hx
    subst hcs
    obtain rfl : c = 0 := hnil rfl
    obtain rfl : n = 0 := by simp at hlen; omega
    clear h hone hlen hnil
    have he : ∀ w : World, (binOp .eql 33 (.slice none 0 0) (.slice none 0 0)).run Tryz.prog w = .ok (.bool true) w := fun _ => rfl
    go_enter Tryz.func34, Tryz.ntmps34
    go_wp2
    go_ret
    exact ⟨none, 0, rfl, RowG.nil _ _, fun x hx => by simp [blk] at hx, Below.refl _ _⟩
  | some ad =>
    obtain ⟨i0, hi0, hz0, hz1, hz2⟩ := info_parts info_case
    have Hi := Lib.hid hi0; clear hi0
    have Hz0 := Lib.hid hz0; clear hz0
    have Hz1 := Lib.hid hz1; clear hz1
    have Hz2 := Lib.hid hz2; clear hz2
    have H := Lib.hid h
    have HN := Lib.hid hlen
    have HO := Lib.hid hone
    clear h hone hlen hnil
    have he : ∀ w : World, (binOp .eql 33 (.slice (some ad) n c) (.slice none 0 0)).run Tryz.prog w = .ok (.bool false) w := fun _ => rfl
    go_enter Tryz.func34, Tryz.ntmps34
    go_wp2_with (at_builtin; refine wpList_append_rowG (m := n) (n := 0) (cs := []) (ds := cs) rfl _ _ 33 rfl 80 i0 _ Tryz.underlying33 Hi.out Hz0.out Hz1.out Hz2.out rfl (by omega) (by omega) rfl rfl (RowG.zero (by simp)) (H.out.below (below_alloc1 _ _)) HN.out HO.out (by omega) ?_)
    intro a1 c1 w1 k1 ch1 f1
    have hf : RowG 3 w1 a1 c1 n cs ∧ (∀ x ∈ blk a1, w.heap.size ≤ x) ∧ Below w.heap.size w w1 := by
      refine ⟨by simpa using k1, fun x hx => ?_, Chg.below (below_alloc1 _ _) ch1 (fun x hx => by simp [blk] at hx; omega)⟩
      rcases f1 x hx with h | h
      · simp [blk] at h; omega
      · first | omega | (simp at h; omega)
    have HF := Lib.hid hf
    clear hf k1 ch1 f1
    go_wp2
    go_ret
    exact ⟨a1, c1, by simp, HF.out⟩
set_option maxRecDepth 100000 in
set_option maxHeartbeats 4000000 in
theorem clonef_any (w : World) (a : Option Addr) (n c : Nat) (cs : List Value) (h : CellsAt w a cs) (hlen : cs.length = n * 4) (hnil : a = none → c = 0) (hone : ∀ u ∈ cs, u.oneCell' = true) (hl : n ≤ 1000000) :
    Calls Tryz.prog 36 #[.slice a n c] w fun r w' => ∃ a' c', r = .returned (.slice a' n c') ∧ RowG 4 w' a' c' n cs ∧ (∀ x ∈ blk a', w.heap.size ≤ x) ∧ Below w.heap.size w w' := by
  cases a with
  | none =>
    have hcs : cs = [] := by
      cases cs with
      | nil => rfl
      | cons u t => obtain ⟨b, off, hx, -⟩ := h 0 u rfl; cases hx
    subst hcs
    obtain rfl : c = 0 := hnil rfl
    obtain rfl : n = 0 := by simp at hlen; omega
    clear h hone hlen hnil
    have he : ∀ w : World, (binOp .eql 70 (.slice none 0 0) (.slice none 0 0)).run Tryz.prog w = .ok (.bool true) w := fun _ => rfl
    go_enter Tryz.func36, Tryz.ntmps36
    go_wp2
    go_ret
    exact ⟨none, 0, rfl, RowG.nil _ _, fun x hx => by simp [blk] at hx, Below.refl _ _⟩
  | some ad =>
    obtain ⟨i0, hi0, hz0, hz1, hz2⟩ := info_parts info_ins
    have Hi := Lib.hid hi0; clear hi0
    have Hz0 := Lib.hid hz0; clear hz0
    have Hz1 := Lib.hid hz1; clear hz1
    have Hz2 := Lib.hid hz2; clear hz2
    have H := Lib.hid h
    have HN := Lib.hid hlen
    have HO := Lib.hid hone
    clear h hone hlen hnil
    have he : ∀ w : World, (binOp .eql 70 (.slice (some ad) n c) (.slice none 0 0)).run Tryz.prog w = .ok (.bool false) w := fun _ => rfl
    go_enter Tryz.func36, Tryz.ntmps36
    go_wp2_with (at_builtin; refine wpList_append_rowG (m := n) (n := 0) (cs := []) (ds := cs) rfl _ _ 70 rfl 73 i0 _ Tryz.underlying70 Hi.out Hz0.out Hz1.out Hz2.out rfl (by omega) (by omega) rfl rfl (RowG.zero (by simp)) (H.out.below (below_alloc1 _ _)) HN.out HO.out (by omega) ?_)
    intro a1 c1 w1 k1 ch1 f1
    have hf : RowG 4 w1 a1 c1 n cs ∧ (∀ x ∈ blk a1, w.heap.size ≤ x) ∧ Below w.heap.size w w1 := by
      refine ⟨by simpa using k1, fun x hx => ?_, Chg.below (below_alloc1 _ _) ch1 (fun x hx => by simp [blk] at hx; omega)⟩
      rcases f1 x hx with h | h
      · simp [blk] at h; omega
      · first | omega | (simp at h; omega)
    have HF := Lib.hid hf
    clear hf k1 ch1 f1
    go_wp2
    go_ret
    exact ⟨a1, c1, by simp, HF.out⟩
end Go.Proofs.YtjidcagklakjaaaGreat
/-
  A new world.
-/
open Go Go.RowKit
set_option linter.unusedVariables false
namespace Go.Proofs.YtjidcagklakjaaaGreat
theorem info_code : (Tryz.prog.info? 70).map (fun i => (i.zero, i.size, i.bytes)) = some (some (.slice none 0 0), 1, 24) := by kernel_rfl
theorem Own.rowNil {w0 w : World} {As : List Asr} (h : Own w0 w As) (s : Nat) : Own w0 w (RowGA s none 0 0 [] :: As) := h.add (Below.refl _ _) (A := RowGA s none 0 0 []) (F := []) ⟨rfl, RowG.nil s w⟩ (fun x hx => by simp at hx)
theorem frw_app {fr : List (Option Addr × Nat)} {fs : List (List In4)} (h : fr.length = fs.length) (r : Option Addr × Nat) (l : List In4) : frw (fr ++ [r]) (fs ++ [l]) = frw fr fs ++ [.slice r.1 l.length r.2] := by
  unfold frw; rw [List.zipWith_append h]; rfl
theorem info_chp : (Tryz.prog.info? 111).map (fun i => (i.zero, i.size, i.bytes)) = some (some (.pointer none), 1, 8) := by kernel_rfl
theorem info_lkp : (Tryz.prog.info? 113).map (fun i => (i.zero, i.size, i.bytes)) = some (some (.pointer none), 1, 8) := by kernel_rfl
theorem ptrs_app (ps : List Pl) (x : Pl) : ptrs (ps ++ [x]) = ptrs ps ++ [.pointer (some ⟨x.1, 0, none⟩)] := by unfold ptrs; rw [List.map_append]; rfl
theorem chs_app {ps : List Pl} {Cs : List Ch} (h : ps.length = Cs.length) (x : Pl) (C : Ch) : chs (ps ++ [x]) (Cs ++ [C]) = chs ps Cs ++ [ChanA x.1 x.2 C] := by unfold chs; rw [List.zipWith_append h]; rfl
theorem lptr_app (lp : List Nat) (x : Nat) : lptr (lp ++ [x]) = lptr lp ++ [.pointer (some ⟨x, 0, none⟩)] := by unfold lptr; rw [List.map_append]; rfl
theorem lks_app {lp : List Nat} {Ls : List (List Int)} (h : lp.length = Ls.length) (x : Nat) (L : List Int) : lks (lp ++ [x]) (Ls ++ [L]) = lks lp Ls ++ [LockA x L] := by unfold lks; rw [List.zipWith_append h]; rfl
theorem Sep.mem {w : World} : ∀ {l : List Asr} {F : List Nat} {i : Nat} {A : Asr}, Sep w l F → l[i]? = some A → ∃ G, A.at_ w G ∧ ∀ x ∈ G, x ∈ F
  | [], _, _, _, _, hi => by simp at hi
  | B :: t, F, 0, A, h, hi => by
    obtain ⟨F1, F2, rfl, h1, -, h2⟩ := h
    simp at hi; subst hi
    exact ⟨F1, h1, fun x hx => by simp [hx]⟩
  | B :: t, F, i + 1, A, h, hi => by
    obtain ⟨F1, F2, rfl, h1, -, h2⟩ := h
    obtain ⟨G, g1, g2⟩ := Sep.mem h2 (by simpa using hi)
    exact ⟨G, g1, fun x hx => by simp [g2 x hx]⟩
/-- A program that is given. -/
structure ProgIn (w : World) (fa : Option Addr) (fr : List (Option Addr × Nat)) (fs : List (List In4)) (ra : Option Addr) (rooms : List Int) (ca : Option Addr) (cc : Nat) (ks : List Cs3) : Prop where
  f : CellsAt w fa (frw fr fs)
  fl : fr.length = fs.length
  each : ∀ (i : Nat) (r : Option Addr × Nat) (l : List In4), fr[i]? = some r → fs[i]? = some l → CellsAt w r.1 (i4s l) ∧ (r.1 = none → r.2 = 0) ∧ l.length ≤ 1000000
  c : CellsAt w ra (intc rooms)
  k : CellsAt w ca (c3s ks)
  kn : ca = none → cc = 0
  kl : ks.length ≤ 1000
  nf : fs.length ≤ 1000
  nc : rooms.length ≤ 1000
def clns (fr : List (Option Addr × Nat)) (fs : List (List In4)) : List Asr := List.zipWith (fun r l => RowGA 4 r.1 r.2 l.length (i4s l)) fr fs
theorem clns_app {fr : List (Option Addr × Nat)} {fs : List (List In4)} (h : fr.length = fs.length) (r : Option Addr × Nat) (l : List In4) : clns (fr ++ [r]) (fs ++ [l]) = clns fr fs ++ [RowGA 4 r.1 r.2 l.length (i4s l)] := by
  unfold clns; rw [List.zipWith_append h]; rfl
/-- The functions' row, their rows and the cases' row are a program. -/
theorem code_fold {w0 w : World} {fA : Option Addr} {fC n m cc : Nat} {fr : List (Option Addr × Nat)} {fs : List (List In4)} {ca : Option Addr} {ks : List Cs3} {R : List Asr} (h : Own w0 w (RowGA 1 fA fC n (frw fr fs) :: LstA (clns fr fs) :: RowGA 3 ca cc m (c3s ks) :: R)) : Own w0 w (CodeA fA fr fs ca ks :: R) := by
  refine Own.turn (As := [RowGA 1 fA fC n (frw fr fs), LstA (clns fr fs), RowGA 3 ca cc m (c3s ks)]) (As' := [CodeA fA fr fs ca ks]) (R := R) h (fun F hF => ?_)
  refine ⟨F, sep_one.2 ?_, Chg.refl _ _, fun x hx => .inl hx⟩
  have hlt := hF.lt
  obtain ⟨F1, Fa, rfl, ⟨rfl, h1⟩, -, F2, Fb, rfl, h2, -, F3, F4, rfl, ⟨rfl, h3⟩, -, rfl⟩ := hF
  refine ⟨hlt, ⟨fun x hx => by simp [hx], h1.cells⟩, ⟨fun x hx => by simp [hx], h3.cells⟩, fun i r l hr hl => ?_⟩
  have hi : (clns fr fs)[i]? = some (RowGA 4 r.1 r.2 l.length (i4s l)) := by unfold clns; rw [List.getElem?_zipWith, hr, hl]
  obtain ⟨G, ⟨rfl, g1⟩, g2⟩ := Sep.mem h2 hi
  exact ⟨fun x hx => by simp [g2 x hx], g1.cells⟩
theorem i4s_len2 (l : List In4) : (i4s l).length = l.length * 4 := by
  induction l with
  | nil => rfl
  | cons x t ih => simp only [i4s, List.flatMap_cons, List.length_append, List.length_cons] at ih ⊢; rw [ih]; simp [i4c]; omega
def nwc (fA : Option Addr) (i fC : Nat) (hA : Option Addr) (j hC : Nat) (lA : Option Addr) (k lC : Nat) (ca : Option Addr) (nk cc : Nat) (aa : Option Addr) : List Value :=
  [.slice fA i fC, .slice ca nk cc, .slice aa 1 1, .slice hA j hC, .slice lA k lC, .slice none 0 0, .int .u64 0, .int .u64 0, .slice none 0 0, .int .i64 0, .int .i64 0]
/-- The pieces while a world is made. -/
def npts (b : Nat) (fA : Option Addr) (fC : Nat) (fr : List (Option Addr × Nat)) (fs : List (List In4)) (hA : Option Addr) (hC : Nat) (ps : List Pl) (Cs : List Ch) (lA : Option Addr) (lC : Nat) (lp : List Nat) (Ls : List (List Int)) (ca : Option Addr) (cc : Nat) (ks : List Cs3) (aa : Option Addr) (g : Nat) : List Asr :=
  [CelA b (nwc fA fs.length fC hA Cs.length hC lA Ls.length lC ca ks.length cc aa), RowGA 1 fA fC fs.length (frw fr fs), LstA (clns fr fs), RowGA 3 ca cc ks.length (c3s ks), RowGA 2 aa 1 1 [.int .i64 1, .slice (some ⟨g, 0, none⟩) 1 1], LstA [StkA g 1 1 (newF 0 0 0)],
   RowGA 1 hA hC Cs.length (ptrs ps), LstA (chs ps Cs), RowGA 1 lA lC Ls.length (lptr lp), LstA (lks lp Ls)]
theorem c3s_one (ks : List Cs3) : ∀ u ∈ c3s ks, u.oneCell' = true := by
  intro u hu
  unfold c3s at hu
  obtain ⟨k, -, hk⟩ := List.mem_flatMap.1 hu
  simp only [c3c, List.mem_cons, List.not_mem_nil, or_false] at hk
  rcases hk with rfl | rfl | rfl <;> rfl
theorem i4s_one (l : List In4) : ∀ u ∈ i4s l, u.oneCell' = true := by
  intro u hu
  unfold i4s at hu
  obtain ⟨k, -, hk⟩ := List.mem_flatMap.1 hu
  simp [i4c] at hk
  rcases hk with rfl | rfl | rfl | rfl <;> rfl
set_option maxRecDepth 100000 in
set_option maxHeartbeats 16000000 in
theorem wnew_any (w : World) (fa : Option Addr) (fc : Nat) (fr : List (Option Addr × Nat)) (fs : List (List In4)) (ra : Option Addr) (rc : Nat) (rooms : List Int) (locks : Nat) (ca : Option Addr) (cc : Nat) (ks : List Cs3) (hp : ProgIn w fa fr fs ra rooms ca cc ks) (hlk : locks ≤ 1000) :
    Calls Tryz.prog 10 #[.agg #[.slice fa fs.length fc, .slice ra rooms.length rc, .int .i64 (locks : Int), .slice ca ks.length cc]] w fun r w' => ∃ b D, r = .returned (.pointer (some ⟨b, 0, none⟩)) ∧ D.fits (newM fs ks rooms locks) ∧ Own w w' (wparts b (newM fs ks rooms locks) D []) := by
  obtain ⟨hf, hfl, heach, hc, hk, hkn, hkl, hnf, hnc⟩ := hp
  have b1 := below_alloc1 w (.cells #[.slice fa fs.length fc, .slice ra rooms.length rc, .int .i64 (locks : Int), .slice ca ks.length cc] 35)
  have x0 := Blk.mk w [.slice fa fs.length fc, .slice ra rooms.length rc, .int .i64 (locks : Int), .slice ca ks.length cc] 35 w.heap.size rfl
  have o1 : Own w (w.alloc (.cells #[.slice fa fs.length fc, .slice ra rooms.length rc, .int .i64 (locks : Int), .slice ca ks.length cc] 35)) [CelA w.heap.size [.slice fa fs.length fc, .slice ra rooms.length rc, .int .i64 (locks : Int), .slice ca ks.length cc]] :=
    (Own.nil (Below.refl _ _)).alloc _ _ rfl
  have HO1 := Lib.hid o1
  have HKC := Lib.hid (clonek_any _ ca ks.length cc (c3s ks) (hk.below b1) (c3s_len ks) hkn (c3s_one ks) (by omega))
  have HF := Lib.hid hf
  have HC := Lib.hid hc
  have HE := Lib.hid heach
  have HFL := Lib.hid hfl
  obtain ⟨i1, -⟩ := x0 0 _ rfl
  obtain ⟨i2, -⟩ := x0 1 _ rfl
  obtain ⟨i3, -⟩ := x0 2 _ rfl
  obtain ⟨i4, -⟩ := x0 3 _ rfl
  clear hf hfl heach hc hk hkn x0 o1 b1
  go_enter Tryz.func10, Tryz.ntmps10
  go_wp2_with fail
  refine HKC.out.mono ?_
  rintro r w2 ⟨ca', cc', rfl, hr2, hf2, hb2⟩
  have o2 := HO1.out.add hb2 (A := RowGA 3 ca' cc' ks.length (c3s ks)) (F := blk ca') ⟨rfl, hr2⟩ hf2
  have H2 := Lib.hid o2
  clear o2 hr2 hf2 hb2 HKC HO1
  go_wp2_with fail
  refine (gbegin_any 0 0 _).mono ?_
  rintro r w3 ⟨g, rfl, hg, hs, hb3⟩
  have o3 := H2.out.add hb3 (A := StkA g 1 1 (newF 0 0 0)) (F := [g]) ⟨rfl, hs⟩ (by intro x hx; simp at hx; omega)
  have H3 := Lib.hid o3
  clear o3 hg hs hb3 H2
  have H4 := Lib.hid (((((((H3.out.pick 2 rfl).lst (l := [])).rowNil 1).lst (l := [])).rowNil 1).pick 5 rfl).lst (l := [StkA g 1 1 (newF 0 0 0)]))
  clear H3
  have o5 := H4.out.add (below_alloc1 w3 (.cells #[.int .i64 1, .slice (some ⟨g, 0, none⟩) 1 1] 101)) (A := RowGA 2 (some ⟨w3.heap.size, 0, none⟩) 1 1 [.int .i64 1, .slice (some ⟨g, 0, none⟩) 1 1]) (F := [w3.heap.size]) ⟨rfl, RowG.new 2 1 w3 [.int .i64 1, .slice (some ⟨g, 0, none⟩) 1 1] _ rfl (by simp [maxLen]) rfl⟩ (by intro x hx; simp at hx; subst hx; exact Nat.le_refl _)
  have o6 := (((o5.pick 7 rfl).lst (l := [])).rowNil 1).alloc (nwc none 0 0 none 0 0 none 0 0 ca' ks.length cc' (some ⟨w3.heap.size, 0, none⟩)) 109 (b := w3.heap.size + 1) (by simp)
  have H6 : Hid (Own w ((w3.alloc (.cells #[.int .i64 1, .slice (some ⟨g, 0, none⟩) 1 1] 101)).alloc (.cells #[.slice none 0 0, .slice ca' ks.length cc', .slice (some ⟨w3.heap.size, 0, none⟩) 1 1, .slice none 0 0, .slice none 0 0, .slice none 0 0, .int .u64 0, .int .u64 0, .slice none 0 0, .int .i64 0, .int .i64 0] 109)) (npts (w3.heap.size + 1) none 0 [] [] none 0 [] [] none 0 [] [] ca' cc' ks (some ⟨w3.heap.size, 0, none⟩) g ++ [CelA w.heap.size [.slice fa fs.length fc, .slice ra rooms.length rc, .int .i64 (locks : Int), .slice ca ks.length cc]])) := Lib.hid o6
  clear o5 o6 H4
  go_upto_region 2 with fail
  generalize ((w3.alloc (.cells #[.int .i64 1, .slice (some ⟨g, 0, none⟩) 1 1] 101)).alloc (.cells #[.slice none 0 0, .slice ca' ks.length cc', .slice (some ⟨w3.heap.size, 0, none⟩) 1 1, .slice none 0 0, .slice none 0 0, .slice none 0 0, .int .u64 0, .int .u64 0, .slice none 0 0, .int .i64 0, .int .i64 0] 109)) = w6 at *
  generalize w3.heap.size + 1 = b at *
  generalize w3.heap.size = sa at *
  generalize w.heap.size = pb at *
  have z0 := (H6.out.cel 10 rfl 0 _ rfl).1
  clear i1 i2 i3 i4
  go_wp2_with fail
  go_loopw [18] (fun iv wr => ∃ i : Nat, ∃ fA fC fr', i ≤ fs.length ∧ iv = .int .i64 i ∧ Hid (fr'.length = i ∧ Own w wr (npts b fA fC fr' (fs.take i) none 0 [] [] none 0 [] [] ca' cc' ks (some ⟨sa, 0, none⟩) g ++ [CelA pb [.slice fa fs.length fc, .slice ra rooms.length rc, .int .i64 (locks : Int), .slice ca ks.length cc]]))) (fun iv _ => fs.length - (intOf iv).toNat)
  case atStart => exact ⟨0, none, 0, [], by omega, rfl, Lib.hid ⟨rfl, H6.out⟩⟩
  case round =>
    obtain ⟨i, fA, fC, fr', hi, rfl, hr⟩ := hrel
    by_cases hlt : i < fs.length
    · have hifr : i < fr.length := by rw [HFL.out]; exact hlt
      obtain ⟨l, hl⟩ : ∃ l, l = fs[i] := ⟨_, rfl⟩
      have hle : fs[i]? = some l := by rw [hl]; exact List.getElem?_eq_getElem hlt
      obtain ⟨r0, hr0⟩ : ∃ r, r = fr[i] := ⟨_, rfl⟩
      have hre : fr[i]? = some r0 := by rw [hr0]; exact List.getElem?_eq_getElem hifr
      obtain ⟨hrl, ho⟩ := hr.out
      obtain ⟨e1, e2, e3⟩ := HE.out i r0 l hre hle
      obtain ⟨r1, rcap⟩ := r0
      simp only at e1 e2 e3
      obtain ⟨bf, off, rfl, hcf⟩ := HF.out i (.slice r1 l.length rcap) (by unfold frw; rw [List.getElem?_zipWith, hre, hle])
      have hcf2 := cell_below hcf ho.bel
      have htl : (fs.take i).length = i := by rw [List.length_take]; omega
      have SB : ∀ (wx : World) (L : List Asr), Own w wx L → ∀ k : Nat, L[k]? = some (CelA b (nwc fA (fs.take i).length fC none 0 0 none 0 0 ca' ks.length cc' (some ⟨sa, 0, none⟩))) → wx.cell? ⟨b, 0, none⟩ = some (.slice fA i fC) := fun wx L ho k hk => by
        have := (ho.cel k hk 0 _ rfl).1
        rw [htl] at this
        exact this
      have HSB := Lib.hid SB
      have o1 := ho.step (below_drew1 wr)
      have HCl := Lib.hid (clonef_any wr.drew r1 l.length rcap (i4s l) (e1.below o1.bel) (i4s_len2 l) e2 (i4s_one l) e3)
      have HT : Hid (fs.take (i + 1) = fs.take i ++ [l]) := Lib.hid (by rw [hl]; exact List.take_succ_eq_append_getElem hlt)
      have HTL := Lib.hid htl
      have HRL := Lib.hid hrl
      obtain ⟨i0, hi0, hz0, hz1, hz2⟩ := info_parts info_code
      have Hi := Lib.hid hi0; clear hi0
      have Hz0 := Lib.hid hz0; clear hz0
      have Hz1 := Lib.hid hz1; clear hz1
      have Hz2 := Lib.hid hz2; clear hz2
      have hli : (i : Int) < (fs.length : Int) := by omega
      have hl0 : (0 : Int) ≤ (i : Int) := by omega
      generalize hln : l.length = ln at *
      have HLN := Lib.hid hln
      clear hln
      clear hl hr0 hre hle e1 e2 e3 hcf SB htl hrl hr hifr
      go_upto_region 5 with fail
      refine wp_region_lexY (fun wx => wx.cell? ⟨b, 0, none⟩ = some (.slice fA i fC)) 11 12 (Array.replicate 12 false) (by kernel_rfl) (by kernel_rfl) ?_
      refine wpAnyY_seg 0 6 _ #[true, true, true, true, true, true, false, false, false, false, false, false] 6 (by kernel_rfl) noPanic_put (HSB.out _ _ o1 0 rfl) (by kernel_rfl) ?_
      simp only [List.take_succ_cons, List.take_zero, List.drop_zero]
      repeat (first
        | (refine wpSegH_no (by rfl) ?_; simp only [Act.put, List.setIfInBounds_toArray, List.set_cons_zero, List.set_cons_succ])
        | (refine wpSegH_yes (by rfl) ?_; apply Exists.intro; apply And.intro; (· (intro wx hS; (try dsimp only at hS); go_simp; first | done | with_reducible rfl)); simp only [Act.put, List.setIfInBounds_toArray, List.set_cons_zero, List.set_cons_succ]))
      refine wpSegH_nil ?_
      refine wpAnyY_one 6 _ #[true, true, true, true, true, true, true, false, false, false, false, false] 5 (by kernel_rfl) (fun K hK => ?_)
      have HKK := Lib.hid hK
      clear hK
      simp only [List.drop_succ_cons, List.drop_zero]
      refine headH_mk (by rfl) ?_
      go_simp
      refine HCl.out.mono ?_
      rintro r w2 ⟨r1', c1', rfl, hrow, hfr, hb⟩
      have o2 := o1.add hb (A := RowGA 4 r1' c1' ln (i4s l)) (F := blk r1') ⟨rfl, hrow⟩ hfr
      refine HKK.out _ _ (HSB.out _ _ o2 1 rfl) ?_
      clear HKK K
      refine wpAnyY_one 7 _ #[true, true, true, true, true, true, true, true, false, false, false, false] 4 (by kernel_rfl) (fun K hK => ?_)
      have HKK := Lib.hid hK
      clear hK
      simp only [List.drop_succ_cons, List.drop_zero]
      refine headH_mk (by rfl) ?_
      go_simp
      have o3 := o2.step (below_alloc1 _ (.cells #[.slice r1' ln c1'] 70))
      refine HKK.out _ _ (HSB.out _ _ o3 1 rfl) ?_
      clear HKK K
      refine wpAnyY_one 8 _ #[true, true, true, true, true, true, true, true, true, false, false, false] 3 (by kernel_rfl) (fun K hK => ?_)
      have HKK := Lib.hid hK
      clear hK
      simp only [List.drop_succ_cons, List.drop_zero]
      refine headH_mk (by rfl) ?_
      have hrow3 := o3.rowG 2 rfl
      rw [HTL.out] at hrow3
      refine wp_append_rowG (n := i) (m := 1) (cs := frw fr' (fs.take i)) (ds := [.slice r1' ln c1']) _ _ 32 (by rfl) 70 i0 _ Tryz.underlying32 Hi.out Hz0.out Hz1.out Hz2.out rfl (by omega) (by omega) (by rfl) (by rfl) hrow3 (CellsAt.new _ [.slice r1' ln c1'] _ rfl) rfl (by simp [Value.oneCell']) (by omega) ?_
      intro a9 c9 w9 k9 ch9 f9
      have o4 := (Own.rowTurn (o3.pick 2 rfl) k9 ch9 f9)
      refine HKK.out _ _ (HSB.out _ _ o4 2 rfl) ?_
      clear HKK K
      refine wpAnyY_segT 9 1 _ #[true, true, true, true, true, true, true, true, true, true, false, false] 2 (by kernel_rfl) noPanic_put (by kernel_rfl) ?_
      simp only [List.take_succ_cons, List.take_zero, List.drop_succ_cons, List.drop_zero]
      repeat (first
        | (refine wpSegH_no (by rfl) ?_; simp only [Act.put, List.setIfInBounds_toArray, List.set_cons_zero, List.set_cons_succ])
        | (refine wpSegH_yes (by rfl) ?_; apply Exists.intro; apply And.intro; (· (intro wx hS; (try dsimp only at hS); go_simp; first | done | with_reducible rfl)); simp only [Act.put, List.setIfInBounds_toArray, List.set_cons_zero, List.set_cons_succ]))
      refine wpSegH_nil ?_
      refine wpAnyY_seg 10 1 _ #[true, true, true, true, true, true, true, true, true, true, true, false] 1 (by kernel_rfl) noPanic_put (HSB.out _ _ o4 2 rfl) (by kernel_rfl) ?_
      simp only [List.take_succ_cons, List.take_zero, List.drop_succ_cons, List.drop_zero]
      repeat (first
        | (refine wpSegH_no (by rfl) ?_; simp only [Act.put, List.setIfInBounds_toArray, List.set_cons_zero, List.set_cons_succ])
        | (refine wpSegH_yes (by rfl) ?_; apply Exists.intro; apply And.intro; (· (intro wx hS; (try dsimp only at hS); go_simp; first | done | with_reducible rfl)); simp only [Act.put, List.setIfInBounds_toArray, List.set_cons_zero, List.set_cons_succ]))
      refine wpSegH_nil ?_
      obtain ⟨z8, f8⟩ := o4.cel 2 rfl 0 _ rfl
      have o5 := ((((((o4.setAt 2 rfl 0 (.slice a9 (i + 1) c9)).pick 1 rfl).pick 3 rfl).pick 1 rfl).lstAdd).pick 1 rfl).pick 2 rfl
      have H5 := Lib.hid o5
      clear o1 o2 o3 o4 o5 k9 ch9 f9 hrow3 hrow hfr hb HSB HCl ho
      refine wpAnyY_late 11 _ #[true, true, true, true, true, true, true, true, true, true, true, true] 0 (by kernel_rfl) (fun K hK => ?_)
      have HKK := Lib.hid hK
      clear hK
      simp only [List.drop_succ_cons, List.drop_zero]
      refine headH_mk (by rfl) ?_
      go_simp
      refine HKK.out _ _ ?_
      clear HKK K
      refine wpAnyY_done (by kernel_rfl) (NoPanic.normal ?_) _
      have HFIN : Hid ((fr' ++ [(r1', c1')]).length = i + 1 ∧ Own w (w9.setCell ⟨b, 0, none⟩ (.slice a9 (i + 1) c9)) (npts b a9 c9 (fr' ++ [(r1', c1')]) (fs.take (i + 1)) none 0 [] [] none 0 [] [] ca' cc' ks (some ⟨sa, 0, none⟩) g ++ [CelA pb [.slice (some ⟨bf, off, none⟩) fs.length fc, .slice ra rooms.length rc, .int .i64 (locks : Int), .slice ca ks.length cc]])) := Lib.hid ⟨by simp [HRL.out], by
        have e : (fs.take i ++ [l]).length = i + 1 := by rw [List.length_append, HTL.out]; rfl
        rw [HT.out]
        unfold npts
        rw [frw_app (by rw [HRL.out, HTL.out]), clns_app (by rw [HRL.out, HTL.out]), e, HLN.out]
        exact H5.out⟩
      clear H5 HT HTL HRL HLN
      go_wp2
      exact ⟨⟨i + 1, a9, c9, _, by omega, by go_num, HFIN⟩, by simp [intOf]; omega⟩
    · have hge : ¬ (i : Int) < (fs.length : Int) := by omega
      obtain rfl : i = fs.length := by omega
      have HR1 : Hid (fr'.length = fs.length ∧ Own w wr (npts b fA fC fr' fs none 0 [] [] none 0 [] [] ca' cc' ks (some ⟨sa, 0, none⟩) g ++ [CelA pb [.slice fa fs.length fc, .slice ra rooms.length rc, .int .i64 (locks : Int), .slice ca ks.length cc]])) := Lib.hid (by
        have := hr.out
        rw [List.take_length] at this
        exact this)
      obtain ⟨z1, -⟩ := HR1.out.2.cel 10 rfl 1 _ rfl
      clear hr
      go_wp2_with fail
      go_loopw [37] (fun iv wr => ∃ i : Nat, ∃ hA hC pa, i ≤ rooms.length ∧ iv = .int .i64 i ∧ Hid (pa.length = i ∧ Own w wr (npts b fA fC fr' fs hA hC (List.zip pa ((rooms.take i).map roomC)) ((rooms.take i).map fun _ => ⟨[], [], [], false⟩) none 0 [] [] ca' cc' ks (some ⟨sa, 0, none⟩) g ++ [CelA pb [.slice fa fs.length fc, .slice ra rooms.length rc, .int .i64 (locks : Int), .slice ca ks.length cc]]))) (fun iv _ => rooms.length - (intOf iv).toNat)
      case atStart => exact ⟨0, none, 0, [], by omega, rfl, Lib.hid ⟨rfl, HR1.out.2⟩⟩
      case round =>
        obtain ⟨i, hA, hC, pa, hi, rfl, hr⟩ := hrel
        by_cases hlt : i < rooms.length
        · obtain ⟨z, hz⟩ : ∃ z, z = rooms[i] := ⟨_, rfl⟩
          have hze : rooms[i]? = some z := by rw [hz]; exact List.getElem?_eq_getElem hlt
          obtain ⟨hrl, ho⟩ := hr.out
          obtain ⟨bf, off, rfl, hcf⟩ := HC.out i (.int .i64 z) (by rw [intc_get, hze]; rfl)
          have hcf2 := cell_below hcf ho.bel
          have htl : ((rooms.take i).map fun _ => (⟨[], [], [], false⟩ : Ch)).length = i := by rw [List.length_map, List.length_take]; omega
          have hzl : (List.zip pa ((rooms.take i).map roomC)).length = i := by rw [List.length_zip, List.length_map, List.length_take]; omega
          have SB : ∀ (wx : World) (L : List Asr), Own w wx L → ∀ k : Nat, L[k]? = some (CelA b (nwc fA fs.length fC hA ((rooms.take i).map fun _ => (⟨[], [], [], false⟩ : Ch)).length hC none 0 0 ca' ks.length cc' (some ⟨sa, 0, none⟩))) → wx.cell? ⟨b, 3, none⟩ = some (.slice hA i hC) := fun wx L ho k hk => by
            have := (ho.cel k hk 3 _ rfl).1
            rw [htl] at this
            exact this
          have HSB := Lib.hid SB
          have o1 := ho.step (below_drew1 wr)
          have HCl := Lib.hid (cnew_any o1 z)
          have HT : Hid (rooms.take (i + 1) = rooms.take i ++ [z]) := Lib.hid (by rw [hz]; exact List.take_succ_eq_append_getElem hlt)
          have HTL := Lib.hid htl
          have HRL := Lib.hid hrl
          have HZL := Lib.hid hzl
          obtain ⟨i0, hi0, hz0, hz1, hz2⟩ := info_parts info_chp
          have Hi := Lib.hid hi0; clear hi0
          have Hz0 := Lib.hid hz0; clear hz0
          have Hz1 := Lib.hid hz1; clear hz1
          have Hz2 := Lib.hid hz2; clear hz2
          have hli : (i : Int) < (rooms.length : Int) := by omega
          have hl0 : (0 : Int) ≤ (i : Int) := by omega
          clear hz hze hcf SB htl hrl hr hzl
          go_upto_region 10 with fail
          refine wp_region_lexY (fun wx => wx.cell? ⟨b, 3, none⟩ = some (.slice hA i hC)) 11 12 (Array.replicate 12 false) (by kernel_rfl) (by kernel_rfl) ?_
          refine wpAnyY_seg 0 6 _ #[true, true, true, true, true, true, false, false, false, false, false, false] 6 (by kernel_rfl) noPanic_put (HSB.out _ _ o1 0 rfl) (by kernel_rfl) ?_
          simp only [List.take_succ_cons, List.take_zero, List.drop_zero]
          repeat (first
            | (refine wpSegH_no (by rfl) ?_; simp only [Act.put, List.setIfInBounds_toArray, List.set_cons_zero, List.set_cons_succ])
            | (refine wpSegH_yes (by rfl) ?_; apply Exists.intro; apply And.intro; (· (intro wx hS; (try dsimp only at hS); go_simp; first | done | with_reducible rfl)); simp only [Act.put, List.setIfInBounds_toArray, List.set_cons_zero, List.set_cons_succ]))
          refine wpSegH_nil ?_
          refine wpAnyY_one 6 _ #[true, true, true, true, true, true, true, false, false, false, false, false] 5 (by kernel_rfl) (fun K hK => ?_)
          have HKK := Lib.hid hK
          clear hK
          simp only [List.drop_succ_cons, List.drop_zero]
          refine headH_mk (by rfl) ?_
          go_simp
          refine HCl.out.mono ?_
          rintro r w2 ⟨pt, rfl, o2, hb⟩
          refine HKK.out _ _ (HSB.out _ _ o2 1 rfl) ?_
          clear HKK K
          refine wpAnyY_one 7 _ #[true, true, true, true, true, true, true, true, false, false, false, false] 4 (by kernel_rfl) (fun K hK => ?_)
          have HKK := Lib.hid hK
          clear hK
          simp only [List.drop_succ_cons, List.drop_zero]
          refine headH_mk (by rfl) ?_
          go_simp
          have o3 := o2.step (below_alloc1 _ (.cells #[.pointer (some ⟨pt, 0, none⟩)] 111))
          refine HKK.out _ _ (HSB.out _ _ o3 1 rfl) ?_
          clear HKK K
          refine wpAnyY_one 8 _ #[true, true, true, true, true, true, true, true, true, false, false, false] 3 (by kernel_rfl) (fun K hK => ?_)
          have HKK := Lib.hid hK
          clear hK
          simp only [List.drop_succ_cons, List.drop_zero]
          refine headH_mk (by rfl) ?_
          have hrow3 := o3.rowG 7 rfl
          rw [HTL.out] at hrow3
          refine wp_append_rowG (n := i) (m := 1) (cs := ptrs (List.zip pa ((rooms.take i).map roomC))) (ds := [.pointer (some ⟨pt, 0, none⟩)]) _ _ 104 (by rfl) 111 i0 _ Tryz.underlying104 Hi.out Hz0.out Hz1.out Hz2.out rfl (by omega) (by omega) (by rfl) (by rfl) hrow3 (CellsAt.new _ [.pointer (some ⟨pt, 0, none⟩)] _ rfl) rfl (by simp [Value.oneCell']) (by omega) ?_
          intro a9 c9 w9 k9 ch9 f9
          have o4 := (Own.rowTurn (o3.pick 7 rfl) k9 ch9 f9)
          refine HKK.out _ _ (HSB.out _ _ o4 2 rfl) ?_
          clear HKK K
          refine wpAnyY_segT 9 1 _ #[true, true, true, true, true, true, true, true, true, true, false, false] 2 (by kernel_rfl) noPanic_put (by kernel_rfl) ?_
          simp only [List.take_succ_cons, List.take_zero, List.drop_succ_cons, List.drop_zero]
          repeat (first
            | (refine wpSegH_no (by rfl) ?_; simp only [Act.put, List.setIfInBounds_toArray, List.set_cons_zero, List.set_cons_succ])
            | (refine wpSegH_yes (by rfl) ?_; apply Exists.intro; apply And.intro; (· (intro wx hS; (try dsimp only at hS); go_simp; first | done | with_reducible rfl)); simp only [Act.put, List.setIfInBounds_toArray, List.set_cons_zero, List.set_cons_succ]))
          refine wpSegH_nil ?_
          refine wpAnyY_seg 10 1 _ #[true, true, true, true, true, true, true, true, true, true, true, false] 1 (by kernel_rfl) noPanic_put (HSB.out _ _ o4 2 rfl) (by kernel_rfl) ?_
          simp only [List.take_succ_cons, List.take_zero, List.drop_succ_cons, List.drop_zero]
          repeat (first
            | (refine wpSegH_no (by rfl) ?_; simp only [Act.put, List.setIfInBounds_toArray, List.set_cons_zero, List.set_cons_succ])
            | (refine wpSegH_yes (by rfl) ?_; apply Exists.intro; apply And.intro; (· (intro wx hS; (try dsimp only at hS); go_simp; first | done | with_reducible rfl)); simp only [Act.put, List.setIfInBounds_toArray, List.set_cons_zero, List.set_cons_succ]))
          refine wpSegH_nil ?_
          obtain ⟨z8, f8⟩ := o4.cel 2 rfl 3 _ rfl
          have o5 := ((((((((((((o4.setAt 2 rfl 3 (.slice a9 (i + 1) c9)).pick 1 rfl).pick 8 rfl).pick 1 rfl).lstAdd).pick 1 rfl).pick 7 rfl).pick 7 rfl).pick 7 rfl).pick 7 rfl).pick 7 rfl).pick 7 rfl)
          have H5 := Lib.hid o5
          clear o1 o2 o3 o4 o5 k9 ch9 f9 hrow3 hb HSB HCl ho
          refine wpAnyY_late 11 _ #[true, true, true, true, true, true, true, true, true, true, true, true] 0 (by kernel_rfl) (fun K hK => ?_)
          have HKK := Lib.hid hK
          clear hK
          simp only [List.drop_succ_cons, List.drop_zero]
          refine headH_mk (by rfl) ?_
          go_simp
          refine HKK.out _ _ ?_
          clear HKK K
          refine wpAnyY_done (by kernel_rfl) (NoPanic.normal ?_) _
          have HFIN : Hid ((pa ++ [pt]).length = i + 1 ∧ Own w (w9.setCell ⟨b, 3, none⟩ (.slice a9 (i + 1) c9)) (npts b fA fC fr' fs a9 c9 (List.zip (pa ++ [pt]) ((rooms.take (i + 1)).map roomC)) ((rooms.take (i + 1)).map fun _ => (⟨[], [], [], false⟩ : Ch)) none 0 [] [] ca' cc' ks (some ⟨sa, 0, none⟩) g ++ [CelA pb [.slice fa fs.length fc, .slice (some ⟨bf, off, none⟩) rooms.length rc, .int .i64 (locks : Int), .slice ca ks.length cc]])) := Lib.hid ⟨by simp [HRL.out], by
            have e : (((rooms.take i).map fun _ => (⟨[], [], [], false⟩ : Ch)) ++ [(⟨[], [], [], false⟩ : Ch)]).length = i + 1 := by rw [List.length_append, HTL.out]; rfl
            have e2 : List.zip (pa ++ [pt]) ((rooms.take i).map roomC ++ [roomC z]) = (List.zip pa ((rooms.take i).map roomC)) ++ [(pt, roomC z)] := List.zip_append (by rw [HRL.out, List.length_map, List.length_take]; have := hi; omega)
            rw [HT.out, List.map_append, List.map_append]
            unfold npts
            rw [show List.map roomC [z] = [roomC z] from rfl, show List.map (fun _ => (⟨[], [], [], false⟩ : Ch)) [z] = [(⟨[], [], [], false⟩ : Ch)] from rfl, e2, ptrs_app, chs_app (by rw [HZL.out, HTL.out]), e]
            exact H5.out⟩
          clear H5 HT HTL HRL HZL
          go_wp2
          exact ⟨⟨i + 1, a9, c9, _, by omega, by go_num, HFIN⟩, by simp [intOf]; omega⟩
        · have hge : ¬ (i : Int) < (rooms.length : Int) := by omega
          obtain rfl : i = rooms.length := by omega
          have HR2 : Hid (pa.length = rooms.length ∧ Own w wr (npts b fA fC fr' fs hA hC (List.zip pa (rooms.map roomC)) (rooms.map fun _ => (⟨[], [], [], false⟩ : Ch)) none 0 [] [] ca' cc' ks (some ⟨sa, 0, none⟩) g ++ [CelA pb [.slice fa fs.length fc, .slice ra rooms.length rc, .int .i64 (locks : Int), .slice ca ks.length cc]])) := Lib.hid (by
            have := hr.out
            rw [List.take_length] at this
            exact this)
          obtain ⟨z1, -⟩ := HR2.out.2.cel 10 rfl 2 _ rfl
          have HCL : Hid ((rooms.map fun _ => (⟨[], [], [], false⟩ : Ch)).length = rooms.length) := Lib.hid (by simp)
          have HFR : Hid (fr'.length = fs.length) := Lib.hid HR1.out.1
          clear hr HR1
          generalize hZP : (List.zip pa (rooms.map roomC)) = zp at *
          generalize hCP : (rooms.map fun _ => (⟨[], [], [], false⟩ : Ch)) = cp at *
          have HZP := Lib.hid hZP
          have HCP := Lib.hid hCP
          clear hZP hCP
          go_wp2_with fail
          go_loopw [55] (fun iv wr => ∃ i : Nat, ∃ lA lC lp, i ≤ locks ∧ iv = .int .i64 i ∧ Hid (lp.length = i ∧ Own w wr (npts b fA fC fr' fs hA hC zp cp lA lC lp (List.replicate i []) ca' cc' ks (some ⟨sa, 0, none⟩) g ++ [CelA pb [.slice fa fs.length fc, .slice ra rooms.length rc, .int .i64 (locks : Int), .slice ca ks.length cc]]))) (fun iv _ => locks - (intOf iv).toNat)
          case atStart => exact ⟨0, none, 0, [], by omega, rfl, Lib.hid ⟨rfl, HR2.out.2⟩⟩
          case round =>
            obtain ⟨i, lA, lC, lp, hi, rfl, hr⟩ := hrel
            by_cases hlt : i < locks
            · obtain ⟨hrl, ho⟩ := hr.out
              have htl : (List.replicate i ([] : List Int)).length = i := List.length_replicate
              have SB : ∀ (wx : World) (L : List Asr), Own w wx L → ∀ k : Nat, L[k]? = some (CelA b (nwc fA fs.length fC hA cp.length hC lA (List.replicate i ([] : List Int)).length lC ca' ks.length cc' (some ⟨sa, 0, none⟩))) → wx.cell? ⟨b, 4, none⟩ = some (.slice lA i lC) := fun wx L ho k hk => by
                have := (ho.cel k hk 4 _ rfl).1
                rw [htl] at this
                exact this
              have HSB := Lib.hid SB
              have o1 := ho.step (below_drew1 wr)
              have HTL := Lib.hid htl
              have HRL := Lib.hid hrl
              obtain ⟨i0, hi0, hz0, hz1, hz2⟩ := info_parts info_lkp
              have Hi := Lib.hid hi0; clear hi0
              have Hz0 := Lib.hid hz0; clear hz0
              have Hz1 := Lib.hid hz1; clear hz1
              have Hz2 := Lib.hid hz2; clear hz2
              have hli : (i : Int) < (locks : Int) := by omega
              have hl0 : (0 : Int) ≤ (i : Int) := by omega
              clear SB htl hrl hr
              go_upto_region 14 with fail
              refine wp_region_lexY (fun wx => wx.cell? ⟨b, 4, none⟩ = some (.slice lA i lC)) 10 11 (Array.replicate 11 false) (by kernel_rfl) (by kernel_rfl) ?_
              refine wpAnyY_seg 0 5 _ #[true, true, true, true, true, false, false, false, false, false, false] 6 (by kernel_rfl) noPanic_put (HSB.out _ _ o1 0 rfl) (by kernel_rfl) ?_
              simp only [List.take_succ_cons, List.take_zero, List.drop_zero]
              repeat (first
                | (refine wpSegH_no (by rfl) ?_; simp only [Act.put, List.setIfInBounds_toArray, List.set_cons_zero, List.set_cons_succ])
                | (refine wpSegH_yes (by rfl) ?_; apply Exists.intro; apply And.intro; (· (intro wx hS; (try dsimp only at hS); go_simp; first | done | with_reducible rfl)); simp only [Act.put, List.setIfInBounds_toArray, List.set_cons_zero, List.set_cons_succ]))
              refine wpSegH_nil ?_
              refine wpAnyY_one 5 _ #[true, true, true, true, true, true, false, false, false, false, false] 5 (by kernel_rfl) (fun K hK => ?_)
              have HKK := Lib.hid hK
              clear hK
              simp only [List.drop_succ_cons, List.drop_zero]
              refine headH_mk (by rfl) ?_
              go_simp
              refine (knew_any _).mono ?_
              rintro r w2 ⟨pt, rfl, hk1, hk2, hb⟩
              have o2 := o1.add hb (A := LockA pt []) (F := [pt]) hk1 (by intro x hx; simp at hx; omega)
              refine HKK.out _ _ (HSB.out _ _ o2 1 rfl) ?_
              clear HKK K
              refine wpAnyY_one 6 _ #[true, true, true, true, true, true, true, false, false, false, false] 4 (by kernel_rfl) (fun K hK => ?_)
              have HKK := Lib.hid hK
              clear hK
              simp only [List.drop_succ_cons, List.drop_zero]
              refine headH_mk (by rfl) ?_
              go_simp
              have o3 := o2.step (below_alloc1 _ (.cells #[.pointer (some ⟨pt, 0, none⟩)] 113))
              refine HKK.out _ _ (HSB.out _ _ o3 1 rfl) ?_
              clear HKK K
              refine wpAnyY_one 7 _ #[true, true, true, true, true, true, true, true, false, false, false] 3 (by kernel_rfl) (fun K hK => ?_)
              have HKK := Lib.hid hK
              clear hK
              simp only [List.drop_succ_cons, List.drop_zero]
              refine headH_mk (by rfl) ?_
              have hrow3 := o3.rowG 9 rfl
              rw [HTL.out] at hrow3
              refine wp_append_rowG (n := i) (m := 1) (cs := lptr lp) (ds := [.pointer (some ⟨pt, 0, none⟩)]) _ _ 105 (by rfl) 113 i0 _ Tryz.underlying105 Hi.out Hz0.out Hz1.out Hz2.out rfl (by omega) (by omega) (by rfl) (by rfl) hrow3 (CellsAt.new _ [.pointer (some ⟨pt, 0, none⟩)] _ rfl) rfl (by simp [Value.oneCell']) (by omega) ?_
              intro a9 c9 w9 k9 ch9 f9
              have o4 := (Own.rowTurn (o3.pick 9 rfl) k9 ch9 f9)
              refine HKK.out _ _ (HSB.out _ _ o4 2 rfl) ?_
              clear HKK K
              refine wpAnyY_segT 8 1 _ #[true, true, true, true, true, true, true, true, true, false, false] 2 (by kernel_rfl) noPanic_put (by kernel_rfl) ?_
              simp only [List.take_succ_cons, List.take_zero, List.drop_succ_cons, List.drop_zero]
              repeat (first
                | (refine wpSegH_no (by rfl) ?_; simp only [Act.put, List.setIfInBounds_toArray, List.set_cons_zero, List.set_cons_succ])
                | (refine wpSegH_yes (by rfl) ?_; apply Exists.intro; apply And.intro; (· (intro wx hS; (try dsimp only at hS); go_simp; first | done | with_reducible rfl)); simp only [Act.put, List.setIfInBounds_toArray, List.set_cons_zero, List.set_cons_succ]))
              refine wpSegH_nil ?_
              refine wpAnyY_seg 9 1 _ #[true, true, true, true, true, true, true, true, true, true, false] 1 (by kernel_rfl) noPanic_put (HSB.out _ _ o4 2 rfl) (by kernel_rfl) ?_
              simp only [List.take_succ_cons, List.take_zero, List.drop_succ_cons, List.drop_zero]
              repeat (first
                | (refine wpSegH_no (by rfl) ?_; simp only [Act.put, List.setIfInBounds_toArray, List.set_cons_zero, List.set_cons_succ])
                | (refine wpSegH_yes (by rfl) ?_; apply Exists.intro; apply And.intro; (· (intro wx hS; (try dsimp only at hS); go_simp; first | done | with_reducible rfl)); simp only [Act.put, List.setIfInBounds_toArray, List.set_cons_zero, List.set_cons_succ]))
              refine wpSegH_nil ?_
              obtain ⟨z8, f8⟩ := o4.cel 2 rfl 4 _ rfl
              have o5 := ((((((((((((((o4.setAt 2 rfl 4 (.slice a9 (i + 1) c9)).pick 1 rfl).pick 10 rfl).pick 1 rfl).lstAdd).pick 1 rfl).pick 9 rfl).pick 9 rfl).pick 9 rfl).pick 9 rfl).pick 9 rfl).pick 9 rfl).pick 9 rfl).pick 9 rfl)
              have H5 := Lib.hid o5
              clear o1 o2 o3 o4 o5 k9 ch9 f9 hrow3 hb hk1 hk2 HSB ho
              refine wpAnyY_late 10 _ #[true, true, true, true, true, true, true, true, true, true, true] 0 (by kernel_rfl) (fun K hK => ?_)
              have HKK := Lib.hid hK
              clear hK
              simp only [List.drop_succ_cons, List.drop_zero]
              refine headH_mk (by rfl) ?_
              go_simp
              refine HKK.out _ _ ?_
              clear HKK K
              refine wpAnyY_done (by kernel_rfl) (NoPanic.normal ?_) _
              have HFIN : Hid ((lp ++ [pt]).length = i + 1 ∧ Own w (w9.setCell ⟨b, 4, none⟩ (.slice a9 (i + 1) c9)) (npts b fA fC fr' fs hA hC zp cp a9 c9 (lp ++ [pt]) (List.replicate (i + 1) []) ca' cc' ks (some ⟨sa, 0, none⟩) g ++ [CelA pb [.slice fa fs.length fc, .slice ra rooms.length rc, .int .i64 (locks : Int), .slice ca ks.length cc]])) := Lib.hid ⟨by simp [HRL.out], by
                rw [List.replicate_succ']
                have e : (List.replicate i ([] : List Int) ++ [[]]).length = i + 1 := by rw [List.length_append, HTL.out]; rfl
                unfold npts
                rw [lptr_app, lks_app (by rw [HRL.out, HTL.out]), e]
                exact H5.out⟩
              clear H5 HTL HRL
              go_wp2
              exact ⟨⟨i + 1, a9, c9, _, by omega, by go_num, HFIN⟩, by simp [intOf]; omega⟩
            · have hge : ¬ (i : Int) < (locks : Int) := by omega
              obtain rfl : i = locks := by omega
              have h0 := hr.out.2
              have hk := (h0.rowG 3 rfl).2.1
              have h1 := code_fold (((((h0.pick 10 rfl).drop).pick 3 rfl).pick 3 rfl).pick 3 rfl)
              have h2 := ((h1.pick 1 rfl).rowNil 1).add (Below.refl _ _) (A := ItemsA (.slice none 0 0) []) (F := []) ⟨rfl, World.ownsRow_nil _ _ _ _⟩ (fun x hx => by simp at hx)
              have h3 := (((((((h2.pick 9 rfl).pick 9 rfl).pick 9 rfl).pick 9 rfl).pick 9 rfl).pick 9 rfl).pick 9 rfl).pick 9 rfl
              have hrl := hr.out.1
              have hpl := HR2.out.1
              have hfl := HFR.out
              have e1 := HZP.out
              have e2 := HCP.out
              subst e1 e2
              have HE3 : Hid ((⟨fA, fC, fr', ca', cc', some ⟨sa, 0, none⟩, 1, [(g, 1)], hA, hC, pa, lA, lC, lp, .slice none 0 0, none, 0⟩ : Wa).fits (newM fs ks rooms i) ∧ Own w wr (wparts b (newM fs ks rooms i) ⟨fA, fC, fr', ca', cc', some ⟨sa, 0, none⟩, 1, [(g, 1)], hA, hC, pa, lA, lC, lp, .slice none 0 0, none, 0⟩ [])) :=
                Lib.hid ⟨⟨hfl, rfl, by simp [newM, hpl], by simp [newM], by simp [newM, hrl], hk⟩, h3⟩
              clear h0 h1 h2 h3 hk hr HR2
              go_wp2
              go_ret
              exact ⟨_, rfl, _, HE3.out⟩
end Go.Proofs.YtjidcagklakjaaaGreat
/-
  A world as one piece of memory; what it is asked.
-/
open Go Go.RowKit
set_option linter.unusedVariables false
namespace Go.Proofs.YtjidcagklakjaaaGreat
/-- A world that begins at block p, whose block has a tail. -/
def WldA (p : Nat) (W : Wd) (T : List Value) : Asr where
  at_ w F := ∃ D : Wa, D.fits W ∧ Sep w (wparts p W D T) F
  lt := by rintro w F ⟨D, -, h⟩; exact h.lt
  chg := by rintro w w' F G ⟨D, h1, h⟩ c hd; exact ⟨D, h1, h.chg c hd⟩
theorem Own.wld {w0 w : World} {p : Nat} {W : Wd} {T : List Value} {R : List Asr} (h : Own w0 w (WldA p W T :: R)) : ∃ D : Wa, D.fits W ∧ Own w0 w (wparts p W D T ++ R) := by
  obtain ⟨As, ⟨D, hf, rfl⟩, h1⟩ := Own.unfold h (P := fun As => ∃ D : Wa, D.fits W ∧ As = wparts p W D T) (fun F ⟨D, hf, hF⟩ => ⟨_, ⟨D, hf, rfl⟩, hF⟩)
  exact ⟨D, hf, h1⟩
theorem Own.toWld {w0 w : World} {p : Nat} {W : Wd} {T : List Value} {R : List Asr} {D : Wa} (hf : D.fits W) (h : Own w0 w (wparts p W D T ++ R)) : Own w0 w (WldA p W T :: R) := Own.fold h (fun F hF => ⟨D, hf, hF⟩)
theorem Own.rowNil0 {w0 w : World} {R : List Asr} (s : Nat) (h : Own w0 w R) : Own w0 w (RowGA s none 0 0 [] :: R) := h.add (Below.refl _ _) (F := []) ⟨rfl, RowG.nil s w⟩ (by intro x hx; simp at hx)
theorem Own.wldBack {w0 w : World} {p : Nat} {W : Wd} {T : List Value} {R : List Asr} {A : Asr} {D : Wa} (hf : D.fits W) (h : Own w0 w (A :: (wparts p W D T ++ R))) : Own w0 w (A :: WldA p W T :: R) := by
  have h1 : Own w0 w (wparts p W D T ++ (A :: R)) := h.perm (by
    have := (List.perm_middle (a := A) (l₁ := wparts p W D T) (l₂ := R)).symm
    exact this)
  have h2 := Own.toWld hf h1
  exact h2.perm (List.Perm.swap _ _ _)
/-- A draw that changes nothing of what stands. -/
theorem drawOk_quiet {w0 : World} {p : Nat} {T : List Value} {W : Wd} {F : Nat} {fst cap : Array Value} {kind n : Int} {R : List Asr} (v : Int)
    (hq : ∀ w', Calls Tryz.prog F (fst ++ (#[.int .i64 kind, .int .i64 n] ++ cap)) w' fun r w'' => r = .returned (.int .i64 v) ∧ Below w'.heap.size w' w'') :
    DrawOk w0 p T W F fst cap kind n R (fun u R' => u = v ∧ R' = R) (fun _ _ => False) := fun Z d w' hD => by
  refine (hq w').mono (fun r w'' hh => .inl ⟨v, R, hh.1, ⟨rfl, rfl⟩, hD.step hh.2⟩)
theorem execM_none {B : Nat} {W : Wd} (wf : WF B W) {g : Int} (h : W.lets g → askN W ((W.ins g.toNat).getD (0, 0, 0, 0)) = 0) (u v : Int) : execM W g u = execM W g v := by
  unfold execM
  by_cases hl : W.lets g
  · rw [if_pos hl, if_pos hl]
    have hk : AskIn W ((W.ins g.toNat).getD (0, 0, 0, 0)) := by
      cases hx : W.ins g.toNat with
      | none => exact ⟨fun e => absurd e (by decide), fun e => absurd e (by decide)⟩
      | some x =>
        obtain ⟨k1, -, -⟩ := wf.insOk hx
        exact ⟨fun e => ⟨k1.casX (.inr (.inr e)), by have := wf.p.kl; omega, k1.casOk (.inr (.inr e)) wf.p.ck⟩, fun e => by have := k1.o21 e; simp only [Option.getD_some] at *; omega⟩
    simp only [askM_none hk (h hl)]
  · rw [if_neg hl, if_neg hl]
/-- Exec of a world that may be, by a draw of whatever kind. -/
def ExecW (w0 : World) (p : Nat) (T : List Value) (W : Wd) (g : Int) (R : List Asr) (Qd : Int → List Asr → Prop) (Qp : Ending → List Asr → Prop) (r : Ending) (w' : World) : Prop :=
  (∃ v R' ra rc, ((¬ W.lets g ∨ askN W ((W.ins g.toNat).getD (0, 0, 0, 0)) = 0) ∧ R' = R ∨ (W.lets g ∧ 1 ≤ askN W ((W.ins g.toNat).getD (0, 0, 0, 0))) ∧ Qd v R') ∧
    r = .returned (.agg #[.bool (execM W g v).2.1, .slice ra (execM W g v).2.2.length rc]) ∧ Own w0 w' (RowGA 1 ra rc (execM W g v).2.2.length (intc (execM W g v).2.2) :: WldA p (execM W g v).1 T :: R')) ∨
  (∃ chain R', r = .panicked chain ∧ (W.lets g ∧ 1 ≤ askN W ((W.ins g.toNat).getD (0, 0, 0, 0))) ∧ Qp r R' ∧ Own w0 w' (WldA p W T :: R'))
theorem exec_w {w0 w : World} {p : Nat} {T : List Value} {W : Wd} {R : List Asr} {F : Nat} {fst cap : Array Value} {Qd : Int → List Asr → Prop} {Qp : Ending → List Asr → Prop} {B : Nat} (h : Own w0 w (WldA p W T :: R)) (wf : WF B W) (hB : B ≤ 80000) (g : Int)
    (en : ∀ (args : Array Value) (w : World), (callFunc F args).run Tryz.prog w = .ok (.enter F args) w) (hd : W.lets g → 1 ≤ askN W ((W.ins g.toNat).getD (0, 0, 0, 0)) → DrawOk w0 p T W F fst cap (askK ((W.ins g.toNat).getD (0, 0, 0, 0))) (askN W ((W.ins g.toNat).getD (0, 0, 0, 0)) : Int) R Qd Qp) :
    Calls Tryz.prog 16 #[.pointer (some ⟨p, 0, none⟩), .int .i64 g, .func (.func F) fst cap] w fun r w' => ExecW w0 p T W g R Qd Qp r w' := by
  obtain ⟨D, hf, ho⟩ := h.wld
  by_cases hl : W.lets g
  · obtain ⟨k, rfl⟩ : ∃ k : Nat, g = (k : Int) := ⟨g.toNat, by have := hl.2.1; omega⟩
    have hl2 := hl
    refine (exec_all (Qd := Qd) (Qp := Qp) ho hf k (wf.execOk hB hl) en (hd hl)).mono (fun r w' hh => ?_)
    rcases hh with ⟨v, R', D', ra, rc, hq, h1, h2, h3⟩ | ⟨D', ch, R', h1, h2, h3, h4, h5⟩
    · refine .inl ⟨v, R', ra, rc, ?_, h1, Own.wldBack h2 h3⟩
      rcases hq with ⟨a, b⟩ | ⟨a, b⟩
      · exact .inl ⟨.inr a, b⟩
      · exact .inr ⟨⟨hl2, a⟩, b⟩
    · exact .inr ⟨ch, R', h1, ⟨hl2, h2⟩, h3, Own.toWld h4 h5⟩
  · refine (exec_no ho hf g hl (.func (.func F) fst cap)).mono (fun r w' hh => ?_)
    have e : execM W g 0 = (W, false, []) := by unfold execM; rw [if_neg hl]
    refine .inl ⟨0, R, none, 0, .inl ⟨.inl hl, rfl⟩, ?_, ?_⟩
    · rw [e]; exact hh.1
    · rw [e]; exact Own.rowNil0 1 (Own.toWld hf hh.2)
/-- .. by a draw that always answers the same. -/
theorem exec_q {w0 w : World} {p : Nat} {T : List Value} {W : Wd} {R : List Asr} {F : Nat} {fst cap : Array Value} {B : Nat} (h : Own w0 w (WldA p W T :: R)) (wf : WF B W) (hB : B ≤ 80000) (g : Int)
    (en : ∀ (args : Array Value) (w : World), (callFunc F args).run Tryz.prog w = .ok (.enter F args) w) (v : Int)
    (hq : ∀ kind n w', Calls Tryz.prog F (fst ++ (#[.int .i64 kind, .int .i64 n] ++ cap)) w' fun r w'' => r = .returned (.int .i64 v) ∧ Below w'.heap.size w' w'') :
    Calls Tryz.prog 16 #[.pointer (some ⟨p, 0, none⟩), .int .i64 g, .func (.func F) fst cap] w fun r w' => ∃ ra rc, r = .returned (.agg #[.bool (execM W g v).2.1, .slice ra (execM W g v).2.2.length rc]) ∧ Own w0 w' (RowGA 1 ra rc (execM W g v).2.2.length (intc (execM W g v).2.2) :: WldA p (execM W g v).1 T :: R) := by
  refine (exec_w (Qd := fun u R' => u = v ∧ R' = R) (Qp := fun _ _ => False) h wf hB g en (fun _ _ => drawOk_quiet v (fun w' => hq _ _ w'))).mono (fun r w' hh => ?_)
  rcases hh with ⟨u, R', ra, rc, hq, h1, h2⟩ | ⟨ch, R', h1, h2, h3, h4⟩
  · rcases hq with ⟨hn, rfl⟩ | ⟨-, rfl, rfl⟩
    · have e : execM W g u = execM W g v := execM_none wf (fun hl => by rcases hn with hn | hn; exact absurd hl hn; exact hn) u v
      rw [e] at h1 h2
      exact ⟨ra, rc, h1, h2⟩
    · exact ⟨ra, rc, h1, h2⟩
  · exact h3.elim
section
variable {w0 w : World} {p : Nat} {W : Wd} {T : List Value} {R : List Asr}
theorem len_w (h : Own w0 w (WldA p W T :: R)) : Calls Tryz.prog 29 #[.pointer (some ⟨p, 0, none⟩)] w fun r w' => r = .returned (.int .i64 (W.gs.length : Int)) ∧ w' = w := by
  obtain ⟨D, hf, ho⟩ := h.wld
  exact wlen_any ho
theorem end_w (h : Own w0 w (WldA p W T :: R)) : Calls Tryz.prog 30 #[.pointer (some ⟨p, 0, none⟩)] w fun r w' => r = .returned (.tuple #[.int .i64 W.en, .int .i64 W.why]) ∧ ∃ k, w' = w.drewN k := by
  obtain ⟨D, hf, ho⟩ := h.wld
  exact wend_any ho
theorem status_w (h : Own w0 w (WldA p W T :: R)) (g : Int) : Calls Tryz.prog 27 #[.pointer (some ⟨p, 0, none⟩), .int .i64 g] w fun r w' => r = .returned (.int .i64 (statusM W g)) ∧ w' = w := by
  obtain ⟨D, hf, ho⟩ := h.wld
  exact status_any ho hf g
theorem stack_w (h : Own w0 w (WldA p W T :: R)) {B : Nat} (wf : WF B W) (k : Nat) (hk : k < W.gs.length) : Calls Tryz.prog 24 #[.pointer (some ⟨p, 0, none⟩), .int .i64 (k : Int)] w fun r w' => ∃ g' cap', r = .returned (.slice (some ⟨g', 0, none⟩) (W.g k).n cap') ∧ w.heap.size ≤ g' ∧ StkAt w' g' (W.g k).n cap' (W.g k).z ∧ Below w.heap.size w w' := by
  obtain ⟨D, hf, ho⟩ := h.wld
  exact wstack_any ho hf k hk (by have := wf.g1; omega) (wf.at hk).n
theorem out_w (h : Own w0 w (WldA p W T :: R)) {B : Nat} (wf : WF B W) : Calls Tryz.prog 21 #[.pointer (some ⟨p, 0, none⟩)] w fun r w' => ∃ a' c', r = .returned (.slice a' W.out.length c') ∧ RowG 1 w' a' c' W.out.length (intc W.out) ∧ (∀ x ∈ blk a', w.heap.size ≤ x) ∧ Below w.heap.size w w' := by
  obtain ⟨D, hf, ho⟩ := h.wld
  exact wout_any ho (by have := wf.out; omega)
theorem chan_w (h : Own w0 w (WldA p W T :: R)) {B : Nat} (wf : WF B W) (hB : B ≤ 80000) (i : Nat) (hi : i < W.Cs.length) : Calls Tryz.prog 26 #[.pointer (some ⟨p, 0, none⟩), .int .i64 (i : Int)] w fun r w' => ∃ ba bc sa sc ra rc, r = .returned (.agg #[.slice ba (W.ch (i : Int)).buf.length bc, .slice sa (W.ch (i : Int)).S.length sc, .slice ra (W.ch (i : Int)).R.length rc, .bool (W.ch (i : Int)).cl]) ∧ Own w0 w' (WldA p W T :: R) := by
  obtain ⟨D, hf, ho⟩ := h.wld
  obtain ⟨c1, c2, c3, -⟩ := wf.cs _ (ch_mem (W := W) (i := (i : Int)) ⟨by omega, by omega⟩)
  refine (wchan_any ho hf i hi (by omega) (by omega) (by omega)).mono (fun r w' hh => ?_)
  obtain ⟨ba, bc, sa, sc, ra, rc, h1, h2⟩ := hh
  exact ⟨ba, bc, sa, sc, ra, rc, h1, Own.toWld hf h2⟩
end
theorem new_w (w : World) (fa : Option Addr) (fc : Nat) (fr : List (Option Addr × Nat)) (fs : List (List In4)) (ra : Option Addr) (rc : Nat) (rooms : List Int) (locks : Nat) (ca : Option Addr) (cc : Nat) (ks : List Cs3) (hp : ProgIn w fa fr fs ra rooms ca cc ks) (hlk : locks ≤ 1000) :
    Calls Tryz.prog 10 #[.agg #[.slice fa fs.length fc, .slice ra rooms.length rc, .int .i64 (locks : Int), .slice ca ks.length cc]] w fun r w' => ∃ b, r = .returned (.pointer (some ⟨b, 0, none⟩)) ∧ Own w w' [WldA b (newM fs ks rooms locks) []] := by
  refine (wnew_any w fa fc fr fs ra rc rooms locks ca cc ks hp hlk).mono (fun r w' hh => ?_)
  obtain ⟨b, D, h1, hf, ho⟩ := hh
  exact ⟨b, h1, Own.toWld (R := []) hf (by rw [List.append_nil]; exact ho)⟩
/-- An op that a program hasn't. -/
theorem no_op {B : Nat} {W : Wd} (k : Int) (hk : k ≠ 0) (h : ∀ l ∈ W.fs, ∀ x ∈ l, x.1 ≠ k) (g : Nat) : ((W.ins g).getD (0, 0, 0, 0)).1 ≠ k := by
  cases hx : W.ins g with
  | none => exact fun e => hk e.symm
  | some x =>
    simp only [Option.getD_some]
    rw [Wd.ins_eq] at hx
    unfold Wd.insAt at hx
    split at hx
    · cases hx
    · have hm := List.mem_of_getElem? hx
      rw [List.getD_eq_getElem?_getD] at hm
      cases e : W.fs[(W.g g).fn.toNat]? with
      | none => rw [e] at hm; simp at hm
      | some l => rw [e] at hm; exact h l (List.mem_of_getElem? e) x hm
end Go.Proofs.YtjidcagklakjaaaGreat
/-
  The law WorldCloses: its worlds, in plain numbers.
-/
open Go Go.RowKit
set_option linter.unusedVariables false
namespace Go.Proofs.YtjidcagklakjaaaGreat
/-- One goroutine's instructions, one behind the other. -/
def runK (W : Wd) (g : Int) : Nat → Wd
  | 0 => W
  | k + 1 => (execM (runK W g k) g 0).1
theorem runK_wf {B : Nat} {W : Wd} (h : WF B W) (g : Int) : ∀ k, B + k * (W.ks.length + 1) ≤ 80000 → WF (B + k * (W.ks.length + 1)) (runK W g k) ∧ Fol W (runK W g k)
  | 0, _ => ⟨by simpa [runK] using h, Fol.refl _⟩
  | k + 1, hb => by
    rw [Nat.add_mul] at hb
    obtain ⟨a, b⟩ := runK_wf h g k (by omega)
    obtain ⟨c, d⟩ := a.exec (by omega) g 0
    rw [b.ks] at c
    exact ⟨c.mono (by rw [Nat.add_mul]; omega), b.trans d⟩
def clHead (n : Nat) (s : Bool) : List In4 := List.replicate n (11, 1, 0, 1) ++ (if s then [(11, 2, 0, 1)] else [])
def clMain (n : Nat) (s : Bool) : List In4 := clHead n s ++ [(15, 0, 0, 0), (15, 1, 0, 0)]
theorem clHead_len (n : Nat) (s : Bool) : (clHead n s).length = n + (if s then 1 else 0) := by unfold clHead; split <;> simp
def clFs (n : Nat) (s : Bool) : List (List In4) := [clMain n s, [(1, 1, 7, 0), (1, 2, 7, 0), (14, 0, 1, 2)], [(13, 1, 0, 0)]]
def clW (n : Nat) (s : Bool) : Wd := newM (clFs n s) [] [0, 0] 0
def clN (n : Nat) (s : Bool) : Nat := n + (if s then 1 else 0)
def cl1 (n : Nat) (s : Bool) (k : Nat) : Wd := runK (clW n s) 0 k
/-- .. each of the others three. -/
def cl2 (n : Nat) (s : Bool) : Nat → Wd
  | 0 => cl1 n s (clN n s)
  | g + 1 => runK (cl2 n s g) ((g : Int) + 1) 3
def cl3 (n : Nat) (s : Bool) : Wd := (execM (cl2 n s (clN n s)) 0 0).1
def cl4 (n : Nat) (s : Bool) : Wd := (execM (cl3 n s) 0 0).1
def clOk (n : Nat) (s : Bool) : Bool :=
  (List.range (clN n s + 1)).all (fun g => (cl2 n s g).gs.length == clN n s + 1) &&
  ((execM (cl2 n s (clN n s)) 0 0).2.2 == (List.range n).map (fun i => ((i + 1 : Nat) : Int))) &&
  (List.range n).all (fun i => ((cl3 n s).g (i + 1)).rg 1 == 0 && ((cl3 n s).g (i + 1)).rg 2 == 0 && statusM (cl3 n s) ((i + 1 : Nat) : Int) == 1) &&
  (if s then decide ((cl4 n s).en = 2) && decide ((cl4 n s).why = -1) && ((cl4 n s).ch 1).cl && ((cl4 n s).ch 1).S.isEmpty else decide ((cl4 n s).en = 0) && ((cl4 n s).ch 0).cl && ((cl4 n s).ch 1).cl)
theorem cl_all : ∀ n, n < 21 → 1 ≤ n → ∀ s, clOk n s = true := by decide +kernel
theorem cl_good : ∀ n, n < 21 → 1 ≤ n → ∀ s, ((clFs n s).all fun l => decide (l.length ≤ 900) && l.all fun x => decide (0 ≤ x.1) && decide (x.1 ≠ 17) && (goodB 3 2 0 0 l.length x == some true)) = true := by decide +kernel
theorem cl_wf {n : Nat} {s : Bool} (h : 1 ≤ n ∧ n ≤ 20) : WF 0 (clW n s) := by
  have hg := cl_good n (by omega) h.1 s
  rw [List.all_eq_true] at hg
  refine newM_wf ⟨by show 1 ≤ 3 ∧ 3 ≤ 1000; omega, fun l hl => ?_, fun l hl x hx => ?_, by simp, fun k hk => by simp at hk, by decide, by decide⟩
  · have := hg l hl; simp at this; exact this.1
  · have := hg l hl
    simp only [Bool.and_eq_true, List.all_eq_true, decide_eq_true_eq, beq_iff_eq] at this
    exact ⟨(this.2 x hx).1.1, (this.2 x hx).2⟩
theorem clN_le {n : Nat} {s : Bool} (h : n ≤ 20) : clN n s ≤ 21 := by unfold clN; split <;> omega
theorem cl1_wf {n : Nat} {s : Bool} (h : 1 ≤ n ∧ n ≤ 20) (k : Nat) (hk : k ≤ 21) : WF 21 (cl1 n s k) ∧ Fol (clW n s) (cl1 n s k) := by
  obtain ⟨a, b⟩ := runK_wf (cl_wf (s := s) h) 0 k (by show 0 + k * (0 + 1) ≤ _; omega)
  exact ⟨a.mono (by show 0 + k * (0 + 1) ≤ _; omega), b⟩
theorem cl2_wf {n : Nat} {s : Bool} (h : 1 ≤ n ∧ n ≤ 20) : ∀ g k, g ≤ 21 → k ≤ 3 → WF (21 + g * 3 + k) (runK (cl2 n s g) ((g : Int) + 1) k) ∧ Fol (clW n s) (runK (cl2 n s g) ((g : Int) + 1) k)
  | 0, k, _, hk => by
    obtain ⟨a, b⟩ := cl1_wf (s := s) h (clN n s) (clN_le h.2)
    obtain ⟨c, d⟩ := runK_wf a (((0 : Nat) : Int) + 1) k (by rw [b.ks]; show 21 + k * (0 + 1) ≤ _; omega)
    rw [b.ks] at c
    exact ⟨c.mono (by show 21 + k * (0 + 1) ≤ _; omega), b.trans d⟩
  | g + 1, k, hg, hk => by
    obtain ⟨a, b⟩ := cl2_wf h g 3 (by omega) (by omega)
    obtain ⟨c, d⟩ := runK_wf (W := cl2 n s (g + 1)) a (((g + 1 : Nat) : Int) + 1) k (by rw [show (cl2 n s (g + 1)).ks = [] from b.ks]; show 21 + g * 3 + 3 + k * (0 + 1) ≤ _; omega)
    rw [show (cl2 n s (g + 1)).ks = [] from b.ks] at c
    exact ⟨c.mono (by show 21 + g * 3 + 3 + k * (0 + 1) ≤ _; omega), b.trans d⟩
theorem cl2_wf0 {n : Nat} {s : Bool} (h : 1 ≤ n ∧ n ≤ 20) (g : Nat) (hg : g ≤ 21) : WF 200 (cl2 n s g) ∧ Fol (clW n s) (cl2 n s g) := by
  obtain ⟨a, b⟩ := cl2_wf (s := s) h g 0 hg (by omega)
  exact ⟨a.mono (by omega), b⟩
theorem cl3_wf {n : Nat} {s : Bool} (h : 1 ≤ n ∧ n ≤ 20) : WF 300 (cl3 n s) ∧ Fol (clW n s) (cl3 n s) := by
  obtain ⟨a, b⟩ := cl2_wf0 (s := s) h (clN n s) (clN_le h.2)
  obtain ⟨c, d⟩ := a.exec (by omega) 0 0
  rw [b.ks] at c
  exact ⟨c.mono (by show 200 + 0 + 1 ≤ _; omega), b.trans d⟩
theorem cl4_wf {n : Nat} {s : Bool} (h : 1 ≤ n ∧ n ≤ 20) : WF 400 (cl4 n s) ∧ Fol (clW n s) (cl4 n s) := by
  obtain ⟨a, b⟩ := cl3_wf (s := s) h
  obtain ⟨c, d⟩ := a.exec (by omega) 0 0
  rw [b.ks] at c
  exact ⟨c.mono (by show 300 + 0 + 1 ≤ _; omega), b.trans d⟩
/-- What the law looks at. -/
structure ClF (n : Nat) (s : Bool) : Prop where
  len : ∀ g, g ≤ clN n s → (cl2 n s g).gs.length = clN n s + 1
  rd : (execM (cl2 n s (clN n s)) 0 0).2.2 = (List.range n).map (fun i => ((i + 1 : Nat) : Int))
  each : ∀ i, i < n → ((cl3 n s).g (i + 1)).rg 1 = 0 ∧ ((cl3 n s).g (i + 1)).rg 2 = 0 ∧ statusM (cl3 n s) ((i : Int) + 1) = 1
  yes : s = true → (cl4 n s).en = 2 ∧ (cl4 n s).why = -1 ∧ ((cl4 n s).ch 1).cl = true ∧ ((cl4 n s).ch 1).S.length = 0
  no : s = false → (cl4 n s).en = 0 ∧ ((cl4 n s).ch 0).cl = true ∧ ((cl4 n s).ch 1).cl = true
theorem clF_of {n : Nat} {s : Bool} (h : 1 ≤ n ∧ n ≤ 20) : ClF n s := by
  have hk := cl_all n (by omega) h.1 s
  unfold clOk at hk
  simp only [Bool.and_eq_true, List.all_eq_true, List.mem_range, beq_iff_eq] at hk
  obtain ⟨⟨⟨h1, h2⟩, h3⟩, h4⟩ := hk
  refine ⟨fun g hg => h1 g (by omega), h2, fun i hi => ⟨(h3 i hi).1.1, (h3 i hi).1.2, (h3 i hi).2⟩, fun e => ?_, fun e => ?_⟩
  · rw [if_pos e] at h4
    simp only [Bool.and_eq_true, decide_eq_true_eq, List.isEmpty_iff] at h4
    exact ⟨h4.1.1.1, h4.1.1.2, h4.1.2, by rw [h4.2]; rfl⟩
  · rw [if_neg (by rw [e]; decide)] at h4
    simp only [Bool.and_eq_true, decide_eq_true_eq] at h4
    exact ⟨h4.1.1, h4.1.2, h4.2⟩
theorem cl3_lt {n : Nat} {s : Bool} (h : 1 ≤ n ∧ n ≤ 20) (i : Nat) (hi : i < n) : i + 1 < (cl3 n s).gs.length := by
  have h1 := (clF_of (s := s) h).len _ (Nat.le_refl _)
  obtain ⟨a, b⟩ := cl2_wf0 (s := s) h (clN n s) (clN_le h.2)
  have h2 := (a.exec (by omega) 0 0).2.gl
  have h3 : n ≤ clN n s := by unfold clN; omega
  have e : (cl3 n s).gs.length = (execM (cl2 n s (clN n s)) 0 0).1.gs.length := rfl
  omega
end Go.Proofs.YtjidcagklakjaaaGreat
/-
  The law WorldSelects: its worlds, in plain numbers.
-/
open Go Go.RowKit
set_option linter.unusedVariables false
namespace Go.Proofs.YtjidcagklakjaaaGreat
def seSends : Nat → List Bool → List In4
  | _, [] => []
  | i, b :: t => if b then (13, (i : Int), 1, 0) :: seSends (i + 1) t else seSends (i + 1) t
/-- Those that can go alone. -/
def seCan : Nat → List Bool → List Nat
  | _, [] => []
  | i, b :: t => if b then i :: seCan (i + 1) t else seCan (i + 1) t
def seHead (L : List Bool) : List In4 := (1, 1, 5, 0) :: seSends 0 L
def seMain (L : List Bool) : List In4 := seHead L ++ [(11, 1, 1, 6), (16, 0, (L.length : Int), 3), (12, 0, 0, 0)]
def seFs (L : List Bool) (late : Nat) : List (List In4) := [seMain L, [(13, (late : Int), 0, 0), (10, 0, 0, 0)]]
def seKs (n : Nat) : List Cs3 := (List.range n).map fun i : Nat => ((0, (i : Int), 2) : Cs3)
def seRooms (n : Nat) : List Int := List.replicate n 1
def seW (L : List Bool) (late : Nat) : Wd := newM (seFs L late) (seKs L.length) (seRooms L.length) 0
/-- How many steps there are ahead of the select. -/
def seK (L : List Bool) : Nat := (seCan 0 L).length + 2
def seX (L : List Bool) (late k : Nat) : Wd := runK (seW L late) 0 k
def seAt (L : List Bool) (d : Nat) : Nat := (seCan 0 L).getD (d % (seCan 0 L).length) 0
def seYes (L : List Bool) (X : Wd) (d : Nat) : Bool :=
  let Y := (execM X 0 (d : Int)).1
  (List.range L.length).all (fun i => ((Y.ch (i : Int)).buf.length == 1) == (L.getD i false && i != seAt L d)) && ((Y.g 0).rg 2 == 5) && ((Y.g 0).rg 3 == (seAt L d : Int)) && (statusM Y 0 == 1)
def seNo (L : List Bool) (late : Nat) (X : Wd) : Bool :=
  let Y := (execM X 0 0).1
  let E := execM Y 1 0
  (statusM Y 0 == 2) && (askN Y ((Y.ins 1).getD (0, 0, 0, 0)) == 0) && (E.2.2 == [0]) && (List.range L.length).all (fun i => (E.1.ch (i : Int)).R.length == 0 && (E.1.ch (i : Int)).buf.length == 0) && ((E.1.g 0).rg 2 == 5) && ((E.1.g 0).rg 3 == (late : Int)) && (statusM E.1 0 == 1)
def seOk (L : List Bool) (late : Nat) : Bool :=
  (List.range (seK L)).all (fun k => askN (seX L late k) (((seX L late k).ins 0).getD (0, 0, 0, 0)) == 0) &&
  (let X := seX L late (seK L)
   decide (X.lets 0) && (askN X ((X.ins 0).getD (0, 0, 0, 0)) == (seCan 0 L).length) &&
   if (seCan 0 L).length = 0 then seNo L late X else (List.range (seCan 0 L).length).all (seYes L X))
def seGood (L : List Bool) (late : Nat) : Bool := (seFs L late).all fun l => decide (l.length ≤ 900) && l.all fun x => decide (0 ≤ x.1) && (goodB 2 L.length L.length 0 l.length x == some true)
/-- All rows of so many bits. -/
def allB : Nat → List (List Bool)
  | 0 => [[]]
  | n + 1 => (allB n).map (true :: ·) ++ (allB n).map (false :: ·)
theorem mem_allB : ∀ (L : List Bool), L ∈ allB L.length
  | [] => by simp [allB]
  | true :: t => by have := mem_allB t; simp [allB, this]
  | false :: t => by have := mem_allB t; simp [allB, this]
theorem se_all : ∀ n, n < 7 → ∀ L ∈ allB n, ∀ late, late < n → (seOk L late && seGood L late) = true := by decide +kernel
theorem seSends_snoc : ∀ (l : List Bool) (k : Nat) (b : Bool), seSends k (l ++ [b]) = seSends k l ++ (if b then [(13, ((k + l.length : Nat) : Int), 1, 0)] else [])
  | [], k, b => by cases b <;> rfl
  | c :: t, k, b => by
    have h := seSends_snoc t (k + 1) b
    rw [show k + 1 + t.length = k + (t.length + 1) by omega] at h
    cases c <;> simp [seSends, h]
theorem seCan_snoc : ∀ (l : List Bool) (k : Nat) (b : Bool), seCan k (l ++ [b]) = seCan k l ++ (if b then [k + l.length] else [])
  | [], k, b => by cases b <;> rfl
  | c :: t, k, b => by
    have h := seCan_snoc t (k + 1) b
    rw [show k + 1 + t.length = k + (t.length + 1) by omega] at h
    cases c <;> simp [seCan, h]
theorem seSends_len : ∀ (l : List Bool) (k : Nat), (seSends k l).length = (seCan k l).length
  | [], k => rfl
  | c :: t, k => by have h := seSends_len t (k + 1); cases c <;> simp [seSends, seCan, h]
theorem seCan_le : ∀ (l : List Bool) (k : Nat), (seCan k l).length ≤ l.length
  | [], k => by simp [seCan]
  | c :: t, k => by have h := seCan_le t (k + 1); cases c <;> simp [seCan] <;> omega
theorem seKs_snoc (i : Nat) : seKs (i + 1) = seKs i ++ [(0, (i : Int), 2)] := by unfold seKs; rw [List.range_succ, List.map_append]; rfl
theorem seMain_len (L : List Bool) : (seMain L).length = seK L + 2 := by unfold seMain seHead seK; simp [seSends_len]
/-- What the law looks at. -/
structure SeF (L : List Bool) (late : Nat) : Prop where
  ask : ∀ k, k < seK L → askN (seX L late k) (((seX L late k).ins 0).getD (0, 0, 0, 0)) = 0
  lets : (seX L late (seK L)).lets 0
  asks : askN (seX L late (seK L)) (((seX L late (seK L)).ins 0).getD (0, 0, 0, 0)) = (seCan 0 L).length
  yes : 0 < (seCan 0 L).length → ∀ d, d < (seCan 0 L).length → seYes L (seX L late (seK L)) d = true
  no : (seCan 0 L).length = 0 → seNo L late (seX L late (seK L)) = true
theorem seF_of {L : List Bool} {late : Nat} (hn : L.length < 7) (hl : late < L.length) : SeF L late := by
  have h := se_all L.length hn L (mem_allB L) late hl
  rw [Bool.and_eq_true] at h
  have h := h.1
  unfold seOk at h
  simp only [Bool.and_eq_true, List.all_eq_true, List.mem_range, beq_iff_eq, decide_eq_true_eq] at h
  obtain ⟨h1, ⟨h2, h3⟩, h4⟩ := h
  refine ⟨h1, h2, h3, fun h0 d hd => ?_, fun h0 => ?_⟩
  · rw [if_neg (by omega)] at h4
    rw [List.all_eq_true] at h4
    exact h4 d (List.mem_range.2 hd)
  · rw [if_pos h0] at h4; exact h4
theorem seKs_len (n : Nat) : (seKs n).length = n := by simp [seKs]
theorem seRooms_len (n : Nat) : (seRooms n).length = n := by simp [seRooms]
theorem se_wf {L : List Bool} {late : Nat} (hn : L.length < 7) (hl : late < L.length) : WF 0 (seW L late) := by
  have h := se_all L.length hn L (mem_allB L) late hl
  rw [Bool.and_eq_true] at h
  have hg := h.2
  unfold seGood at hg
  rw [List.all_eq_true] at hg
  refine newM_wf ⟨by show 1 ≤ 2 ∧ 2 ≤ 1000; omega, fun l hl => ?_, fun l hl x hx => ?_, by rw [seKs_len]; omega, fun k hk => ?_, by rw [seRooms_len]; omega, by omega⟩
  · have := hg l hl; simp at this; exact this.1
  · have := hg l hl
    simp only [Bool.and_eq_true, List.all_eq_true, decide_eq_true_eq, beq_iff_eq] at this
    rw [seRooms_len, seKs_len]
    exact this.2 x hx
  · unfold seKs at hk
    obtain ⟨i, hi, rfl⟩ := List.mem_map.1 hk
    rw [List.mem_range] at hi
    exact ⟨.inl rfl, by show (0 : Int) ≤ (i : Int); omega, fun _ => by rw [seRooms_len]; show (i : Int) < (L.length : Int); omega, by show (0 : Int) ≤ 2; omega, by show (2 : Int) < 8; omega⟩
theorem seX_wf {L : List Bool} {late : Nat} (hn : L.length < 7) (hl : late < L.length) (k : Nat) (hk : k ≤ 10) : WF 100 (seX L late k) ∧ Fol (seW L late) (seX L late k) := by
  have e : (seW L late).ks.length = L.length := seKs_len _
  have hb : k * ((seW L late).ks.length + 1) ≤ 10 * 7 := Nat.mul_le_mul hk (by omega)
  obtain ⟨a, b⟩ := runK_wf (se_wf hn hl) 0 k (by omega)
  exact ⟨a.mono (by omega), b⟩
theorem seK_le {L : List Bool} (hn : L.length < 7) : seK L ≤ 8 := by unfold seK; have := seCan_le L 0; omega
/-- Behind the select, by a draw. -/
def seY (L : List Bool) (late d : Nat) : Wd := (execM (seX L late (seK L)) 0 (if (seCan 0 L).length = 0 then 0 else ((d % (seCan 0 L).length : Nat) : Int))).1
theorem seY_wf {L : List Bool} {late : Nat} (hn : L.length < 7) (hl : late < L.length) (d : Nat) : WF 200 (seY L late d) ∧ Fol (seW L late) (seY L late d) := by
  obtain ⟨a, b⟩ := seX_wf hn hl (seK L) (by have := seK_le hn; omega)
  obtain ⟨c, e⟩ := a.exec (by omega) 0 (if (seCan 0 L).length = 0 then 0 else ((d % (seCan 0 L).length : Nat) : Int))
  have e2 : (seX L late (seK L)).ks.length = L.length := by rw [b.ks]; exact seKs_len _
  rw [e2] at c
  exact ⟨c.mono (by omega), b.trans e⟩
structure SeYes (L : List Bool) (Y : Wd) (a : Nat) : Prop where
  each : ∀ i, i < L.length → ((Y.ch (i : Int)).buf.length == 1) = (L.getD i false && (i != a))
  r2 : (Y.g 0).rg 2 = 5
  r3 : (Y.g 0).rg 3 = (a : Int)
  st : statusM Y 0 = 1
theorem seY_yes {L : List Bool} {late : Nat} (h : SeF L late) (h0 : 0 < (seCan 0 L).length) (d : Nat) : SeYes L (seY L late d) ((seCan 0 L).getD (d % (seCan 0 L).length) 0) := by
  have hk := h.yes h0 (d % (seCan 0 L).length) (Nat.mod_lt _ h0)
  have e : (execM (seX L late (seK L)) 0 ((d % (seCan 0 L).length : Nat) : Int)).1 = seY L late d := by unfold seY; rw [if_neg (by omega)]
  unfold seYes seAt at hk
  simp only [Bool.and_eq_true, List.all_eq_true, List.mem_range, beq_iff_eq, Nat.mod_mod] at hk
  rw [e] at hk
  exact ⟨hk.1.1.1, hk.1.1.2, hk.1.2, hk.2⟩
structure SeNo (L : List Bool) (late : Nat) (Y : Wd) : Prop where
  st : statusM Y 0 = 2
  ask : askN Y ((Y.ins 1).getD (0, 0, 0, 0)) = 0
  rd : (execM Y 1 0).2.2 = [0]
  each : ∀ i, i < L.length → ((execM Y 1 0).1.ch (i : Int)).R.length = 0 ∧ ((execM Y 1 0).1.ch (i : Int)).buf.length = 0
  r2 : ((execM Y 1 0).1.g 0).rg 2 = 5
  r3 : ((execM Y 1 0).1.g 0).rg 3 = (late : Int)
  st2 : statusM (execM Y 1 0).1 0 = 1
theorem seY_no {L : List Bool} {late : Nat} (h : SeF L late) (h0 : (seCan 0 L).length = 0) (d : Nat) : SeNo L late (seY L late d) := by
  have hk := h.no h0
  have e : (execM (seX L late (seK L)) 0 0).1 = seY L late d := by unfold seY; rw [if_pos h0]
  unfold seNo at hk
  simp only [Bool.and_eq_true, List.all_eq_true, List.mem_range, beq_iff_eq] at hk
  rw [e] at hk
  obtain ⟨⟨⟨⟨⟨⟨k1, k2⟩, k3⟩, k4⟩, k5⟩, k6⟩, k7⟩ := hk
  exact ⟨k1, k2, k3, k4, k5, k6, k7⟩
end Go.Proofs.YtjidcagklakjaaaGreat
/-
  Draws that keep boxes; a program in a box.
-/
open Go Go.RowKit
set_option linter.unusedVariables false
namespace Go.Proofs.YtjidcagklakjaaaGreat
theorem cells_of {w : World} {b : Nat} {cs : List Value} (h : Blk w b cs) : CellsAt w (some ⟨b, 0, none⟩) cs := fun j v hj => ⟨b, 0, rfl, by rw [Nat.zero_add]; exact (h j v hj).1⟩
theorem i4s_app (l m : List In4) : i4s (l ++ m) = i4s l ++ i4s m := by unfold i4s; rw [List.flatMap_append]
theorem Own.keep {w0 w : World} {As Bs : List Asr} (h : Own w0 w (As ++ Bs)) : Own w0 w As := (h.perm List.perm_append_comm).dropL
theorem Own.join {w0 w w' : World} {As : List Asr} {A : Asr} (h : Own w0 w As) (k : Own w w' [A]) : Own w0 w' (A :: As) := by
  obtain ⟨F, h1, h2⟩ := k.head
  exact h.add k.bel h1 h2
theorem DAt.tail {w0 w : World} {p : Nat} {T : List Value} {d : Dq} {W : Wd} {Z R : List Asr} (h : DAt w0 w p T d W [] (Z ++ R)) :
    ∃ S, Own w0 w (R ++ S) ∧ ∀ w' R', Own w0 w' (R' ++ S) → DAt w0 w' p T d W [] (Z ++ R') := by
  obtain ⟨D, ra, rc, hf, ho⟩ := h
  refine ⟨wparts p W D T ++ (CelA d.q (dcells p (d.g : Int) d.x d.th d.dr d.go ra ([] : List Int).length rc) :: RowGA 1 ra rc ([] : List Int).length (intc []) :: Z), ho.perm ?_, fun w' R' h' => ⟨D, ra, rc, hf, h'.perm ?_⟩⟩
  · have := (List.perm_append_comm (l₁ := wparts p W D T ++ (CelA d.q (dcells p (d.g : Int) d.x d.th d.dr d.go ra ([] : List Int).length rc) :: RowGA 1 ra rc ([] : List Int).length (intc []) :: Z)) (l₂ := R))
    simpa [List.append_assoc] using this
  · have := (List.perm_append_comm (l₁ := R') (l₂ := wparts p W D T ++ (CelA d.q (dcells p (d.g : Int) d.x d.th d.dr d.go ra ([] : List Int).length rc) :: RowGA 1 ra rc ([] : List Int).length (intc []) :: Z)))
    simpa [List.append_assoc] using this
end Go.Proofs.YtjidcagklakjaaaGreat
/-
  The law's awake: a world of one function, twice on.
-/
open Go Go.RowKit
set_option linter.unusedVariables false
namespace Go.Proofs.YtjidcagklakjaaaGreat
def awW : Wd := newM [[(20, 0, 0, 0), (10, 0, 0, 0)]] [] [] 0
def awW1 (v : Int) : Wd := (execM awW 0 v).1
theorem aw_ins : awW.ins 0 = some (20, 0, 0, 0) := rfl
theorem aw_wf : WF 0 awW := newM_wf ⟨by decide, by decide, by decide, by decide, fun k hk => by simp at hk, by decide, by decide⟩
theorem aw_ok : ExecOk awW 0 := aw_wf.execOk (by omega) (by decide)
theorem aw_1 (v : Int) : execM awW 0 v = ((execM awW 0 0).1, true, []) := rfl
theorem aw_ins1 : (awW1 0).ins 0 = some (10, 0, 0, 0) := rfl
theorem aw_ok1 : ExecOk (awW1 0) 0 := (aw_wf.exec (by omega) 0 0).1.execOk (by decide) (by decide)
theorem aw_2 (v : Int) : (execM (awW1 0) 0 v).2 = (false, []) ∧ (execM (awW1 0) 0 v).1.en = 1 ∧ (execM (awW1 0) 0 v).1.out = [0] ∧ statusM (execM (awW1 0) 0 v).1 0 = 4 := ⟨rfl, rfl, rfl, rfl⟩
set_option maxRecDepth 100000 in
set_option maxHeartbeats 4000000 in
theorem awake16_any (w : World) : Calls Tryz.prog 8 #[] w fun r w' => r = .returned (.bool true) ∧ Below w.heap.size w w' := by
  go_enter Tryz.func8, Tryz.ntmps8
  go_wp2_with fail
  have hp : ProgIn ((w.alloc (.cells #[.int .i64 20, .int .i64 0, .int .i64 0, .int .i64 0, .int .i64 10, .int .i64 0, .int .i64 0, .int .i64 0] 73)).alloc (.cells #[.slice (some ⟨w.heap.size, 0, none⟩) 2 2] 70)) (some ⟨w.heap.size + 1, 0, none⟩) [(some ⟨w.heap.size, 0, none⟩, 2)] [[(20, 0, 0, 0), (10, 0, 0, 0)]] none [] none 0 [] := by
    refine ⟨CellsAt.new _ [.slice (some ⟨w.heap.size, 0, none⟩) 2 2] _ (by simp), rfl, fun i r l hr hl => ?_, CellsAt.nil _ _, CellsAt.nil _ _, fun _ => rfl, by decide, by decide, by decide⟩
    cases i with
    | zero =>
      simp at hr hl
      subst hr hl
      exact ⟨(CellsAt.new w [.int .i64 20, .int .i64 0, .int .i64 0, .int .i64 0, .int .i64 10, .int .i64 0, .int .i64 0, .int .i64 0] _ rfl).below (below_alloc1 _ _), (fun h => by cases h), by decide⟩
    | succ i => simp at hr
  have hbw : Below w.heap.size w ((w.alloc (.cells #[.int .i64 20, .int .i64 0, .int .i64 0, .int .i64 0, .int .i64 10, .int .i64 0, .int .i64 0, .int .i64 0] 73)).alloc (.cells #[.slice (some ⟨w.heap.size, 0, none⟩) 2 2] 70)) := below_on (below_alloc1 _ _) (below_alloc1 _ _)
  refine (wnew_any _ _ 1 _ _ none 0 [] 0 none 0 [] hp (by decide)).mono ?_
  rintro r w3 ⟨b, D, rfl, hf, ho⟩
  clear hp
  generalize ((w.alloc (.cells #[.int .i64 20, .int .i64 0, .int .i64 0, .int .i64 0, .int .i64 10, .int .i64 0, .int .i64 0, .int .i64 0] 73)).alloc (.cells #[.slice (some ⟨w.heap.size, 0, none⟩) 2 2] 70)) = w2 at *
  have HB := Lib.hid hbw
  clear hbw
  have en : ∀ (args : Array Value) (w : World), (callFunc 31 args).run Tryz.prog w = .ok (.enter 31 args) w := fun _ _ => by kernel_rfl
  have HX : Hid (Calls Tryz.prog 16 #[.pointer (some ⟨b, 0, none⟩), .int .i64 0, .func (.func 31) #[] #[]] w3 fun r w' => ∃ a c D', r = .returned (.agg #[.bool true, .slice a 0 c]) ∧ D'.fits (awW1 0) ∧ Own w2 w' (wparts b (awW1 0) D' [] ++ [])) := Lib.hid (by
    refine (exec_all (Qd := fun _ _ => False) (Qp := fun _ _ => False) (R := []) (by rw [List.append_nil]; exact ho) hf 0 aw_ok en (fun h => absurd h (by show ¬ 1 ≤ askN awW ((awW.ins 0).getD (0, 0, 0, 0)); rw [aw_ins]; decide))).mono (fun r w' hh => ?_)
    rcases hh with ⟨v, R', D', ra, rc, hq, h1, h2, h3⟩ | ⟨D', ch, R', h1, h2, h3, -⟩
    · rcases hq with ⟨-, rfl⟩ | ⟨-, h⟩
      · exact ⟨ra, rc, D', h1, h2, h3.drop⟩
      · exact h.elim
    · exact h3.elim)
  have HY : Hid (∀ (wx : World) (D' : Wa), D'.fits (awW1 0) → Own w2 wx (wparts b (awW1 0) D' [] ++ []) → Calls Tryz.prog 16 #[.pointer (some ⟨b, 0, none⟩), .int .i64 0, .func (.func 31) #[] #[]] wx fun r w' => ∃ a c D', r = .returned (.agg #[.bool false, .slice a 0 c]) ∧ D'.fits (execM (awW1 0) 0 0).1 ∧ Own w2 w' (wparts b (execM (awW1 0) 0 0).1 D' [] ++ [])) := Lib.hid (fun wx D hf ho => by
    refine (exec_all (Qd := fun _ _ => False) (Qp := fun _ _ => False) (R := []) ho hf 0 aw_ok1 en (fun h => absurd h (by show ¬ 1 ≤ askN (awW1 0) (((awW1 0).ins 0).getD (0, 0, 0, 0)); rw [aw_ins1]; decide))).mono (fun r w' hh => ?_)
    rcases hh with ⟨v, R', D', ra, rc, hq, h1, h2, h3⟩ | ⟨D', ch, R', h1, h2, h3, -⟩
    · rcases hq with ⟨-, rfl⟩ | ⟨-, h⟩
      · exact ⟨ra, rc, D', h1, h2, h3.drop⟩
      · exact h.elim
    · exact h3.elim)
  obtain ⟨f1, f2, f3, f4⟩ := aw_2 0
  generalize (execM (awW1 0) 0 0).1 = X2 at *
  generalize awW1 0 = X1 at *
  clear hf ho en f1
  go_wp2_with fail
  refine HX.out.mono ?_
  rintro r w4 ⟨a4, c4, D4, rfl, hf4, ho4⟩
  have HZ := Lib.hid (HY.out _ _ hf4 ho4)
  clear hf4 ho4 HX HY
  go_wp2_with fail
  refine HZ.out.mono ?_
  rintro r w5 ⟨a5, c5, D5, rfl, hf5, ho5⟩
  clear HZ
  go_wp2_with fail
  have o6 : Own w2 ((w5.alloc (.cells #[.bool true, .slice a4 0 c4] 65)).alloc (.cells #[.bool false, .slice a5 0 c5] 65)) (CelA (w5.heap.size + 1) [.bool false, .slice a5 0 c5] :: CelA w5.heap.size [.bool true, .slice a4 0 c4] :: (wparts b X2 D5 [] ++ [])) := (ho5.alloc [.bool true, .slice a4 0 c4] 65 rfl).alloc [.bool false, .slice a5 0 c5] 65 (by simp)
  clear ho5
  generalize ((w5.alloc (.cells #[.bool true, .slice a4 0 c4] 65)).alloc (.cells #[.bool false, .slice a5 0 c5] 65)) = w6 at *
  generalize w5.heap.size + 1 = q1 at *
  generalize w5.heap.size = q0 at *
  have H6 := Lib.hid o6
  have HF5 := Lib.hid hf5
  have HE := Lib.hid (wend_any (p := b) (D := D5) (T := []) (Y := []) (W := X2) (o6.drop.drop))
  clear o6 hf5
  refine HE.out.mono ?_
  rintro r w7 ⟨rfl, k7, hw7⟩
  have H7 := Lib.hid (H6.out.q1 hw7)
  clear hw7 HE H6
  rw [f2]
  have HO := Lib.hid (wout_any (p := b) (D := D5) (T := []) (Y := []) (W := X2) H7.out.drop.drop (by rw [f3]; decide))
  rw [f3] at HO
  go_wp2_with fail
  refine HO.out.mono ?_
  rintro r w8 ⟨ao, co, rfl, hrow, -, hb8⟩
  obtain ⟨bo, oo, rfl, hco⟩ := hrow.cells 0 (.int .i64 0) rfl
  have hco0 : w8.cell? ⟨bo, oo, none⟩ = some (.int .i64 0) := hco
  clear hco
  have o8 := H7.out.step hb8
  have HS := Lib.hid (status_any (p := b) (D := D5) (T := []) (Y := []) (W := X2) o8.drop.drop HF5.out 0)
  rw [f4] at HS
  have z1 := (o8.cel 0 rfl 0 _ rfl).1
  have z0 := (o8.cel 1 rfl 0 _ rfl).1
  have HBEL := Lib.hid (below_on HB.out o8.bel)
  clear o8 H7 HO hrow hb8 HF5
  go_wp2_with fail
  refine HS.out.mono ?_
  rintro r w9 ⟨rfl, rfl⟩
  clear HS
  go_wp2
  go_ret
  exact ⟨rfl, HBEL.out⟩
end Go.Proofs.YtjidcagklakjaaaGreat
/-
  Slices of texts, and of truths, that came in: from the reading of an argument. No program is named here.
-/
open Go Go.RowKit Go.Deep Go.WideShapes Go.ChangeShapes
set_option linter.unusedVariables false
namespace Go.Proofs.YtjidcagklakjaaaGreat
/-- What a walk is told of a slice of texts that came in. -/
def IsStrs (w : World) (a : Option Addr) (len cap : Nat) (l : List ByteArray) : Prop :=
  len = l.length ∧ len ≤ cap ∧ cap ≤ maxLen ∧ StrsAt w a l ∧ ∀ s ∈ l, s.size ≤ maxLen
theorem isStrs_of {H : Type} {enc : TypeId × Value → H} {P : Program} {w : World} {base : Nat} {spare : Nat → Bool} {held : Bool} {t e : TypeId} {fuel : Nat} {a : Option Addr} {len cap : Nat} {x : DataW H × List MemPlace}
    (ht : P.underlying t = some (.slice e)) (he : P.underlying e = some .string) (ce : P.cellsOf e = 1) (h : DataW.trod enc P w base spare held fuel t [.slice a len cap] = some x) : ∃ l, IsStrs w a len cap l := by
  rcases open_strings ht he ce h with ⟨hcs, _⟩ | ⟨b, l', c', ss, hcs, _, hl, hm, hss, _, hi, hz⟩
  · simp at hcs
    obtain ⟨rfl, rfl, rfl⟩ := hcs
    exact ⟨[], rfl, Nat.le_refl _, Nat.zero_le _, fun i h => by simp at h, fun r hr => by simp at hr⟩
  · simp at hcs
    obtain ⟨rfl, rfl, rfl⟩ := hcs
    have hlm : len ≤ ss.length := by rw [hss]; split <;> omega
    refine ⟨ss.take len, by rw [List.length_take]; omega, hl, hm, fun i h => ?_, fun s hs => hz s (List.mem_of_mem_take hs)⟩
    have hil : i < len := by rw [List.length_take] at h; omega
    have h1 := hi i (by omega)
    obtain ⟨bb, off, spot⟩ := b
    obtain rfl : spot = none := by simpa [Addr.add] using World.cell?_spot (hi 0 (by omega))
    rw [Go.WideShapes.add_plain] at h1
    exact ⟨bb, off, rfl, by rw [h1, List.getElem_take, List.getD_eq_getElem?_getD, List.getElem?_eq_getElem (by omega)]; rfl⟩
/-- Truths in memory, behind one another, from a on. -/
def BoolsAt (w : World) (a : Option Addr) (l : List Bool) : Prop :=
  ∀ i (h : i < l.length), ∃ b off, a = some ⟨b, off, none⟩ ∧ w.cell? ⟨b, off + i, none⟩ = some (.bool l[i])
theorem BoolsAt.below {w w' : World} {a : Option Addr} {l : List Bool} (h : BoolsAt w a l) (hb : Below w.heap.size w w') : BoolsAt w' a l := fun i hi => by
  obtain ⟨b, off, h1, h2⟩ := h i hi
  exact ⟨b, off, h1, cell_below h2 hb⟩
def IsBools (w : World) (a : Option Addr) (len cap : Nat) (l : List Bool) : Prop :=
  len = l.length ∧ len ≤ cap ∧ cap ≤ maxLen ∧ BoolsAt w a l
theorem isBools_of {H : Type} {enc : TypeId × Value → H} {P : Program} {w : World} {base : Nat} {held : Bool} {t e : TypeId} {fuel : Nat} {a : Option Addr} {len cap : Nat} {x : DataW H × List MemPlace}
    (ht : P.underlying t = some (.slice e)) (he : P.underlying e = some .bool) (ce : P.cellsOf e = 1) (h : DataW.trod enc P w base (fun _ => true) held fuel t [.slice a len cap] = some x) : ∃ l, IsBools w a len cap l := by
  rcases open_bools ht he ce h with ⟨hcs, _⟩ | ⟨b, l', c', B, hcs, _, hl, hm, _, hi⟩
  · simp at hcs
    obtain ⟨rfl, rfl, rfl⟩ := hcs
    exact ⟨[], rfl, Nat.le_refl _, Nat.zero_le _, fun i h => by simp at h⟩
  · simp at hcs
    obtain ⟨rfl, rfl, rfl⟩ := hcs
    refine ⟨(List.range len).map B, by simp, hl, hm, fun i h => ?_⟩
    have hil : i < len := by simpa using h
    have h1 := hi i (by omega)
    obtain ⟨bb, off, spot⟩ := b
    obtain rfl : spot = none := by simpa [Addr.add] using World.cell?_spot (hi 0 (by omega))
    rw [Go.WideShapes.add_plain] at h1
    exact ⟨bb, off, rfl, by rw [h1]; simp⟩
end Go.Proofs.YtjidcagklakjaaaGreat
/-
  The walk of the law WorldSelects.
-/
open Go Go.RowKit
set_option linter.unusedVariables false
namespace Go.Proofs.YtjidcagklakjaaaGreat.worldSelects
theorem fld3 (a b c : Value) (k : Bool) (w : World) : (Instr.field 88 (.agg #[a, b, c, .bool k]) 3).run Tryz.prog w = .ok (.bool k) w := by kernel_rfl
theorem fld2 (a b c : Value) (k : Bool) (w : World) : (Instr.field 88 (.agg #[a, b, c, .bool k]) 2).run Tryz.prog w = .ok c w := by kernel_rfl
theorem fld0 (a b c : Value) (k : Bool) (w : World) : (Instr.field 88 (.agg #[a, b, c, .bool k]) 0).run Tryz.prog w = .ok a w := by kernel_rfl
set_option maxRecDepth 100000 in
set_option maxHeartbeats 4000000 in
theorem pick_any {w0 w : World} {qa qd : Nat} {a d n kind : Int} {S : List Asr} (h : Own w0 w (CelA qa [.int .i64 a] :: CelA qd [.int .i64 d] :: S)) (hn : 1 ≤ n ∧ n ≤ 1000) (hd : 0 ≤ d ∧ d ≤ 255) :
    Calls Tryz.prog 23 #[.int .i64 kind, .int .i64 n, .pointer (some ⟨qa, 0, none⟩), .pointer (some ⟨qd, 0, none⟩)] w fun r w' => r = .returned (.int .i64 (d % n)) ∧ Own w0 w' (CelA qa [.int .i64 n] :: CelA qd [.int .i64 d] :: S) := by
  obtain ⟨c0, f0⟩ := h.cel 0 rfl 0 _ rfl
  have h1 := h.set 0 (.int .i64 n)
  obtain ⟨c1, -⟩ := h1.cel 1 rfl 0 _ rfl
  have H1 := Lib.hid h1
  have hne : (n == 0) = false := by rw [beq_eq_false_iff_ne]; omega
  have hn0 : n ≠ 0 := by omega
  have hdn : d.tmod n = d % n := Int.tmod_eq_emod_of_nonneg hd.1
  clear h h1
  go_enter Tryz.func23, Tryz.ntmps23
  go_wp2_with fail
  go_ret
  exact ⟨rfl, H1.out⟩
theorem pick_draw {w0 : World} {p : Nat} {T : List Value} {W : Wd} {qa qd : Nat} {a d kind : Int} {n : Nat} {Y : List Asr} (hn : 1 ≤ n ∧ n ≤ 1000) (hd : 0 ≤ d ∧ d ≤ 255) :
    DrawOk w0 p T W 23 #[] #[.pointer (some ⟨qa, 0, none⟩), .pointer (some ⟨qd, 0, none⟩)] kind (n : Int) (CelA qa [.int .i64 a] :: CelA qd [.int .i64 d] :: Y)
      (fun v R' => v = d % (n : Int) ∧ R' = CelA qa [.int .i64 (n : Int)] :: CelA qd [.int .i64 d] :: Y) (fun _ _ => False) := fun Z dq w' hD => by
  obtain ⟨S, h1, h2⟩ := hD.tail
  show Calls Tryz.prog 23 #[.int .i64 kind, .int .i64 (n : Int), .pointer (some ⟨qa, 0, none⟩), .pointer (some ⟨qd, 0, none⟩)] w' _
  refine (pick_any (n := (n : Int)) h1 (by omega) hd).mono (fun r w'' hh => .inl ⟨_, _, hh.1, ⟨rfl, rfl⟩, h2 _ _ hh.2⟩)
/-- Exec by that draw. -/
theorem exec_pick {w0 w : World} {b : Nat} {W : Wd} {B qa qd : Nat} {a d : Int} {Y : List Asr} (h : Own w0 w (WldA b W [] :: CelA qa [.int .i64 a] :: CelA qd [.int .i64 d] :: Y)) (wf : WF B W) (hB : B ≤ 80000) (g : Int) (hd : 0 ≤ d ∧ d ≤ 255) (m : Nat) (hm : m ≤ 1000) (hl : m = 0 ∨ W.lets g) (hask : askN W ((W.ins g.toNat).getD (0, 0, 0, 0)) = m) :
    Calls Tryz.prog 16 #[.pointer (some ⟨b, 0, none⟩), .int .i64 g, .func (.func 23) #[] #[.pointer (some ⟨qa, 0, none⟩), .pointer (some ⟨qd, 0, none⟩)]] w fun r w' => ∃ ra rc, r = .returned (.agg #[.bool (execM W g (if m = 0 then 0 else d % (m : Int))).2.1, .slice ra (execM W g (if m = 0 then 0 else d % (m : Int))).2.2.length rc]) ∧
      Own w0 w' (RowGA 1 ra rc (execM W g (if m = 0 then 0 else d % (m : Int))).2.2.length (intc (execM W g (if m = 0 then 0 else d % (m : Int))).2.2) :: WldA b (execM W g (if m = 0 then 0 else d % (m : Int))).1 [] :: CelA qa [.int .i64 (if m = 0 then a else (m : Int))] :: CelA qd [.int .i64 d] :: Y) := by
  have en : ∀ (args : Array Value) (w : World), (callFunc 23 args).run Tryz.prog w = .ok (.enter 23 args) w := fun _ _ => by kernel_rfl
  refine (exec_w (fst := #[]) (cap := #[.pointer (some ⟨qa, 0, none⟩), .pointer (some ⟨qd, 0, none⟩)]) (Qd := fun v R' => v = d % (m : Int) ∧ R' = CelA qa [.int .i64 (m : Int)] :: CelA qd [.int .i64 d] :: Y) (Qp := fun _ _ => False) h wf hB g en (fun _ h1 => by
    rw [hask] at h1 ⊢
    exact pick_draw ⟨h1, hm⟩ hd)).mono (fun r w' hh => ?_)
  rcases hh with ⟨v, R', ra, rc, hq, h1, h2⟩ | ⟨ch, R', h1, h2, h3, h4⟩
  · rcases hq with ⟨hn, rfl⟩ | ⟨⟨-, h3⟩, rfl, rfl⟩
    · have h0 : m = 0 := by
        rcases hn with hn | hn
        · rcases hl with hl | hl
          · exact hl
          · exact absurd hl hn
        · rw [hask] at hn; exact hn
      have e : execM W g v = execM W g 0 := execM_none wf (fun _ => by rw [hask]; exact h0) v 0
      rw [e] at h1 h2
      rw [if_pos h0, if_pos h0]
      exact ⟨ra, rc, h1, h2⟩
    · rw [hask] at h3
      rw [if_neg (by omega), if_neg (by omega)]
      exact ⟨ra, rc, h1, h2⟩
  · exact h3.elim
theorem rows_prog {w : World} {a : Option Addr} {cap : Nat} {L : List Bool} {late c1 cf : Nat} (h0 : CellsAt w a (i4s (seMain L))) (hn : a = none → cap = 0) (h1 : CellsAt w (some ⟨c1, 0, none⟩) (i4s [(13, (late : Int), 0, 0), (10, 0, 0, 0)])) (hl : L.length < 7)
    (hf : CellsAt w (some ⟨cf, 0, none⟩) [.slice a (seMain L).length cap, .slice (some ⟨c1, 0, none⟩) 2 2]) {ra : Option Addr} (hc : CellsAt w ra (intc (seRooms L.length))) {ka : Option Addr} {kc : Nat} (hk : CellsAt w ka (c3s (seKs L.length))) (hkn : ka = none → kc = 0) :
    ProgIn w (some ⟨cf, 0, none⟩) [(a, cap), (some ⟨c1, 0, none⟩, 2)] (seFs L late) ra (seRooms L.length) ka kc (seKs L.length) := by
  refine ⟨hf, rfl, fun i r l hr hl2 => ?_, hc, hk, hkn, by rw [seKs_len]; omega, by show 2 ≤ 1000; omega, by rw [seRooms_len]; omega⟩
  match i with
  | 0 => simp [seFs] at hr hl2; subst hr hl2; exact ⟨h0, hn, by rw [seMain_len]; have := seK_le hl; omega⟩
  | 1 => simp [seFs] at hr hl2; subst hr hl2; exact ⟨h1, (fun h => by cases h), by show 2 ≤ 1000000; omega⟩
  | i + 2 => simp at hr
theorem intc_rep (i : Nat) : intc (List.replicate (i + 1) 1) = intc (List.replicate i 1) ++ [.int .i64 1] := by rw [List.replicate_succ']; unfold intc; rw [List.map_append]; rfl
theorem c3s_app (l m : List Cs3) : c3s (l ++ m) = c3s l ++ c3s m := by unfold c3s; rw [List.flatMap_append]
def canI (L : List Bool) : List Int := (seCan 0 L).map fun (i : Nat) => (i : Int)
set_option maxRecDepth 100000 in
set_option maxHeartbeats 8000000 in
theorem walk (a0 : Option Addr) (len0 cap0 : Nat) (l0 : List Bool) (a1 a2 : Int) (w : World) (w0 : IsBools w a0 len0 cap0 l0) (w1 : (Lit.int .i64 a1).wf = true) (w2 : (Lit.int .i64 a2).wf = true) :
    Calls Tryz.prog 6 #[.slice a0 len0 cap0, .int .i64 a1, .int .i64 a2] w fun e w' => e = .returned (.bool true) ∧ Below w.heap.size w w' := by
  obtain ⟨e0, hlc, hcm, hbools⟩ := w0
  clear w1 w2
  obtain ⟨n, hn⟩ : ∃ n : Nat, n = min len0 6 := ⟨_, rfl⟩
  have hmin : (if 6 < (len0 : Int) then 6 else (len0 : Int)) = (n : Int) := by split <;> omega
  have hnl : n ≤ len0 := by omega
  have hn6 : n ≤ 6 := by omega
  obtain ⟨L, hL⟩ : ∃ L, L = l0.take n := ⟨_, rfl⟩
  have hfull : ∀ i (h : i < n), ∃ b off, a0 = some ⟨b, off, none⟩ ∧ w.cell? ⟨b, off + i, none⟩ = some (.bool (L.getD i false)) := fun i h => by
    obtain ⟨b, off, h1, h2⟩ := hbools i (by omega)
    refine ⟨b, off, h1, ?_⟩
    have e : L[i]? = some (l0[i]'(by omega)) := by rw [hL, List.getElem?_take, if_pos h, List.getElem?_eq_getElem (by omega)]
    rw [h2, List.getD_eq_getElem?_getD, e]; rfl
  have hLl : L.length = n := by rw [hL, List.length_take]; omega
  have HFULL := Lib.hid hfull
  have HLL := Lib.hid hLl
  clear hbools hfull e0 hL hLl
  obtain ⟨i0, hi0, hz0, hz1, hz2⟩ := info_parts info_ins
  have Hi := Lib.hid hi0; clear hi0
  have Hz0 := Lib.hid hz0; clear hz0
  have Hz1 := Lib.hid hz1; clear hz1
  have Hz2 := Lib.hid hz2; clear hz2
  obtain ⟨j0, hi0, hz0, hz1, hz2⟩ := info_parts info_int
  have Ji := Lib.hid hi0; clear hi0
  have Jz0 := Lib.hid hz0; clear hz0
  have Jz1 := Lib.hid hz1; clear hz1
  have Jz2 := Lib.hid hz2; clear hz2
  obtain ⟨k0, hi0, hz0, hz1, hz2⟩ := info_parts info_case
  have Ki := Lib.hid hi0; clear hi0
  have Kz0 := Lib.hid hz0; clear hz0
  have Kz1 := Lib.hid hz1; clear hz1
  have Kz2 := Lib.hid hz2; clear hz2
  have hO0 : Own w (w.alloc (.cells #[.int .i64 a1] 3)) [CelA w.heap.size [.int .i64 a1]] := (Own.nil (Below.refl _ _)).alloc _ _ rfl
  have HO := Lib.hid hO0; clear hO0
  go_enter Tryz.func6, Tryz.ntmps6
  go_wp2_with fail
  refine (awake16_any _).mono ?_
  rintro e w1 ⟨rfl, hb⟩
  have H1 := Lib.hid (HO.out.step hb); clear hb HO
  generalize w.heap.size = qd at *
  go_upto_region 4 with fail
  rw [← hn]
  clear hmin hn
  by_cases hn0 : n = 0
  · subst hn0
    go_wp2
    go_ret
    exact ⟨rfl, H1.out.bel⟩
  · have hnne : ((n : Int) == 0) = false := by rw [beq_eq_false_iff_ne]; omega
    have HN0 : Hid (n ≠ 0) := hn0
    go_upto_region 9 with fail
    have o2 : Own w (((w1.alloc (.cells #[.slice none 0 0, .slice none 0 0, .int .i64 0, .slice none 0 0] 35)).alloc (.cells #[.int .i64 1, .int .i64 1, .int .i64 5, .int .i64 0] 73)).alloc (.cells #[] 3))
        [RowGA 1 (some ⟨w1.heap.size + 1 + 1, 0, none⟩) 0 0 [], RowGA 4 (some ⟨w1.heap.size + 1, 0, none⟩) 1 1 [.int .i64 1, .int .i64 1, .int .i64 5, .int .i64 0], CelA w1.heap.size [.slice none 0 0, .slice none 0 0, .int .i64 0, .slice none 0 0], CelA qd [.int .i64 a1]] := by
      have o1 := H1.out.alloc [.slice none 0 0, .slice none 0 0, .int .i64 0, .slice none 0 0] 35 (b := w1.heap.size) rfl
      have o2 := o1.add (below_alloc1 _ (.cells #[.int .i64 1, .int .i64 1, .int .i64 5, .int .i64 0] 73)) (A := RowGA 4 (some ⟨w1.heap.size + 1, 0, none⟩) 1 1 [.int .i64 1, .int .i64 1, .int .i64 5, .int .i64 0]) (F := [w1.heap.size + 1]) ⟨rfl, RowG.new 4 1 _ [.int .i64 1, .int .i64 1, .int .i64 5, .int .i64 0] _ rfl (by simp [maxLen]) (by simp)⟩ (by intro x hx; simp at hx; subst hx; simp)
      exact o2.add (below_alloc1 _ (.cells #[] 3)) (A := RowGA 1 (some ⟨w1.heap.size + 1 + 1, 0, none⟩) 0 0 []) (F := [w1.heap.size + 1 + 1]) ⟨rfl, RowG.zero (by simp)⟩ (by intro x hx; simp at hx; subst hx; simp)
    generalize (((w1.alloc (.cells #[.slice none 0 0, .slice none 0 0, .int .i64 0, .slice none 0 0] 35)).alloc (.cells #[.int .i64 1, .int .i64 1, .int .i64 5, .int .i64 0] 73)).alloc (.cells #[] 3)) = w2 at *
    generalize w1.heap.size + 1 + 1 = b2 at *
    generalize w1.heap.size + 1 = b1 at *
    generalize w1.heap.size = pg at *
    have H2 : Hid (Own w w2 [CelA pg [.slice none 0 0, .slice none (List.replicate 0 (1 : Int)).length 0, .int .i64 0, .slice none (seKs 0).length 0], RowGA 1 none 0 (List.replicate 0 (1 : Int)).length (intc (List.replicate 0 1)), RowGA 3 none 0 (seKs 0).length (c3s (seKs 0)), RowGA 4 (some ⟨b1, 0, none⟩) 1 (seHead (L.take 0)).length (i4s (seHead (L.take 0))), RowGA 1 (some ⟨b2, 0, none⟩) 0 (seCan 0 (L.take 0)).length (intc (canI (L.take 0))), CelA qd [.int .i64 a1]]) := Lib.hid (by
      have h := ((((((((o2.pick 2 rfl).rowNil0 3).rowNil0 1).pick 5 rfl).pick 4 rfl).pick 5 rfl).pick 4 rfl).pick 4 rfl).pick 5 rfl
      exact h)
    clear o2
    go_wp2_with fail
    go_loopw [9, 10, 35] (fun mv cv iv wr => ∃ i : Nat, ∃ ma mc na nc ca cc ka kc, i ≤ n ∧ iv = .int .i64 i ∧ mv = .slice ma (seHead (L.take i)).length mc ∧ cv = .slice na (seCan 0 (L.take i)).length nc ∧ Hid (Own w wr [CelA pg [.slice none 0 0, .slice ca (List.replicate i (1 : Int)).length cc, .int .i64 0, .slice ka (seKs i).length kc], RowGA 1 ca cc (List.replicate i (1 : Int)).length (intc (List.replicate i 1)), RowGA 3 ka kc (seKs i).length (c3s (seKs i)), RowGA 4 ma mc (seHead (L.take i)).length (i4s (seHead (L.take i))), RowGA 1 na nc (seCan 0 (L.take i)).length (intc (canI (L.take i))), CelA qd [.int .i64 a1]])) (fun _ _ iv _ => n - (intOf iv).toNat)
    case atStart => exact ⟨0, some ⟨b1, 0, none⟩, 1, some ⟨b2, 0, none⟩, 0, none, 0, none, 0, by omega, rfl, rfl, rfl, H2⟩
    case round =>
      obtain ⟨i, ma, mc, na, nc, ca, cc, ka, kc, hi, rfl, rfl, rfl, hr⟩ := hrel
      rw [List.length_replicate, seKs_len] at hr
      by_cases hlt : i < n
      · have hli : (i : Int) < (n : Int) := by omega
        have hi0 : (0 : Int) ≤ (i : Int) := by omega
        obtain ⟨fb, fo, hfa, hfc⟩ := HFULL.out i hlt
        subst hfa
        have hll : (i : Int) < (len0 : Int) := by omega
        have hib : i < L.length := by rw [HLL.out]; exact hlt
        have htk : L.take (i + 1) = L.take i ++ [L.getD i false] := by rw [List.take_succ_eq_append_getElem hib, List.getD_eq_getElem?_getD, List.getElem?_eq_getElem hib]; rfl
        have htl : (L.take i).length = i := by rw [List.length_take]; omega
        have hcl : (seCan 0 (L.take i)).length ≤ 6 := by have := seCan_le (L.take i) 0; omega
        have hml : (seHead (L.take i)).length ≤ 7 := by unfold seHead; rw [List.length_cons, seSends_len]; omega
        have hS := seSends_snoc (L.take i) 0 (L.getD i false)
        have hC := seCan_snoc (L.take i) 0 (L.getD i false)
        rw [← htk, htl, Nat.zero_add] at hS hC
        have HS := Lib.hid hS
        have HC := Lib.hid hC
        clear hS hC htk htl hib
        generalize hB : L.getD i false = bit at *
        clear hB
        obtain ⟨m1, hm1⟩ : ∃ m1, m1 = (seHead (L.take i)).length := ⟨_, rfl⟩
        obtain ⟨m2, hm2⟩ : ∃ m2, m2 = (seCan 0 (L.take i)).length := ⟨_, rfl⟩
        rw [← hm1] at hml
        rw [← hm2] at hcl
        rw [← hm1, ← hm2] at hr ⊢
        have HM1 := Lib.hid hm1; clear hm1
        have HM2 := Lib.hid hm2; clear hm2
        obtain ⟨c1, -⟩ := hr.out.cel 0 rfl 1 _ rfl
        -- the channel
        have H3 := Lib.hid (hr.out.step (below_alloc1 wr (.cells #[.int .i64 1] 3)))
        clear hr
        go_wp2_with (at_builtin; go_loud (refine wpList_append_rowG rfl _ _ 23 rfl 3 j0 _ Tryz.underlying23 Ji.out Jz0.out Jz1.out Jz2.out rfl (by decide) (by decide) (n := i) (m := 1) (cs := intc (List.replicate i 1)) (ds := [.int .i64 1]) (by rfl) (by rfl) (H3.out.rowG 1 rfl) (CellsAt.new _ [.int .i64 1] _ rfl) rfl (by simp [Value.oneCell']) (by omega) ?_))
        intro a4 c4 w4 k4 ch4 f4
        have o4 := ((Own.rowTurn (H3.out.pick 1 rfl) k4 ch4 (fun x hx => by simpa using f4 x hx)).pick 1 rfl).setAt 0 rfl 1 (.slice a4 (i + 1) c4)
        obtain ⟨z1, y1⟩ := (Own.rowTurn (H3.out.pick 1 rfl) k4 ch4 (fun x hx => by simpa using f4 x hx)).cel 1 rfl 1 _ rfl
        have H4 := Lib.hid o4
        clear o4 k4 ch4 f4 H3
        go_upto_region 13 with fail
        generalize w4.setCell ⟨pg, 1, none⟩ (.slice a4 (i + 1) c4) = w5 at *
        clear z1 y1 c1
        obtain ⟨c3, -⟩ := H4.out.cel 0 rfl 3 _ rfl
        -- the case
        have H5 := Lib.hid (H4.out.step (below_alloc1 w5 (.cells #[.int .i64 0, .int .i64 (i : Int), .int .i64 2] 80)))
        clear H4
        go_wp2_with (at_builtin; go_loud (refine wpList_append_rowG rfl _ _ 33 rfl 80 k0 _ Tryz.underlying33 Ki.out Kz0.out Kz1.out Kz2.out rfl (by decide) (by decide) (n := i) (m := 1) (cs := c3s (seKs i)) (ds := [.int .i64 0, .int .i64 (i : Int), .int .i64 2]) (by rfl) (by rfl) (H5.out.rowG 2 rfl) (CellsAt.new _ [.int .i64 0, .int .i64 (i : Int), .int .i64 2] _ rfl) rfl (by simp [Value.oneCell']) (by omega) ?_))
        intro a6 c6 w6 k6 ch6 f6
        have o6 := Own.rowTurn (H5.out.pick 2 rfl) k6 ch6 (fun x hx => by simpa using f6 x hx)
        obtain ⟨z1, y1⟩ := o6.cel 1 rfl 3 _ rfl
        have o7 := (((o6.setAt 1 rfl 3 (.slice a6 (i + 1) c6)).pick 2 rfl).pick 2 rfl)
        have H7 : Hid (Own w (w6.setCell ⟨pg, 3, none⟩ (.slice a6 (i + 1) c6)) [CelA pg [.slice none 0 0, .slice a4 (i + 1) c4, .int .i64 0, .slice a6 (i + 1) c6], RowGA 1 a4 c4 (i + 1) (intc (List.replicate (i + 1) 1)), RowGA 3 a6 c6 (i + 1) (c3s (seKs (i + 1))), RowGA 4 ma mc m1 (i4s (seHead (L.take i))), RowGA 1 na nc m2 (intc (canI (L.take i))), CelA qd [.int .i64 a1]]) := Lib.hid (by
          rw [seKs_snoc, c3s_app, intc_rep]
          exact o7)
        clear o6 o7 k6 ch6 f6 H5 c3
        go_upto_region 14 with fail
        generalize w6.setCell ⟨pg, 3, none⟩ (.slice a6 (i + 1) c6) = w7 at *
        clear z1 y1
        have hfd := cell_below hfc H7.out.bel
        cases bit with
        | false =>
          have HE : Hid (Own w w7 [CelA pg [.slice none 0 0, .slice a4 (List.replicate (i + 1) (1 : Int)).length c4, .int .i64 0, .slice a6 (seKs (i + 1)).length c6], RowGA 1 a4 c4 (List.replicate (i + 1) (1 : Int)).length (intc (List.replicate (i + 1) 1)), RowGA 3 a6 c6 (seKs (i + 1)).length (c3s (seKs (i + 1))), RowGA 4 ma mc (seHead (L.take (i + 1))).length (i4s (seHead (L.take (i + 1)))), RowGA 1 na nc (seCan 0 (L.take (i + 1))).length (intc (canI (L.take (i + 1)))), CelA qd [.int .i64 a1]] ∧ (seHead (L.take (i + 1))).length = m1 ∧ (seCan 0 (L.take (i + 1))).length = m2) := Lib.hid (by
            have e1 : seHead (L.take (i + 1)) = seHead (L.take i) := by unfold seHead; rw [HS.out, if_neg (by decide), List.append_nil]
            have e2 : seCan 0 (L.take (i + 1)) = seCan 0 (L.take i) := by rw [HC.out, if_neg (by decide), List.append_nil]
            have e3 : canI (L.take (i + 1)) = canI (L.take i) := by unfold canI; rw [e2]
            rw [e1, e2, e3, ← HM1.out, ← HM2.out, List.length_replicate, seKs_len]
            exact ⟨H7.out, rfl, rfl⟩)
          clear H7 HS HC
          go_wp2
          refine ⟨⟨i + 1, ma, mc, na, nc, a4, c4, a6, c6, by omega, by go_num, by rw [HE.out.2.1], by rw [HE.out.2.2], HE.out.1⟩, by simp [intOf]; omega⟩
        | true =>
          have H8 := Lib.hid (H7.out.step (below_alloc1 w7 (.cells #[.int .i64 (i : Int)] 3)))
          clear H7
          go_wp2_with (at_builtin; go_loud (refine wpList_append_rowG rfl _ _ 23 rfl 3 j0 _ Tryz.underlying23 Ji.out Jz0.out Jz1.out Jz2.out rfl (by decide) (by decide) (n := m2) (m := 1) (cs := intc (canI (L.take i))) (ds := [.int .i64 (i : Int)]) (by rfl) (by rfl) (H8.out.rowG 4 rfl) (CellsAt.new _ [.int .i64 (i : Int)] _ rfl) rfl (by simp [Value.oneCell']) (by omega) ?_))
          intro a9 c9 w9 k9 ch9 f9
          have o9 := Own.rowTurn (H8.out.pick 4 rfl) k9 ch9 (fun x hx => by simpa using f9 x hx)
          have H9 := Lib.hid (o9.step (below_alloc1 w9 (.cells #[.int .i64 13, .int .i64 (i : Int), .int .i64 1, .int .i64 0] 73)))
          clear o9 k9 ch9 f9 H8
          go_wp2_with (at_builtin; go_loud (refine wpList_append_rowG rfl _ _ 70 rfl 73 i0 _ Tryz.underlying70 Hi.out Hz0.out Hz1.out Hz2.out rfl (by decide) (by decide) (n := m1) (m := 1) (cs := i4s (seHead (L.take i))) (ds := [.int .i64 13, .int .i64 (i : Int), .int .i64 1, .int .i64 0]) (by rfl) (by rfl) (H9.out.rowG 4 rfl) (CellsAt.new _ [.int .i64 13, .int .i64 (i : Int), .int .i64 1, .int .i64 0] _ rfl) rfl (by simp [Value.oneCell']) (by omega) ?_))
          intro a10 c10 w10 k10 ch10 f10
          have o10 := Own.rowTurn (H9.out.pick 4 rfl) k10 ch10 (fun x hx => by simpa using f10 x hx)
          have HE : Hid (Own w w10 [CelA pg [.slice none 0 0, .slice a4 (List.replicate (i + 1) (1 : Int)).length c4, .int .i64 0, .slice a6 (seKs (i + 1)).length c6], RowGA 1 a4 c4 (List.replicate (i + 1) (1 : Int)).length (intc (List.replicate (i + 1) 1)), RowGA 3 a6 c6 (seKs (i + 1)).length (c3s (seKs (i + 1))), RowGA 4 a10 c10 (seHead (L.take (i + 1))).length (i4s (seHead (L.take (i + 1)))), RowGA 1 a9 c9 (seCan 0 (L.take (i + 1))).length (intc (canI (L.take (i + 1)))), CelA qd [.int .i64 a1]] ∧ (seHead (L.take (i + 1))).length = m1 + 1 ∧ (seCan 0 (L.take (i + 1))).length = m2 + 1) := Lib.hid (by
            have e1 : seHead (L.take (i + 1)) = seHead (L.take i) ++ [(13, (i : Int), 1, 0)] := by unfold seHead; rw [HS.out, if_pos trivial]; rfl
            have e2 : seCan 0 (L.take (i + 1)) = seCan 0 (L.take i) ++ [i] := by rw [HC.out, if_pos trivial]
            have e3 : intc (canI (L.take (i + 1))) = intc (canI (L.take i)) ++ [.int .i64 (i : Int)] := by unfold canI; rw [e2, List.map_append]; unfold intc; rw [List.map_append]; rfl
            rw [e3, e1, e2, i4s_app, List.length_append, List.length_append, ← HM1.out, ← HM2.out, List.length_replicate, seKs_len]
            refine ⟨?_, rfl, rfl⟩
            exact (((((o10.pick 5 rfl).pick 2 rfl).pick 2 rfl).pick 5 rfl).pick 5 rfl).pick 5 rfl)
          clear o10 k10 ch10 f10 H9 HS HC
          go_wp2
          refine ⟨⟨i + 1, a10, c10, a9, c9, a4, c4, a6, c6, by omega, by go_num, by rw [HE.out.2.1], by rw [HE.out.2.2], HE.out.1⟩, by simp [intOf]; omega⟩
      · obtain rfl : i = n := by omega
        have htk : L.take i = L := by rw [← HLL.out, List.take_length]
        rw [htk] at hr ⊢
        obtain ⟨late, hlt1, hlt2, -⟩ := small_of a2 i (by omega)
        have hine : (i : Int) ≠ 0 := by omega
        obtain ⟨m1, hm1⟩ : ∃ m1, m1 = (seHead L).length := ⟨_, rfl⟩
        obtain ⟨m2, hm2⟩ : ∃ m2, m2 = (seCan 0 L).length := ⟨_, rfl⟩
        have hcl : m2 ≤ 6 := by have := seCan_le L 0; have := HLL.out; omega
        have hml : m1 ≤ 7 := by rw [hm1]; unfold seHead; rw [List.length_cons, seSends_len]; omega
        rw [← hm1, ← hm2] at hr ⊢
        have HM1 := Lib.hid hm1; clear hm1
        have HM2 := Lib.hid hm2; clear hm2
        clear htk
        go_upto_region 19 with fail
        clear hlt1
        have H3 := Lib.hid (hr.out.step (below_alloc1 wr (.cells #[.int .i64 11, .int .i64 1, .int .i64 1, .int .i64 6, .int .i64 16, .int .i64 0, .int .i64 (i : Int), .int .i64 3, .int .i64 12, .int .i64 0, .int .i64 0, .int .i64 0] 73)))
        clear hr
        go_wp2_with (at_builtin; go_loud (refine wpList_append_rowG rfl _ _ 70 rfl 73 i0 _ Tryz.underlying70 Hi.out Hz0.out Hz1.out Hz2.out rfl (by decide) (by decide) (n := m1) (m := 3) (cs := i4s (seHead L)) (ds := [.int .i64 11, .int .i64 1, .int .i64 1, .int .i64 6, .int .i64 16, .int .i64 0, .int .i64 (i : Int), .int .i64 3, .int .i64 12, .int .i64 0, .int .i64 0, .int .i64 0]) (by rfl) (by rfl) (H3.out.rowG 3 rfl) (CellsAt.new _ [.int .i64 11, .int .i64 1, .int .i64 1, .int .i64 6, .int .i64 16, .int .i64 0, .int .i64 (i : Int), .int .i64 3, .int .i64 12, .int .i64 0, .int .i64 0, .int .i64 0] _ rfl) rfl (by simp [Value.oneCell']) (by omega) ?_))
        intro a4 c4 w4 k4 ch4 f4
        have o4 := Own.rowTurn (H3.out.pick 3 rfl) k4 ch4 (fun x hx => by simpa using f4 x hx)
        have H4 : Hid (Own w w4 (RowGA 4 a4 c4 (m1 + 3) (i4s (seMain L)) :: [CelA pg [.slice none 0 0, .slice ca i cc, .int .i64 0, .slice ka i kc], RowGA 1 ca cc i (intc (List.replicate i 1)), RowGA 3 ka kc i (c3s (seKs i)), RowGA 1 na nc m2 (intc (canI L)), CelA qd [.int .i64 a1]])) := Lib.hid (by
          have e : i4s (seMain L) = i4s (seHead L) ++ [.int .i64 11, .int .i64 1, .int .i64 1, .int .i64 6, .int .i64 16, .int .i64 0, .int .i64 (i : Int), .int .i64 3, .int .i64 12, .int .i64 0, .int .i64 0, .int .i64 0] := by
            unfold seMain; rw [i4s_app, HLL.out]; rfl
          rw [e]; exact o4)
        clear o4 k4 ch4 f4 H3
        have o4 := (H4.out.alloc [.int .i64 13, .int .i64 (late : Int), .int .i64 0, .int .i64 0, .int .i64 10, .int .i64 0, .int .i64 0, .int .i64 0] 73 (b := w4.heap.size) rfl).alloc [.slice a4 (m1 + 3) c4, .slice (some ⟨w4.heap.size, 0, none⟩) 2 2] 70 (b := w4.heap.size + 1) (by simp)
        obtain ⟨z0, y0⟩ := o4.cel 3 rfl 0 _ rfl
        have hpgl : pg < w4.heap.size := (H4.out.cel 1 rfl).lt (by simp)
        have hpg1 : pg ≠ w4.heap.size := by omega
        have hpg2 : pg ≠ w4.heap.size + 1 := by omega
        obtain ⟨z9, y9⟩ := H4.out.cel 1 rfl 0 _ rfl
        have o5 := ((H4.out.setAt 1 rfl 0 (.slice (some ⟨w4.heap.size + 1, 0, none⟩) 2 2)).alloc [.int .i64 13, .int .i64 (late : Int), .int .i64 0, .int .i64 0, .int .i64 10, .int .i64 0, .int .i64 0, .int .i64 0] 73 (b := w4.heap.size) (by simp)).alloc [.slice a4 (m1 + 3) c4, .slice (some ⟨w4.heap.size, 0, none⟩) 2 2] 70 (b := w4.heap.size + 1) (by simp)
        have H5 : Hid (Own w (((w4.setCell ⟨pg, 0, none⟩ (.slice (some ⟨w4.heap.size + 1, 0, none⟩) 2 2)).alloc (.cells #[.int .i64 13, .int .i64 (late : Int), .int .i64 0, .int .i64 0, .int .i64 10, .int .i64 0, .int .i64 0, .int .i64 0] 73)).alloc (.cells #[.slice a4 (m1 + 3) c4, .slice (some ⟨w4.heap.size, 0, none⟩) 2 2] 70))
          [CelA (w4.heap.size + 1) [.slice a4 (m1 + 3) c4, .slice (some ⟨w4.heap.size, 0, none⟩) 2 2], CelA w4.heap.size [.int .i64 13, .int .i64 (late : Int), .int .i64 0, .int .i64 0, .int .i64 10, .int .i64 0, .int .i64 0, .int .i64 0], RowGA 4 a4 c4 (m1 + 3) (i4s (seMain L)), CelA pg [.slice (some ⟨w4.heap.size + 1, 0, none⟩) 2 2, .slice ca i cc, .int .i64 0, .slice ka i kc], RowGA 1 ca cc i (intc (List.replicate i 1)), RowGA 3 ka kc i (c3s (seKs i)), RowGA 1 na nc m2 (intc (canI L)), CelA qd [.int .i64 a1]]) := Lib.hid o5
        clear o5 H4 o4
        go_upto_region 21 with fail
        generalize (((w4.setCell ⟨pg, 0, none⟩ (.slice (some ⟨w4.heap.size + 1, 0, none⟩) 2 2)).alloc (.cells #[.int .i64 13, .int .i64 (late : Int), .int .i64 0, .int .i64 0, .int .i64 10, .int .i64 0, .int .i64 0, .int .i64 0] 73)).alloc (.cells #[.slice a4 (m1 + 3) c4, .slice (some ⟨w4.heap.size, 0, none⟩) 2 2] 70)) = w5 at *
        generalize w4.heap.size + 1 = cf at *
        generalize w4.heap.size = c1 at *
        clear z0 y0 z9 y9 hpgl hpg1 hpg2
        have hml2 : (seMain L).length = m1 + 3 := by unfold seMain; rw [List.length_append, HM1.out]; rfl
        have hL7 : L.length < 7 := by rw [HLL.out]; omega
        have HL7 := Lib.hid hL7
        have hP := rows_prog (w := w5) (L := L) (late := late) (H5.out.rowG 2 rfl).cells (H5.out.rowG 2 rfl).none0 (cells_of (H5.out.cel 1 rfl)) hL7 (by rw [hml2]; exact cells_of (H5.out.cel 0 rfl)) (by rw [HLL.out]; exact (H5.out.rowG 4 rfl).cells) (by rw [HLL.out]; exact (H5.out.rowG 5 rfl).cells) (H5.out.rowG 5 rfl).none0
        have HP := Lib.hid hP
        clear hP hL7
        obtain ⟨p0, -⟩ := H5.out.cel 3 rfl 0 _ rfl
        obtain ⟨p1, -⟩ := H5.out.cel 3 rfl 1 _ rfl
        obtain ⟨p2, -⟩ := H5.out.cel 3 rfl 2 _ rfl
        obtain ⟨p3, -⟩ := H5.out.cel 3 rfl 3 _ rfl
        have hnew := new_w w5 (some ⟨cf, 0, none⟩) 2 _ (seFs L late) ca cc (seRooms L.length) 0 ka kc (seKs L.length) HP.out (by omega)
        rw [seRooms_len, seKs_len, HLL.out] at hnew
        have HNEW := Lib.hid hnew
        clear hnew HP
        have hml3 : m1 + 3 = seK L + 2 := by rw [← hml2, seMain_len]
        have HML3 := Lib.hid hml3
        clear hml2 hml3
        go_wp2_with fail
        refine HNEW.out.mono ?_
        rintro r w6 ⟨b, rfl, ho⟩
        have ew : newM (seFs L late) (seKs i) (seRooms i) 0 = seW L late := by unfold seW; rw [HLL.out]
        rw [ew] at ho
        clear ew
        have H6 : Hid (Own w w6 [WldA b (seW L late) [], RowGA 1 na nc m2 (intc (canI L)), CelA qd [.int .i64 a1]]) := Lib.hid (Own.keep (As := [WldA b (seW L late) [], RowGA 1 na nc m2 (intc (canI L)), CelA qd [.int .i64 a1]]) (((H5.out.join ho).pick 8 rfl).pick 8 rfl |>.pick 2 rfl))
        clear ho HNEW H5 p0 p1 p2 p3
        obtain ⟨d, hd, hd2⟩ : ∃ d : Nat, bits BinOp.and IntKind.i64 a1 255 = (d : Int) ∧ d ≤ 255 := ⟨(a1 % 256).toNat, by rw [and_255]; omega, by omega⟩
        have H7 : Hid (Own w ((w6.setCell ⟨qd, 0, none⟩ (.int .i64 (d : Int))).alloc (.cells #[.int .i64 0] 3)) [CelA w6.heap.size [.int .i64 0], WldA b (seW L late) [], RowGA 1 na nc m2 (intc (canI L)), CelA qd [.int .i64 (d : Int)]]) := Lib.hid ((H6.out.setAt 2 rfl 0 (.int .i64 (d : Int))).alloc [.int .i64 0] 3 (by simp))
        obtain ⟨z0, y0⟩ := H6.out.cel 2 rfl 0 _ rfl
        clear H6
        go_upto_region 25 with fail
        generalize (w6.setCell ⟨qd, 0, none⟩ (.int .i64 (d : Int))).alloc (.cells #[.int .i64 0] 3) = w7 at *
        generalize w6.heap.size = qa at *
        clear z0 y0 hd
        have hL7 := HL7.out
        have hlate : late < L.length := by rw [HLL.out]; exact hlt2
        have HLATE := Lib.hid hlate
        have HF := Lib.hid (seF_of hL7 hlate)
        obtain ⟨K, hK⟩ : ∃ K, K = seK L := ⟨_, rfl⟩
        have hK8 : K ≤ 8 := by rw [hK]; exact seK_le hL7
        have hmk : m1 + 3 = K + 2 := by rw [hK]; exact HML3.out
        rw [hmk]
        have HK := Lib.hid hK
        have H8 : Hid (Own w w7 [WldA b (seX L late 0) [], CelA qa [.int .i64 0], CelA qd [.int .i64 (d : Int)], RowGA 1 na nc m2 (intc (canI L))]) := Lib.hid ((((H7.out.pick 2 rfl).pick 3 rfl).pick 2 rfl).pick 3 rfl)
        clear H7 hL7 hlate hK hmk HML3
        have HCK : Hid (m2 = (seCan 0 L).length) := HM2
        have HSTEP : Hid (∀ (wx : World) (k : Nat), k < K → Own w wx [WldA b (seX L late k) [], CelA qa [.int .i64 0], CelA qd [.int .i64 (d : Int)], RowGA 1 na nc m2 (intc (canI L))] → Calls Tryz.prog 16 #[.pointer (some ⟨b, 0, none⟩), .int .i64 0, .func (.func 23) #[] #[.pointer (some ⟨qa, 0, none⟩), .pointer (some ⟨qd, 0, none⟩)]] wx fun r w' => ∃ kp ra n2 rc, r = .returned (.agg #[.bool kp, .slice ra n2 rc]) ∧ Own w w' [WldA b (seX L late (k + 1)) [], CelA qa [.int .i64 0], CelA qd [.int .i64 (d : Int)], RowGA 1 na nc m2 (intc (canI L))]) := Lib.hid (fun wx k hk ho => by
          have hk' : k < seK L := by rw [← HK.out]; exact hk
          refine (exec_pick ho (seX_wf HL7.out HLATE.out k (by omega)).1 (by omega) 0 ⟨by omega, by omega⟩ 0 (by omega) (.inl rfl) (HF.out.ask k hk')).mono (fun r w' hh => ?_)
          obtain ⟨ra, rc, h1, h2⟩ := hh
          rw [if_pos rfl] at h1 h2
          exact ⟨_, ra, _, rc, h1, h2.drop⟩)
        have HLAST : Hid (∀ (wx : World), Own w wx [WldA b (seX L late K) [], CelA qa [.int .i64 0], CelA qd [.int .i64 (d : Int)], RowGA 1 na nc m2 (intc (canI L))] → Calls Tryz.prog 16 #[.pointer (some ⟨b, 0, none⟩), .int .i64 0, .func (.func 23) #[] #[.pointer (some ⟨qa, 0, none⟩), .pointer (some ⟨qd, 0, none⟩)]] wx fun r w' => ∃ kp ra n2 rc, r = .returned (.agg #[.bool kp, .slice ra n2 rc]) ∧ Own w w' [WldA b (seY L late d) [], CelA qa [.int .i64 (m2 : Int)], CelA qd [.int .i64 (d : Int)], RowGA 1 na nc m2 (intc (canI L))]) := Lib.hid (fun wx ho => by
          rw [HK.out] at ho
          refine (exec_pick ho (seX_wf HL7.out HLATE.out (seK L) (by have := seK_le HL7.out; omega)).1 (by omega) 0 ⟨by omega, by omega⟩ m2 (by omega) (.inr HF.out.lets) (HF.out.asks.trans HM2.out.symm)).mono (fun r w' hh => ?_)
          obtain ⟨ra, rc, h1, h2⟩ := hh
          refine ⟨_, ra, _, rc, h1, ?_⟩
          have e1 : (execM (seX L late (seK L)) 0 (if m2 = 0 then 0 else (d : Int) % (m2 : Int))).1 = seY L late d := by
            unfold seY; rw [HM2.out]; rfl
          have e2 : (if m2 = 0 then (0 : Int) else (m2 : Int)) = (m2 : Int) := by split <;> omega
          have h3 := h2.drop
          rw [e1, e2] at h3
          exact h3)
        clear HCK
        go_wp2_with fail
        go_loopw [90] (fun iv wr => ∃ k : Nat, k ≤ K + 1 ∧ iv = .int .i64 k ∧ Hid ((k ≤ K → Own w wr [WldA b (seX L late k) [], CelA qa [.int .i64 0], CelA qd [.int .i64 (d : Int)], RowGA 1 na nc m2 (intc (canI L))]) ∧ (k = K + 1 → Own w wr [WldA b (seY L late d) [], CelA qa [.int .i64 (m2 : Int)], CelA qd [.int .i64 (d : Int)], RowGA 1 na nc m2 (intc (canI L))]))) (fun iv _ => K + 1 - (intOf iv).toNat)
        case atStart => exact ⟨0, by omega, rfl, Lib.hid ⟨fun _ => H8.out, fun h => by omega⟩⟩
        case round =>
          obtain ⟨k, hk, rfl, hr⟩ := hrel
          clear H8
          by_cases hlk : k < K
          · have hlk2 : (k : Int) < (K : Int) + 1 := by omega
            have HX := Lib.hid (HSTEP.out _ k hlk (hr.out.1 (by omega)))
            clear hr
            go_wp2_with fail
            refine HX.out.mono ?_
            rintro r w8 ⟨kp, ra, n2, rc, rfl, ho⟩
            have HG := Lib.hid (show (k + 1 ≤ K → Own w w8 [WldA b (seX L late (k + 1)) [], CelA qa [.int .i64 0], CelA qd [.int .i64 (d : Int)], RowGA 1 na nc m2 (intc (canI L))]) ∧ (k + 1 = K + 1 → Own w w8 [WldA b (seY L late d) [], CelA qa [.int .i64 (m2 : Int)], CelA qd [.int .i64 (d : Int)], RowGA 1 na nc m2 (intc (canI L))]) from ⟨fun _ => ho, fun h => by omega⟩)
            clear ho HX
            go_wp2
            exact ⟨⟨k + 1, by omega, by go_num, HG⟩, by simp [intOf]; omega⟩
          · by_cases hlk3 : k = K
            · have hlk2 : (k : Int) < (K : Int) + 1 := by omega
              have HX := Lib.hid (HLAST.out wr (by have := hr.out.1 (by omega); rw [hlk3] at this; exact this))
              clear hr
              go_wp2_with fail
              refine HX.out.mono ?_
              rintro r w8 ⟨kp, ra, n2, rc, rfl, ho⟩
              have HG := Lib.hid (show (k + 1 ≤ K → Own w w8 [WldA b (seX L late (k + 1)) [], CelA qa [.int .i64 0], CelA qd [.int .i64 (d : Int)], RowGA 1 na nc m2 (intc (canI L))]) ∧ (k + 1 = K + 1 → Own w w8 [WldA b (seY L late d) [], CelA qa [.int .i64 (m2 : Int)], CelA qd [.int .i64 (d : Int)], RowGA 1 na nc m2 (intc (canI L))]) from ⟨fun h => by omega, fun _ => ho⟩)
              clear ho HX
              go_wp2
              exact ⟨⟨k + 1, by omega, by go_num, HG⟩, by simp [intOf]; omega⟩
            · obtain rfl : k = K + 1 := by omega
              have H9 := Lib.hid (hr.out.2 rfl)
              clear hr HSTEP HLAST
              have hYw := seY_wf HL7.out HLATE.out d
              have HYW := Lib.hid hYw
              have hYg : 1 ≤ (seY L late d).gs.length := hYw.1.g1.1
              by_cases hm0 : m2 = 0
              · subst hm0
                have hno := seY_no HF.out HM2.out.symm d
                have hw2 := hYw.1.exec (by omega) 1 0
                have hks : (seY L late d).ks.length = i := by rw [hYw.2.ks]; show (seKs _).length = _; rw [seKs_len]; exact HLL.out
                have hCl : (execM (seY L late d) 1 0).1.Cs.length = i := by rw [hw2.2.cl, hYw.2.cl]; show (List.map _ _).length = _; rw [List.length_map, seRooms_len]; exact HLL.out
                rw [hks] at hw2
                have hgl : 0 < (execM (seY L late d) 1 0).1.gs.length := hw2.1.g1.1
                have HX := Lib.hid (fun (wx : World) (hx : Own w wx [WldA b (seY L late d) [], CelA qa [.int .i64 0], CelA qd [.int .i64 (d : Int)], RowGA 1 na nc 0 (intc (canI L))]) => exec_pick hx hYw.1 (by omega) 1 ⟨by omega, by omega⟩ 0 (by omega) (.inl rfl) hno.ask)
                simp only [if_pos] at HX
                rw [hno.rd] at HX
                have HST := Lib.hid (status_w H9.out 0)
                rw [hno.st] at HST
                have hr2 := hno.r2
                have hr3 := hno.r3
                have HEACH := Lib.hid hno.each
                have hst2 := hno.st2
                have hwf2 := hw2.1
                have hn1 := (hwf2.at (j := 0) hgl).n
                clear hno hks hw2 hYw HYW hYg
                generalize hk : (execM (seY L late d) 1 0).2.1 = kp at *
                clear hk
                generalize (execM (seY L late d) 1 0).1 = Y2 at *
                have HS := Lib.hid (fun (wx : World) (Y : List Asr) (hx : Own w wx (WldA b Y2 [] :: Y)) => stack_w hx hwf2 0 hgl)
                have HCH := Lib.hid (fun (wx : World) (Y : List Asr) (hx : Own w wx (WldA b Y2 [] :: Y)) (j : Nat) (hj : j < i) => chan_w hx hwf2 (by omega) j (by rw [hCl]; exact hj))
                have HST2 := Lib.hid (fun (wx : World) (Y : List Asr) (hx : Own w wx (WldA b Y2 [] :: Y)) => status_w hx 0)
                rw [hst2] at HST2
                generalize Y2.g 0 = G at *
                have htop : ∀ (s cap : Nat) wx, Calls Tryz.prog 25 #[.slice (some ⟨s, 0, none⟩) G.n cap] wx fun e w' => e = .returned (.pointer (some ⟨s, (G.n - 1) * 11, none⟩)) ∧ w' = wx := fun s cap wx => by
                  have := top_any s (G.n - 1) cap wx (by omega)
                  rw [show G.n - 1 + 1 = G.n by omega] at this
                  exact this
                have HTOP := Lib.hid htop
                have HR2 := Lib.hid hr2
                have HR3 := Lib.hid hr3
                have HN1 := Lib.hid hn1.1
                clear htop hr2 hr3 hn1 hst2 hgl hCl hwf2
                obtain ⟨x0, -⟩ := H9.out.cel 1 rfl 0 _ rfl
                go_wp2_with fail
                refine HST.out.mono ?_
                rintro r w10 ⟨rfl, rfl⟩
                have HX2 := Lib.hid (HX.out _ H9.out)
                clear HST HX H9 x0
                go_wp2_with fail
                refine HX2.out.mono ?_
                rintro r w11 ⟨ra, rc, rfl, ho⟩
                obtain ⟨rb, ro, hra, hrc⟩ := (ho.rowG 0 rfl).cells 0 (.int .i64 0) rfl
                subst hra
                have H12 := Lib.hid ((ho.alloc [.bool kp, .slice (some ⟨rb, ro, none⟩) 1 rc] 65 (b := w11.heap.size) rfl).pick 2 rfl)
                clear ho HX2 hrc
                go_upto_region 43 with fail
                generalize w11.alloc (.cells #[.bool kp, .slice (some ⟨rb, ro, none⟩) 1 rc] 65) = w12 at *
                generalize w11.heap.size = qe at *
                have HS2 := Lib.hid (HS.out w12 _ H12.out)
                clear HS
                go_wp2_with fail
                refine HS2.out.mono ?_
                rintro r w13 ⟨s', cap', rfl, hs1, hst, hb13⟩
                have H13 := Lib.hid ((H12.out.add hb13 (A := StkA s' G.n cap' G.z) (F := [s']) ⟨rfl, hst⟩ (by intro x hx; simp at hx; omega)).pick 1 rfl)
                clear hs1 hst hb13 HS2 H12
                go_wp2_with fail
                refine (HTOP.out s' cap' w13).mono ?_
                rintro r w14 ⟨rfl, rfl⟩
                clear HTOP
                go_wp2_with fail
                go_loopw [171] (fun iv wr => ∃ j : Nat, j ≤ i ∧ iv = .int .i64 j ∧ Hid (Own w wr (WldA b Y2 [] :: StkA s' G.n cap' G.z :: CelA qe [.bool kp, .slice (some ⟨rb, ro, none⟩) 1 rc] :: RowGA 1 (some ⟨rb, ro, none⟩) rc ([0] : List Int).length (intc [0]) :: [CelA qa [.int .i64 0], CelA qd [.int .i64 (d : Int)], RowGA 1 na nc 0 (intc (canI L))]))) (fun iv _ => i - (intOf iv).toNat)
                case atStart => exact ⟨0, by omega, rfl, H13⟩
                case round =>
                  obtain ⟨j, hj, rfl, hr⟩ := hrel
                  clear H13
                  by_cases hlt9 : j < i
                  · have hlt10 : (j : Int) < (i : Int) := by omega
                    obtain ⟨e1, e2⟩ := HEACH.out j (by rw [HLL.out]; exact hlt9)
                    have HC := Lib.hid (HCH.out wr _ hr.out j hlt9)
                    rw [e1, e2] at HC
                    clear hr e1 e2
                    go_wp2_with fail
                    refine HC.out.mono ?_
                    rintro r w15 ⟨ba, bc, sa, sc, ra', rc', rfl, ho⟩
                    generalize ((Y2.ch (j : Int)).S.length) = sl at *
                    have H15 := Lib.hid (ho.step (below_alloc1 w15 (.cells #[.slice ba 0 bc, .slice sa sl sc, .slice ra' 0 rc', .bool (Y2.ch (j : Int)).cl] 88)))
                    clear ho HC
                    go_wp2
                    exact ⟨⟨j + 1, by omega, by go_num, H15⟩, by simp [intOf]; omega⟩
                  · obtain rfl : j = i := by omega
                    obtain ⟨x1, -⟩ := hr.out.cel 2 rfl 1 _ rfl
                    obtain ⟨_, _, he, x4⟩ := (hr.out.rowG 3 rfl).cells 0 (.int .i64 0) rfl
                    cases he
                    rw [Nat.add_zero] at x4
                    obtain ⟨F, ⟨-, hst⟩, -⟩ := hr.out.fact 1 rfl
                    obtain ⟨x2, -⟩ := reg_at hst HN1.out 2 (by omega)
                    obtain ⟨x3, -⟩ := reg_at hst HN1.out 3 (by omega)
                    rw [show ((2 : Nat) : Int) = 2 from rfl, HR2.out] at x2
                    rw [show ((3 : Nat) : Int) = 3 from rfl, HR3.out] at x3
                    have HS3 := Lib.hid (HST2.out wr _ hr.out)
                    have HBEL := Lib.hid hr.out.bel
                    clear hst hr
                    generalize (G.n - 1) * 11 = fo at *
                    go_wp2_with fail
                    refine HS3.out.mono ?_
                    rintro r w16 ⟨rfl, rfl⟩
                    go_wp2
                    go_ret
                    exact ⟨rfl, HBEL.out⟩
              · have hmp : (0 : Int) < (m2 : Int) := by omega
                have HS := Lib.hid (stack_w H9.out hYw.1 0 (by omega))
                have hn1 := (hYw.1.at (j := 0) (by omega)).n
                have hyes := seY_yes HF.out (by rw [← HM2.out]; omega) d
                have hCl : (seY L late d).Cs.length = i := by rw [hYw.2.cl]; show (List.map _ _).length = _; rw [List.length_map, seRooms_len]; exact HLL.out
                rw [← HM2.out] at hyes
                have hat : d % m2 < (seCan 0 L).length := by rw [← HM2.out]; exact Nat.mod_lt _ (by omega)
                obtain ⟨av, hav⟩ : ∃ av, av = (seCan 0 L).getD (d % m2) 0 := ⟨_, rfl⟩
                rw [← hav] at hyes
                have hcan : (canI L)[d % m2]? = some (av : Int) := by
                  unfold canI; rw [List.getElem?_map, List.getElem?_eq_getElem hat, hav, List.getD_eq_getElem?_getD, List.getElem?_eq_getElem hat]; rfl
                have HCAN := Lib.hid hcan
                have HY := Lib.hid hyes
                have HCH := Lib.hid (fun (wx : World) (Y : List Asr) (hx : Own w wx (WldA b (seY L late d) [] :: Y)) (j : Nat) (hj : j < i) => chan_w hx hYw.1 (by omega) j (by rw [hCl]; exact hj))
                have HST := Lib.hid (fun (wx : World) (Y : List Asr) (hx : Own w wx (WldA b (seY L late d) [] :: Y)) => status_w hx 0)
                rw [hyes.st] at HST
                have hr2 := hyes.r2
                have hr3 := hyes.r3
                generalize (seY L late d).g 0 = G at *
                have htop : ∀ (s cap : Nat) wx, Calls Tryz.prog 25 #[.slice (some ⟨s, 0, none⟩) G.n cap] wx fun e w' => e = .returned (.pointer (some ⟨s, (G.n - 1) * 11, none⟩)) ∧ w' = wx := fun s cap wx => by
                  have := top_any s (G.n - 1) cap wx (by omega)
                  rw [show G.n - 1 + 1 = G.n by omega] at this
                  exact this
                have HTOP := Lib.hid htop
                have HR2 := Lib.hid hr2
                have HR3 := Lib.hid hr3
                have HN1 := Lib.hid hn1.1
                clear hYw hyes hCl hat hav hcan htop hr2 hr3 hn1 HYW hYg
                go_wp2_with fail
                refine HS.out.mono ?_
                rintro r w10 ⟨s', cap', rfl, hs1, hst, hb10⟩
                have H10 := Lib.hid (H9.out.add hb10 (A := StkA s' G.n cap' G.z) (F := [s']) ⟨rfl, hst⟩ (by intro x hx; simp at hx; omega))
                clear hs1 hst hb10 HS H9
                go_wp2_with fail
                refine (HTOP.out s' cap' w10).mono ?_
                rintro r w11 ⟨rfl, rfl⟩
                have hdm : ((d : Int) % (m2 : Int)) = ((d % m2 : Nat) : Int) := rfl
                have hdm2 : ((d : Int)).tmod (m2 : Int) = ((d % m2 : Nat) : Int) := by rw [Int.tmod_eq_emod_of_nonneg (by omega)]; rfl
                have hm2n : (m2 : Int) ≠ 0 := by omega
                obtain ⟨cb, co, hna, hcc⟩ := ((H10.out.pick 4 rfl).rowG 0 rfl).cells (d % m2) (.int .i64 (av : Int)) (by rw [intc_get, HCAN.out]; rfl)
                subst hna
                have hdl : ((d % m2 : Nat) : Int) < (m2 : Int) := by have := Nat.mod_lt d (show 0 < m2 by omega); omega
                have hd0 : (0 : Int) ≤ ((d % m2 : Nat) : Int) := by omega
                obtain ⟨x0, -⟩ := (H10.out.pick 3 rfl).cel 0 rfl 0 _ rfl
                generalize d % m2 = dm at *
                go_upto_region 32 with fail
                have H11 := Lib.hid (H10.out.pick 1 rfl)
                clear x0 hcc H10 hdl hd0 hdm hdm2 HTOP
                go_wp2_with fail
                go_loopw [110] (fun iv wr => ∃ j : Nat, j ≤ i ∧ iv = .int .i64 j ∧ Hid (Own w wr [WldA b (seY L late d) [], StkA s' G.n cap' G.z, CelA qa [.int .i64 (m2 : Int)], CelA qd [.int .i64 (d : Int)], RowGA 1 (some ⟨cb, co, none⟩) nc m2 (intc (canI L))])) (fun iv _ => i - (intOf iv).toNat)
                case atStart => exact ⟨0, by omega, rfl, H11⟩
                case round =>
                  obtain ⟨j, hj, rfl, hr⟩ := hrel
                  clear H11
                  by_cases hlt9 : j < i
                  · have hlt10 : (j : Int) < (i : Int) := by omega
                    have hj0 : (0 : Int) ≤ (j : Int) := by omega
                    obtain ⟨fb, fo, hfa, hfc⟩ := HFULL.out j hlt9
                    subst hfa
                    have hjl : (j : Int) < (len0 : Int) := by omega
                    have hE := HY.out.each j (by rw [HLL.out]; exact hlt9)
                    have HC := Lib.hid (HCH.out wr _ hr.out j hlt9)
                    clear hr
                    obtain ⟨bl, hbl⟩ : ∃ bl, bl = ((seY L late d).ch (j : Int)).buf.length := ⟨_, rfl⟩
                    rw [← hbl] at hE HC
                    have hg : (((bl : Nat) : Int) == 1) = (L.getD j false && ((j : Int) != (av : Int))) := by
                      rw [show (((bl : Nat) : Int) == 1) = (bl == 1) by rw [Bool.eq_iff_iff]; simp; omega, hE, show ((j : Int) != (av : Int)) = (j != av) by rw [Bool.eq_iff_iff]; simp; omega]
                    generalize L.getD j false = bit at *
                    obtain ⟨nb, hnb⟩ : ∃ nb, ((j : Int) != (av : Int)) = nb := ⟨_, rfl⟩
                    rw [hnb] at hg
                    clear hE hbl
                    go_wp2_with fail
                    refine HC.out.mono ?_
                    rintro r w12 ⟨ba, bc, sa, sc, ra', rc', rfl, ho⟩
                    have H12 := Lib.hid ho
                    have hfd := cell_below hfc ho.bel
                    have f0 := fld0
                    clear ho HC hfc
                    cases bit <;> cases nb <;> simp only [Bool.false_and, Bool.true_and] at hg
                    all_goals
                      go_wp2
                      exact ⟨⟨j + 1, by omega, by go_num, H12⟩, by simp [intOf]; omega⟩
                  · obtain rfl : j = i := by omega
                    obtain ⟨x0, -⟩ := hr.out.cel 2 rfl 0 _ rfl
                    obtain ⟨F, ⟨-, hst⟩, -⟩ := hr.out.fact 1 rfl
                    obtain ⟨x2, -⟩ := reg_at hst HN1.out 2 (by omega)
                    obtain ⟨x3, -⟩ := reg_at hst HN1.out 3 (by omega)
                    rw [show ((2 : Nat) : Int) = 2 from rfl, HR2.out] at x2
                    rw [show ((3 : Nat) : Int) = 3 from rfl, HR3.out] at x3
                    have HS2 := Lib.hid (HST.out wr _ hr.out)
                    have HBEL := Lib.hid hr.out.bel
                    clear hst hr
                    generalize (G.n - 1) * 11 = fo at *
                    go_wp2_with fail
                    refine HS2.out.mono ?_
                    rintro r w13 ⟨rfl, rfl⟩
                    go_wp2
                    go_ret
                    exact ⟨rfl, HBEL.out⟩
end Go.Proofs.YtjidcagklakjaaaGreat.worldSelects
