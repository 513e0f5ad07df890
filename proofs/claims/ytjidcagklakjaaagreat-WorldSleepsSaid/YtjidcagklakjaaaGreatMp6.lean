/-
  Texts put together: WdWF2, WdWF3, WdWF4, WdGets, WdCln, WdNew, WdWld, ClM, SlM, SlM2, SlM3, WdTick, WdNoS, WdBox, WdAwk, Ints.
-/
import Derived.Test.YtjidcagklakjaaaGreatMp5
import Derived.Test.YtjidcagklakjaaaGreatMp3
import Derived.Test.YtjidcagklakjaaaGreatMp4
import Derived.Test.YtjidcagklakjaaaGreatMp1
import Derived.Test.YtjidcagklakjaaaGreatMp2
import Derived.WalkKit
import Derived.OpenShut
import Derived.ProofKit
/-
  Worlds that programs come to: what each op leaves.
-/
open Go Go.RowKit
set_option linter.unusedVariables false
namespace Go.Proofs.YtjidcagklakjaaaGreat
/-- A world behind another one. -/
structure Fol (W V : Wd) : Prop where
  fs : V.fs = W.fs
  ks : V.ks = W.ks
  Ns : V.Ns = W.Ns
  cl : V.Cs.length = W.Cs.length
  ll : V.Ls.length = W.Ls.length
  gl : W.gs.length ≤ V.gs.length
theorem Fol.refl (W : Wd) : Fol W W := ⟨rfl, rfl, rfl, rfl, rfl, Nat.le_refl _⟩
theorem Fol.trans {A B C : Wd} (h : Fol A B) (k : Fol B C) : Fol A C := ⟨k.fs.trans h.fs, k.ks.trans h.ks, k.Ns.trans h.Ns, k.cl.trans h.cl, k.ll.trans h.ll, Nat.le_trans h.gl k.gl⟩
theorem cas_eq {W V : Wd} (h : V.ks = W.ks) (x : In4) : V.cas x = W.cas x := by unfold Wd.cas; rw [h]
theorem insAt_eq {W V : Wd} (h : V.fs = W.fs) (fn pc : Int) : V.insAt fn pc = W.insAt fn pc := by unfold Wd.insAt; rw [h]
abbrev InsW (W : Wd) (n : Nat) (x : In4) : Prop := InsOk W.fs.length W.Cs.length W.ks.length W.Ls.length n x
theorem InsOk.fol {W V : Wd} {n : Nat} {x : In4} (h : InsW W n x) (f : Fol W V) : InsW V n x := by
  unfold InsW; rw [f.fs, f.cl, f.ks, f.ll]; exact h
theorem fol_goOn {B : Nat} {W : Wd} (h : WF B W) (hB : B ≤ 90000) (rd : List Int) {w : Wt} (hw : WtIf W w) (s : Bool) : Fol W (goOnM W rd w s).1 := by
  obtain ⟨-, h1, h2, h3, h4, h5, -⟩ := h.goOn hB rd hw s
  refine ⟨h2, h3, ?_, h4, h5, by omega⟩
  unfold goOnM
  simp only
  split
  · split
    · rename_i x hx
      obtain ⟨-, -, -, -, -, -, e⟩ := fin_same W x w s
      exact e
    · rfl
  · rfl
theorem fol_setCh (W : Wd) (i : Int) (C : Ch) : Fol W (W.setCh i C) := ⟨rfl, rfl, rfl, by unfold Wd.setCh; simp, rfl, Nat.le_refl _⟩
theorem fol_fin (W : Wd) (x : In4) (w : Wt) (s : Bool) : Fol W (W.fin x w s) := by
  obtain ⟨a, b, c, d, e, f, g⟩ := fin_same W x w s
  exact ⟨a, b, g, by rw [c], by rw [d], by omega⟩
theorem fol_setG (W : Wd) (g : Nat) (G : Gt) : Fol W (W.setG g G) := ⟨rfl, rfl, rfl, rfl, rfl, by unfold Wd.setG; simp⟩
theorem fol_put (W : Wd) (g : Nat) (k v : Int) : Fol W (W.put g k v) := fol_setG _ _ _
theorem ch_mem {W : Wd} {i : Int} (h : 0 ≤ i ∧ i < (W.Cs.length : Int)) : W.ch i ∈ W.Cs := by
  have e : i = ((i.toNat : Nat) : Int) := by omega
  rw [e]
  exact List.mem_of_getElem? (Wd.ch_at (by omega))
theorem mSend_ok {B : Nat} {W : Wd} {C : Ch} (h : ChOk B W C) (N : Nat) (hN : N ≤ 16) (v : Int) : ChOk B W (mSend N C v).1 ∧ ((mSend N C v).2.2.1 = true → WtOk W (mSend N C v).2.1) := by
  obtain ⟨h1, h2, h3, h4, h5⟩ := h
  unfold mSend
  split
  · exact ⟨⟨h1, h2, h3, h4, h5⟩, fun e => by cases e⟩
  · split
    · rename_i x t e
      rw [e] at h3 h5
      refine ⟨⟨h1, h2, by simp at h3; show t.length ≤ B; omega, h4, fun w hw => h5 w (by simp [hw])⟩, fun _ => h5 x (by simp)⟩
    · rename_i e
      split
      · exact ⟨⟨by simp; omega, h2, by rw [e]; simp, h4, fun w hw => by simp only [e] at hw; cases hw⟩, fun e => by cases e⟩
      · exact ⟨⟨h1, h2, h3, h4, h5⟩, fun e => by cases e⟩
theorem mRecv_ok {B : Nat} {W : Wd} {C : Ch} (h : ChOk B W C) : ChOk B W (mRecv C).1 ∧ ((mRecv C).2.1.2.2.2 = true → WtOk W (mRecv C).2.1.2.2.1) := by
  obtain ⟨h1, h2, h3, h4, h5⟩ := h
  unfold mRecv
  split
  · rename_i x t e
    rw [e] at h2 h4
    have ht : t.length ≤ B := by simp at h2; omega
    have ht2 : ∀ w ∈ t, WtOk W w := fun w hw => h4 w (by simp [hw])
    split
    · rename_i y b e2
      refine ⟨⟨?_, ht, h3, ht2, h5⟩, fun _ => h4 x (by simp)⟩
      have := congrArg List.length e2
      simp at this; show b.length ≤ 16; omega
    · exact ⟨⟨by simp, ht, h3, ht2, h5⟩, fun _ => h4 x (by simp)⟩
  · split
    · rename_i y b e2
      refine ⟨⟨?_, by simp, h3, fun w hw => by simp at hw, h5⟩, fun e => by cases e⟩
      rw [e2] at h1; simp at h1; show b.length ≤ 16; omega
    · exact ⟨⟨h1, h2, h3, h4, h5⟩, fun e => by cases e⟩
theorem ns_le {B : Nat} {W : Wd} (h : WF B W) (i : Nat) : W.Ns.getD i 0 ≤ 16 := by
  rw [List.getD_eq_getElem?_getD]
  cases e : W.Ns[i]? with
  | none => simp
  | some N => exact h.ns.2 N (List.mem_of_getElem? e)
/-- What an op comes to. -/
def DdOk (B : Nat) (W : Wd) (d : Dd) : Prop := WF B d.W ∧ Fol W d.W
theorem WF.send {B : Nat} {W : Wd} (h : WF B W) (hB : B ≤ 90000) (rd : List Int) {g : Nat} (hg : g < W.gs.length) {n : Nat} {x : In4} (hx : InsW W n x) (ho : x.1 = 13 ∨ x.1 = 14 ∨ x.1 = 16) {c : Cs3} (hc : c ∈ W.cas x) (h1 : c.1 = 1) {place : Int} (hp : 0 ≤ place ∧ place < ((W.cas x).length : Int)) :
    SendOk W rd g x c place ∧ ∀ d, sendM W rd g x c place = some d → DdOk B W d := by
  have hk := hx.casOk ho h.p.ck c hc
  have c0 : 0 ≤ c.2.1 ∧ c.2.1 < (W.Cs.length : Int) := ⟨hk.2.1, hk.2.2.1 (by omega)⟩
  have hC := h.cs _ (ch_mem c0)
  have hr := mSend_ok hC (W.Ns.getD c.2.1.toNat 0) (ns_le h _) ((W.g g).rg c.2.2)
  have hW1 := h.setCh c.2.1 hr.1
  have hY : ∀ rd', WF B (if (mSend (W.Ns.getD c.2.1.toNat 0) (W.ch c.2.1) ((W.g g).rg c.2.2)).2.2.1 then goOnM (W.setCh c.2.1 (mSend (W.Ns.getD c.2.1.toNat 0) (W.ch c.2.1) ((W.g g).rg c.2.2)).1) rd' (mSend (W.Ns.getD c.2.1.toNat 0) (W.ch c.2.1) ((W.g g).rg c.2.2)).2.1 true else (W.setCh c.2.1 (mSend (W.Ns.getD c.2.1.toNat 0) (W.ch c.2.1) ((W.g g).rg c.2.2)).1, rd')).1 ∧
      Fol W (if (mSend (W.Ns.getD c.2.1.toNat 0) (W.ch c.2.1) ((W.g g).rg c.2.2)).2.2.1 then goOnM (W.setCh c.2.1 (mSend (W.Ns.getD c.2.1.toNat 0) (W.ch c.2.1) ((W.g g).rg c.2.2)).1) rd' (mSend (W.Ns.getD c.2.1.toNat 0) (W.ch c.2.1) ((W.g g).rg c.2.2)).2.1 true else (W.setCh c.2.1 (mSend (W.Ns.getD c.2.1.toNat 0) (W.ch c.2.1) ((W.g g).rg c.2.2)).1, rd')).1 := fun rd' => by
    split
    · rename_i e
      have hw : WtIf (W.setCh c.2.1 (mSend (W.Ns.getD c.2.1.toNat 0) (W.ch c.2.1) ((W.g g).rg c.2.2)).1) (mSend (W.Ns.getD c.2.1.toNat 0) (W.ch c.2.1) ((W.g g).rg c.2.2)).2.1 := (hr.2 e).toIf
      exact ⟨(hW1.goOn hB rd' hw true).1, (fol_setCh W _ _).trans (fol_goOn hW1 hB rd' hw true)⟩
    · exact ⟨hW1, fol_setCh W _ _⟩
  have hF : ∀ rd' w, w.1 = (g : Int) → w.2.1 = place → FinOk (if (mSend (W.Ns.getD c.2.1.toNat 0) (W.ch c.2.1) ((W.g g).rg c.2.2)).2.2.1 then goOnM (W.setCh c.2.1 (mSend (W.Ns.getD c.2.1.toNat 0) (W.ch c.2.1) ((W.g g).rg c.2.2)).1) rd' (mSend (W.Ns.getD c.2.1.toNat 0) (W.ch c.2.1) ((W.g g).rg c.2.2)).2.1 true else (W.setCh c.2.1 (mSend (W.Ns.getD c.2.1.toNat 0) (W.ch c.2.1) ((W.g g).rg c.2.2)).1, rd')).1 x w := fun rd' w e1 e2 => by
    obtain ⟨y1, y2⟩ := hY rd'
    exact y1.finOk (hx.fol y2) ho w (by rw [e1]; have := y2.gl; omega) (by rw [cas_eq y2.ks, e2]; exact hp)
  refine ⟨⟨c0, by have := h.p.nc; omega, ⟨hk.2.2.2.1, hk.2.2.2.2⟩, h.lim hB, fun e => hW1.goOk hB (hr.2 e).toIf, fun _ => hF rd _ rfl rfl⟩, fun d hd => ?_⟩
  unfold sendM at hd
  simp only at hd
  split at hd
  · cases hd; exact ⟨h, Fol.refl _⟩
  · split at hd
    · cases hd
      obtain ⟨y1, y2⟩ := hY rd
      exact ⟨y1.fin (hF rd _ rfl rfl) false, y2.trans (fol_fin _ _ _ _)⟩
    · cases hd
theorem WF.recv {B : Nat} {W : Wd} (h : WF B W) (hB : B ≤ 90000) (rd : List Int) {g : Nat} (hg : g < W.gs.length) {n : Nat} {x : In4} (hx : InsW W n x) (ho : x.1 = 13 ∨ x.1 = 14 ∨ x.1 = 16) {c : Cs3} (hc : c ∈ W.cas x) (h1 : c.1 ≠ 2) {place : Int} (hp : 0 ≤ place ∧ place < ((W.cas x).length : Int)) :
    RecvOk W rd g x c place ∧ ∀ d, recvM W rd g x c place = some d → DdOk B W d := by
  have hk := hx.casOk ho h.p.ck c hc
  have c0 : 0 ≤ c.2.1 ∧ c.2.1 < (W.Cs.length : Int) := ⟨hk.2.1, hk.2.2.1 h1⟩
  have hC := h.cs _ (ch_mem c0)
  have hr := mRecv_ok hC
  have hW1 := h.setCh c.2.1 hr.1
  have hY : ∀ rd', WF B (if (mRecv (W.ch c.2.1)).2.1.2.2.2 then goOnM (W.setCh c.2.1 (mRecv (W.ch c.2.1)).1) rd' (mRecv (W.ch c.2.1)).2.1.2.2.1 false else (W.setCh c.2.1 (mRecv (W.ch c.2.1)).1, rd')).1 ∧ Fol W (if (mRecv (W.ch c.2.1)).2.1.2.2.2 then goOnM (W.setCh c.2.1 (mRecv (W.ch c.2.1)).1) rd' (mRecv (W.ch c.2.1)).2.1.2.2.1 false else (W.setCh c.2.1 (mRecv (W.ch c.2.1)).1, rd')).1 := fun rd' => by
    split
    · rename_i e
      have hw : WtIf (W.setCh c.2.1 (mRecv (W.ch c.2.1)).1) (mRecv (W.ch c.2.1)).2.1.2.2.1 := (hr.2 e).toIf
      exact ⟨(hW1.goOn hB rd' hw false).1, (fol_setCh W _ _).trans (fol_goOn hW1 hB rd' hw false)⟩
    · exact ⟨hW1, fol_setCh W _ _⟩
  have hF : ∀ rd' w, w.1 = (g : Int) → w.2.1 = place → FinOk (if (mRecv (W.ch c.2.1)).2.1.2.2.2 then goOnM (W.setCh c.2.1 (mRecv (W.ch c.2.1)).1) rd' (mRecv (W.ch c.2.1)).2.1.2.2.1 false else (W.setCh c.2.1 (mRecv (W.ch c.2.1)).1, rd')).1 x w := fun rd' w e1 e2 => by
    obtain ⟨y1, y2⟩ := hY rd'
    exact y1.finOk (hx.fol y2) ho w (by rw [e1]; have := y2.gl; omega) (by rw [cas_eq y2.ks, e2]; exact hp)
  refine ⟨⟨c0, by have := h.p.nc; omega, h.lim hB, fun e => hW1.goOk hB (hr.2 e).toIf, fun _ => hF rd _ rfl rfl⟩, fun d hd => ?_⟩
  unfold recvM at hd
  simp only at hd
  split at hd
  · cases hd
    obtain ⟨y1, y2⟩ := hY rd
    exact ⟨y1.fin (hF rd _ rfl rfl) _, y2.trans (fol_fin _ _ _ _)⟩
  · cases hd
theorem cas_mem {W : Wd} {x : In4} {place : Int} (hp : 0 ≤ place ∧ place < ((W.cas x).length : Int)) : (W.cas x).getD place.toNat (1, 0, 0) ∈ W.cas x := by
  rw [List.getD_eq_getElem?_getD, List.getElem?_eq_getElem (by omega)]
  exact List.getElem_mem _
theorem WF.try_ {B : Nat} {W : Wd} (h : WF B W) (hB : B ≤ 90000) (rd : List Int) {g : Nat} (hg : g < W.gs.length) {n : Nat} {x : In4} (hx : InsW W n x) (ho : x.1 = 13 ∨ x.1 = 14 ∨ x.1 = 16) {place : Int} (hp : 0 ≤ place ∧ place < ((W.cas x).length : Int)) (h2 : ((W.cas x).getD place.toNat (1, 0, 0)).1 ≠ 2) :
    TryOk W rd g x place ∧ ∀ d, tryM W rd g x place = some d → DdOk B W d := by
  have hc := cas_mem hp
  refine ⟨⟨hx.casX ho, by have := h.p.kl; omega, hp, fun e => (h.send hB rd hg hx ho hc e hp).1, fun e => (h.recv hB rd hg hx ho hc h2 hp).1⟩, fun d hd => ?_⟩
  unfold tryM at hd
  simp only at hd
  split at hd
  · rename_i e; exact (h.send hB rd hg hx ho hc e hp).2 d hd
  · exact (h.recv hB rd hg hx ho hc h2 hp).2 d hd
theorem waF_ok {B : Nat} {W : Wd} {g : Int} (regs : List Int) (i : Nat) (k : Cs3) (Cs : List Ch) (h : ∀ C ∈ Cs, ChOk B W C) (hw : ∀ v, WtOk W (g, (i : Int), v)) : ∀ C ∈ waF g regs i k Cs, ChOk (B + 1) W C := by
  unfold waF
  split
  · rename_i C hC
    obtain ⟨h1, h2, h3, h4, h5⟩ := h C (List.mem_of_getElem? hC)
    split
    · intro D hD
      rcases mem_set hD with e | e
      · exact (h D e).mono (by omega)
      · rw [e]
        refine ⟨h1, Nat.le_trans h2 (by omega), by simp; omega, h4, fun w hw' => ?_⟩
        simp only [List.mem_append, List.mem_cons, List.not_mem_nil, or_false] at hw'
        rcases hw' with e1 | e1
        · exact h5 w e1
        · rw [e1]; exact hw _
    · split
      · intro D hD
        rcases mem_set hD with e | e
        · exact (h D e).mono (by omega)
        · rw [e]
          refine ⟨h1, by simp; omega, Nat.le_trans h3 (by omega), fun w hw' => ?_, h5⟩
          simp only [List.mem_append, List.mem_cons, List.not_mem_nil, or_false] at hw'
          rcases hw' with e1 | e1
          · exact h4 w e1
          · rw [e1]; exact hw _
      · exact fun D hD => (h D hD).mono (by omega)
  · exact fun D hD => (h D hD).mono (by omega)
theorem wasF_ok {W : Wd} {g : Int} (regs : List Int) : ∀ (ks : List Cs3) (i B : Nat) (Cs : List Ch), (∀ C ∈ Cs, ChOk B W C) → (∀ j v, i ≤ j → j < i + ks.length → WtOk W (g, (j : Int), v)) → ∀ C ∈ wasF g regs i ks Cs, ChOk (B + ks.length) W C
  | [], i, B, Cs, h, _ => by unfold wasF; exact h
  | k :: t, i, B, Cs, h, hw => by
    unfold wasF
    have h1 := waF_ok regs i k Cs h (fun v => hw i v (Nat.le_refl _) (by simp))
    have h2 := wasF_ok regs t (i + 1) (B + 1) _ h1 (fun j v a b => hw j v (by omega) (by simp; omega))
    rw [List.length_cons, show B + (t.length + 1) = B + 1 + t.length by omega]
    exact h2
/-- A goroutine that is Ready, behind its instruction. -/
structure At (W : Wd) (g : Nat) (x : In4) : Prop where
  lt : g < W.gs.length
  st : (W.g g).st = 1
  ins : W.insAt (W.g g).fn ((W.g g).pc - 1) = some x
theorem WF.setSt {B : Nat} {W : Wd} (h : WF B W) {g : Nat} (hg : g < W.gs.length) (hs : (W.g g).st = 1) (s : Int) : WF B (W.setSt g s) :=
  h.setG (by rw [hs]; decide) ⟨(h.at hg).n, (h.at hg).len, (h.at hg).fr⟩
theorem WF.wait {B : Nat} {W : Wd} (h : WF B W) {g : Nat} {n : Nat} {x : In4} (ha : At W g x) (hx : InsW W n x) (ho : x.1 = 13 ∨ x.1 = 14 ∨ x.1 = 16) : WF (B + W.ks.length + 1) (waitM W g x) ∧ Fol W (waitM W g x) := by
  have h1 := h.setSt ha.lt ha.st 2
  have hg2 : (W.setSt g 2).g g = { W.g g with st := 2 } := by unfold Wd.setSt; rw [Wd.g_setG _ _ _ _ ha.lt, if_pos rfl]
  have hl : (W.setSt g 2).gs.length = W.gs.length := by unfold Wd.setSt Wd.setG; simp
  have hcl := hx.casLen ho
  have hw : ∀ j v, 0 ≤ j → j < 0 + (W.cas x).length → WtOk (W.setSt g 2) ((g : Int), (j : Int), v) := fun j v _ hj => by
    refine ⟨⟨by simp, by rw [hl]; have := ha.lt; simp; omega⟩, by simp only [Int.toNat_natCast]; rw [hg2], x, ?_, ho, by simp, by show (j : Int) < ((W.cas x).length : Int); omega⟩
    simp only [Int.toNat_natCast]
    rw [hg2]
    exact ha.ins
  have h2 := wasF_ok (W := W.setSt g 2) (g := (g : Int)) (W.g g).regs (W.cas x) 0 B W.Cs h1.cs hw
  have h3 := (h1.mono (C := B + (W.cas x).length) (by omega)).chans (wasF (g : Int) (W.g g).regs 0 (W.cas x) W.Cs) (wasF_len _ _ _ _ _) h2
  exact ⟨h3.mono (by omega), ⟨rfl, rfl, rfl, wasF_len _ _ _ _ _, rfl, by show W.gs.length ≤ (W.gs.set g _).length; simp⟩⟩
theorem WF.waitOk {B : Nat} {W : Wd} (h : WF B W) (hB : B ≤ 80000) {n : Nat} {x : In4} (hx : InsW W n x) (ho : x.1 = 13 ∨ x.1 = 14 ∨ x.1 = 16) : WaitOk W x :=
  ⟨hx.casX ho, by have := h.p.kl; omega, hx.casOk ho h.p.ck, ⟨B + 16, fun C hC => ⟨by have := (h.cs C hC).1; omega, by have := (h.cs C hC).2.1; omega, by have := (h.cs C hC).2.2.1; omega⟩, by omega⟩, by have := h.p.nc; omega⟩
theorem WF.chan {B : Nat} {W : Wd} (h : WF B W) (hB : B ≤ 80000) (rd : List Int) {g : Nat} {n : Nat} {x : In4} (ha : At W g x) (hx : InsW W n x) (ho : x.1 = 13 ∨ x.1 = 14) : (TryOk W rd g x 0 ∧ WaitOk W x) ∧ DdOk (B + W.ks.length + 1) W (chanM W rd g x) := by
  have ho' : x.1 = 13 ∨ x.1 = 14 ∨ x.1 = 16 := by omega
  have hcl := hx.casLen ho'
  have h2 : ((W.cas x).getD (0 : Int).toNat (1, 0, 0)).1 ≠ 2 := by
    unfold Wd.cas
    rcases ho with e | e
    · rw [if_pos e]; show (1 : Int) ≠ 2; decide
    · rw [if_neg (by omega), if_pos e]; show (0 : Int) ≠ 2; decide
  have ht := h.try_ (by omega) rd ha.lt hx ho' (place := 0) (by omega) h2
  refine ⟨⟨ht.1, h.waitOk hB hx ho'⟩, ?_⟩
  unfold chanM
  cases e : tryM W rd g x 0 with
  | none => exact h.wait ha hx ho'
  | some d => exact ⟨(ht.2 d e).1.mono (by omega), (ht.2 d e).2⟩
/-- The places of those that would go on. -/
theorem enF_mem (f : Cs3 → Bool) : ∀ (l : List Cs3) (i : Nat) (v : Int), v ∈ enF f i l → ∃ j, ∃ h : j < l.length, v = ((i + j : Nat) : Int) ∧ f l[j] = true
  | [], i, v, h => by simp [enF] at h
  | k :: t, i, v, h => by
    unfold enF at h
    split at h
    · rename_i e
      simp only [List.mem_cons] at h
      rcases h with rfl | h
      · exact ⟨0, by simp, by simp, by simpa using e⟩
      · obtain ⟨j, hj, e1, e2⟩ := enF_mem f t (i + 1) v h
        exact ⟨j + 1, by simpa using hj, by rw [e1]; omega, by simpa using e2⟩
    · obtain ⟨j, hj, e1, e2⟩ := enF_mem f t (i + 1) v h
      exact ⟨j + 1, by simpa using hj, by rw [e1]; omega, by simpa using e2⟩
theorem elF_lt : ∀ (l : List Cs3) (i : Nat), elF i l < ((i + l.length : Nat) : Int)
  | [], i => by unfold elF; omega
  | k :: t, i => by
    unfold elF
    split
    · simp; omega
    · have := elF_lt t (i + 1); simp at this ⊢; omega
theorem goesN_kind {Ns : List Nat} {Cs : List Ch} {k : Cs3} (h : goesN Ns Cs k = true) : k.1 ≠ 2 := by
  unfold goesN at h
  split at h
  · split at h
    · omega
    · split at h
      · omega
      · cases h
  · cases h
/-- What a draw comes to is a place of those that go on. -/
theorem askM_place {W : Wd} {x : In4} {d : Int} (hx : x.1 = 16) (h : (askM W x d).2 = true) : (0 ≤ (askM W x d).1 ∧ (askM W x d).1 < ((W.cas x).length : Int)) ∧ ((W.cas x).getD (askM W x d).1.toNat (1, 0, 0)).1 ≠ 2 := by
  unfold askM at h ⊢
  rw [if_neg (by omega), if_pos hx] at h ⊢
  split at h
  · cases h
  · rename_i h0
    rw [if_neg h0]
    simp only
    obtain ⟨b, hb⟩ : ∃ b, b = belowZ ((enF (goesN W.Ns W.Cs) 0 (W.cas x)).length : Int) d := ⟨_, rfl⟩
    have hb2 : 0 ≤ b ∧ b < ((enF (goesN W.Ns W.Cs) 0 (W.cas x)).length : Int) := by
      rw [hb]; unfold belowZ; split <;> split <;> omega
    rw [← hb]
    have hm : (enF (goesN W.Ns W.Cs) 0 (W.cas x)).getD b.toNat 0 ∈ enF (goesN W.Ns W.Cs) 0 (W.cas x) := by
      rw [List.getD_eq_getElem?_getD, List.getElem?_eq_getElem (by omega)]
      exact List.getElem_mem _
    obtain ⟨j, hj, e1, e2⟩ := enF_mem _ _ _ _ hm
    rw [e1]
    refine ⟨by omega, ?_⟩
    rw [Nat.zero_add, Int.toNat_natCast, List.getD_eq_getElem?_getD, List.getElem?_eq_getElem hj]
    exact goesN_kind e2
theorem WF.choose {B : Nat} {W : Wd} (h : WF B W) (hB : B ≤ 80000) {g : Nat} {n : Nat} {x : In4} (ha : At W g x) (hx : InsW W n x) (ho : x.1 = 16) {dr : Int} {go : Bool} (hd : go = true → (0 ≤ dr ∧ dr < ((W.cas x).length : Int)) ∧ ((W.cas x).getD dr.toNat (1, 0, 0)).1 ≠ 2) :
    ChooseOk W g x dr go ∧ DdOk (B + W.ks.length + 1) W (chooseM W [] g x dr go) := by
  have ho' : x.1 = 13 ∨ x.1 = 14 ∨ x.1 = 16 := by omega
  refine ⟨⟨hx.casX ho', by have := h.p.kl; omega, fun e => (h.try_ (by omega) [] ha.lt hx ho' (hd e).1 (hd e).2).1, fun _ => h.waitOk hB hx ho', (hx.o16 ho).2⟩, ?_⟩
  unfold chooseM
  split
  · rename_i e
    have ht := h.try_ (by omega) [] ha.lt hx ho' (hd e).1 (hd e).2
    cases e2 : tryM W [] g x dr with
    | none => exact ⟨h.mono (by omega), Fol.refl _⟩
    | some d => exact ⟨(ht.2 d e2).1.mono (by omega), (ht.2 d e2).2⟩
  · split
    · exact h.wait ha hx ho'
    · exact ⟨(h.put g x.2.2.2 (elF 0 (W.cas x)) (hx.o16 ho).2).mono (by omega), fol_put _ _ _ _⟩
theorem WtIf.goOn {B : Nat} {W : Wd} (h : WF B W) (hB : B ≤ 90000) (rd : List Int) {w : Wt} (hw : WtIf W w) (s : Bool) {v : Wt} (hv : WtIf W v) : WtIf (goOnM W rd w s).1 v := by
  obtain ⟨h1, h2, h3, h4, h5, h6, h7, h8⟩ := h.goOn hB rd hw s
  refine ⟨by rw [h2]; exact hv.1, fun hs => ?_⟩
  by_cases e : v.1 = w.1
  · rw [e] at hs; exact absurd hs h8
  · obtain ⟨a, b, c⟩ := h7 v.1.toNat (by have := hv.1; omega)
    rw [a] at hs
    obtain ⟨x, k1, k2, k3⟩ := hv.2 hs
    exact ⟨x, by rw [b, c, insAt_eq h3]; exact k1, k2, by rw [cas_eq h4]; exact k3⟩
theorem WF.goOns {B : Nat} : ∀ (l : List Wt) (W : Wd), WF B W → B ≤ 90000 → ∀ (rd : List Int), (∀ w ∈ l, WtIf W w) → WF B (goOnsM W rd l).1 ∧ Fol W (goOnsM W rd l).1 ∧ ∀ v, WtIf W v → WtIf (goOnsM W rd l).1 v
  | [], W, h, _, rd, _ => ⟨h, Fol.refl _, fun _ hv => hv⟩
  | r :: t, W, h, hB, rd, hw => by
    have hr := hw r (by simp)
    have h1 := (h.goOn hB rd hr false).1
    have hf := fol_goOn h hB rd hr false
    obtain ⟨a, b, c⟩ := WF.goOns t (goOnM W rd r false).1 h1 hB (goOnM W rd r false).2 (fun v hv => WtIf.goOn h hB rd hr false (hw v (by simp [hv])))
    exact ⟨a, hf.trans b, fun v hv => c v (WtIf.goOn h hB rd hr false hv)⟩
theorem WF.close {B : Nat} {W : Wd} (h : WF B W) (hB : B ≤ 90000) {n : Nat} {x : In4} (hx : InsW W n x) (ho : x.1 = 15) (rd : List Int) : CloseOk W x ∧ DdOk B W (closeM W rd x) := by
  have c0 := hx.o15 ho
  have hC := h.cs _ (ch_mem c0)
  have hW1 := h.setCh x.2.1 (C := ⟨(W.ch x.2.1).buf, [], [], true⟩) ⟨hC.1, by simp, by simp, fun w hw => by simp at hw, fun w hw => by simp at hw⟩
  have hR : ∀ w ∈ (W.ch x.2.1).R, WtIf (W.setCh x.2.1 ⟨(W.ch x.2.1).buf, [], [], true⟩) w := fun w hw => (hC.2.2.2.2 w hw).toIf
  refine ⟨⟨c0, by have := h.p.nc; omega, by have := hC.2.2.1; omega, fun _ _ i hi => ?_⟩, ?_⟩
  · obtain ⟨a, b, c⟩ := WF.goOns ((W.ch x.2.1).R.take i) _ hW1 hB [] (fun w hw => hR w (List.mem_of_mem_take hw))
    exact a.goOk hB (c _ (hR _ (List.getElem_mem _)))
  · unfold closeM
    simp only
    split
    · exact ⟨h, Fol.refl _⟩
    · split
      · obtain ⟨a, b, c⟩ := WF.goOns (W.ch x.2.1).R _ hW1 hB rd hR
        exact ⟨a, (fol_setCh W _ _).trans b⟩
      · exact ⟨hW1, fol_setCh W _ _⟩
theorem getD_app1 {l m : List Int} {i : Nat} (h : i < l.length) : (l ++ m).getD i 0 = l.getD i 0 := by
  rw [List.getD_eq_getElem?_getD, List.getElem?_append_left h, ← List.getD_eq_getElem?_getD]
theorem getD_app2 {l m : List Int} {i : Nat} (h : l.length ≤ i) : (l ++ m).getD i 0 = m.getD (i - l.length) 0 := by
  rw [List.getD_eq_getElem?_getD, List.getElem?_append_right h, ← List.getD_eq_getElem?_getD]
theorem getD_take {l : List Int} {n i : Nat} (h : i < n) : (l.take n).getD i 0 = l.getD i 0 := by
  rw [List.getD_eq_getElem?_getD, List.getElem?_take, if_pos h, ← List.getD_eq_getElem?_getD]
theorem GW.new {fs : List (List In4)} {f a c : Int} (st : Int) (hf : 0 ≤ f ∧ f < (fs.length : Int)) (hc : 0 ≤ c ∧ c < 8) : GW fs ⟨st, 1, newF f a c⟩ := by
  refine ⟨⟨Nat.le_refl _, by show 1 ≤ 16; omega⟩, rfl, fun i hi => ?_⟩
  obtain rfl : i = 0 := by simp at hi; exact hi
  exact ⟨hf, ⟨by show (0 : Int) ≤ 0; omega, by show (0 : Int) ≤ _; omega⟩, hc⟩
theorem GW.call {fs : List (List In4)} {G : Gt} (h : GW fs G) (hn : G.n < 16) {f a c : Int} (hf : 0 ≤ f ∧ f < (fs.length : Int)) (hc : 0 ≤ c ∧ c < 8) : GW fs { G with n := G.n + 1, z := G.z ++ newF f a c } := by
  refine ⟨⟨by simp, by simp; omega⟩, by simp [h.len, newF]; omega, fun i hi => ?_⟩
  simp only at hi ⊢
  have hl := h.len
  by_cases e : i < G.n
  · rw [getD_app1 (by omega), getD_app1 (by omega), getD_app1 (by omega)]
    exact h.fr i e
  · obtain rfl : i = G.n := by omega
    rw [getD_app2 (by omega), getD_app2 (by omega), getD_app2 (by omega), hl, Nat.sub_self, Nat.add_sub_cancel_left, Nat.add_sub_cancel_left]
    exact ⟨hf, ⟨by show (0 : Int) ≤ 0; omega, by show (0 : Int) ≤ _; omega⟩, hc⟩
theorem GW.ret {fs : List (List In4)} {G : Gt} (h : GW fs G) (hn : 1 < G.n) (v : Int) : GW fs { G with n := G.n - 1, z := (G.z.take ((G.n - 1) * 11)).set ((G.n - 2) * 11 + 2 + (G.z.getD (G.o + 10) 0).toNat) v } := by
  have hl := h.len
  have h16 := h.n
  have ht : GW fs { G with n := G.n - 1, z := G.z.take ((G.n - 1) * 11) } := by
    refine ⟨⟨by simp only; omega, by simp only; omega⟩, by simp only [List.length_take]; omega, fun i hi => ?_⟩
    simp only at hi ⊢
    rw [getD_take (by omega), getD_take (by omega), getD_take (by omega)]
    exact h.fr i (by omega)
  have hf := (h.fr (G.n - 1) (by omega)).2.2
  exact ht.reg (G.n - 2) (G.z.getD (G.o + 10) 0).toNat (by show (G.z.getD ((G.n - 1) * 11 + 10) 0).toNat < 8; omega) v
theorem GW.place {fs : List (List In4)} {G : Gt} (h : GW fs G) (v : Int) (hv : 0 ≤ v ∧ v ≤ ((fs.getD G.fn.toNat []).length : Int)) : GW fs { G with z := G.z.set (G.o + 1) v } := by
  refine ⟨h.n, by simpa using h.len, fun i hi => ?_⟩
  simp only at hi ⊢
  have hl := h.len
  unfold Gt.fn Gt.o at *
  rw [getD_set_ne (i := (G.n - 1) * 11 + 1) (j := i * 11) (by omega), getD_set_ne (i := (G.n - 1) * 11 + 1) (j := i * 11 + 10) (by omega)]
  obtain ⟨a, b, c⟩ := h.fr i hi
  refine ⟨a, ?_, c⟩
  by_cases e : i = G.n - 1
  · subst e
    rw [getD_set_eq (by omega)]
    exact hv
  · rw [getD_set_ne (by omega)]
    exact b
end Go.Proofs.YtjidcagklakjaaaGreat
/-
  Worlds that programs come to: Exec, Tick, New.
-/
open Go Go.RowKit
set_option linter.unusedVariables false
namespace Go.Proofs.YtjidcagklakjaaaGreat
theorem WF.locks {B : Nat} {W : Wd} (h : WF B W) (Ls' : List (List Int)) (hl : Ls'.length = W.Ls.length) (hc : ∀ (i : Nat) (L : List Int), Ls'[i]? = some L → LsOk B W i L) : WF B { W with Ls := Ls' } := by
  refine ⟨?_, h.ns, h.g1, h.gw, h.cs, hc, h.hp, h.nx, h.clock, h.out⟩
  show PW W.fs W.ks W.Cs.length Ls'.length
  rw [hl]; exact h.p
theorem LsOk.mono {B C : Nat} {W : Wd} {i : Nat} {L : List Int} (h : LsOk B W i L) (hb : B ≤ C) : LsOk C W i L := ⟨Nat.le_trans h.1 hb, h.2⟩
theorem setSt_at {W : Wd} {g : Nat} (hg : g < W.gs.length) (s : Int) (j : Nat) : (W.setSt g s).g j = if g = j then { W.g g with st := s } else W.g j := by unfold Wd.setSt; exact Wd.g_setG _ _ _ _ hg
theorem setSt_len (W : Wd) (g : Nat) (s : Int) : (W.setSt g s).gs.length = W.gs.length := by unfold Wd.setSt Wd.setG; simp
theorem lk_get {W : Wd} {i : Int} (h : 0 ≤ i ∧ i < (W.Ls.length : Int)) : W.Ls[i.toNat]? = some (W.lk i) := by
  have e : i = ((i.toNat : Nat) : Int) := by omega
  have := Wd.lk_at (W := W) (i := i.toNat) (by omega)
  rw [← e] at this; exact this
theorem WF.lock {B : Nat} {W : Wd} (h : WF B W) (rd : List Int) {g : Nat} {n : Nat} {x : In4} (ha : At W g x) (hx : InsW W n x) (ho : x.1 = 18) : DdOk (B + 1) W (lockM W rd g x) := by
  have hi := hx.o18 (.inl ho)
  have hL := h.ls _ _ (lk_get hi)
  have hset : ∀ (V : Wd), V.Ls = W.Ls → ∀ (i : Nat) (L : List Int), (W.Ls.set x.2.1.toNat (W.lk x.2.1 ++ [(g : Int)]))[i]? = some L → (i = x.2.1.toNat ∧ L = W.lk x.2.1 ++ [(g : Int)]) ∨ W.Ls[i]? = some L := fun V _ i L hh => by
    by_cases e : i = x.2.1.toNat
    · subst e
      rw [List.getElem?_set_self (by omega)] at hh
      exact .inl ⟨rfl, by simpa using hh.symm⟩
    · rw [List.getElem?_set_ne (by omega)] at hh; exact .inr hh
  unfold lockM
  simp only
  by_cases e0 : W.lk x.2.1 = []
  · rw [if_pos e0]
    refine ⟨(h.mono (C := B + 1) (by omega)).locks _ (by simp) (fun i L hh => ?_), ⟨rfl, rfl, rfl, rfl, by simp, Nat.le_refl _⟩⟩
    rcases hset W rfl i L hh with ⟨rfl, rfl⟩ | hh
    · rw [e0]
      refine ⟨by simp, fun j hj => ?_, by simp, fun j hj => by simp at hj⟩
      simp at hj; subst hj; exact ⟨by omega, by have := ha.lt; omega⟩
    · exact (h.ls i L hh).mono (by omega)
  · rw [if_neg e0]
    have h1 := h.setSt ha.lt ha.st 2
    have hne : ∀ j : Int, (W.g j.toNat).st = 2 → j.toNat ≠ g := fun j hj e => by rw [e, ha.st] at hj; omega
    have hk : ∀ (i : Nat) (j : Int), LkOk W i j → LkOk (W.setSt g 2) i j := fun i j ⟨a, y, b, c⟩ => by
      have e := setSt_at ha.lt 2 j.toNat
      rw [if_neg (fun e => hne j a e.symm)] at e
      refine ⟨by rw [e]; exact a, y, ?_, c⟩
      show W.insAt ((W.setSt g 2).g j.toNat).fn (((W.setSt g 2).g j.toNat).pc - 1) = some y
      rw [e]; exact b
    refine ⟨(h1.mono (C := B + 1) (by omega)).locks _ (by simp [Wd.setSt, Wd.setG]) (fun i L hh => ?_), ⟨rfl, rfl, rfl, rfl, by show (List.set _ _ _).length = _; simp, by show W.gs.length ≤ (List.set _ _ _).length; simp⟩⟩
    rcases hset W rfl i L hh with ⟨rfl, rfl⟩ | hh
    · obtain ⟨a, b, c, d⟩ := hL
      have et : (W.lk x.2.1 ++ [(g : Int)]).tail = (W.lk x.2.1).tail ++ [(g : Int)] := by
        cases e : W.lk x.2.1 with
        | nil => exact absurd e e0
        | cons a t => rfl
      refine ⟨by simp; omega, fun j hj => ?_, ?_, fun j hj => ?_⟩
      · rw [setSt_len]
        simp only [List.mem_append, List.mem_cons, List.not_mem_nil, or_false] at hj
        rcases hj with hj | rfl
        · exact b j hj
        · exact ⟨by omega, by have := ha.lt; omega⟩
      · rw [et, List.nodup_append]
        refine ⟨c, by simp, fun j hj k hk' => ?_⟩
        simp at hk'; subst hk'
        intro e
        have := (d j hj).1
        rw [e] at this
        simp only [Int.toNat_natCast] at this
        rw [ha.st] at this; omega
      · rw [et] at hj
        simp only [List.mem_append, List.mem_cons, List.not_mem_nil, or_false] at hj
        rcases hj with hj | rfl
        · exact hk _ _ (d j hj)
        · have e := setSt_at ha.lt 2 g
          rw [if_pos rfl] at e
          refine ⟨by simp only [Int.toNat_natCast]; rw [e], x, ?_, ho, by omega⟩
          simp only [Int.toNat_natCast]
          rw [e]; exact ha.ins
    · obtain ⟨a, b, c, d⟩ := h.ls i L hh
      exact ⟨by omega, by rw [setSt_len]; exact b, c, fun j hj => hk _ _ (d j hj)⟩
theorem WF.unlock {B : Nat} {W : Wd} (h : WF B W) (rd : List Int) {g : Nat} {n : Nat} {x : In4} (hx : InsW W n x) (ho : x.1 = 19) : DdOk B W (unlockM W rd g x) := by
  have hi := hx.o18 (.inr ho)
  obtain ⟨a, b, c, d⟩ := h.ls _ _ (lk_get hi)
  have hget := lk_get hi
  unfold unlockM
  simp only
  generalize W.lk x.2.1 = L at *
  cases L with
  | nil => simp only [gaveR]; rw [if_neg (by decide)]; exact ⟨h, Fol.refl _⟩
  | cons y t =>
    by_cases e : y = (g : Int)
    · simp only [gaveR, gaveL, if_pos e]
      have hset : ∀ (i : Nat) (L : List Int), (W.Ls.set x.2.1.toNat t)[i]? = some L → (i = x.2.1.toNat ∧ L = t) ∨ (i ≠ x.2.1.toNat ∧ W.Ls[i]? = some L) := fun i L hh => by
        by_cases e : i = x.2.1.toNat
        · subst e
          rw [List.getElem?_set_self (by omega)] at hh
          exact .inl ⟨rfl, by simpa using hh.symm⟩
        · rw [List.getElem?_set_ne (by omega)] at hh; exact .inr ⟨e, hh⟩
      have h1 : WF B { W with Ls := W.Ls.set x.2.1.toNat t } := h.locks _ (by simp) (fun i L hh => by
        rcases hset i L hh with ⟨rfl, rfl⟩ | ⟨-, hh⟩
        · refine ⟨by simp at a; omega, fun j hj => b j (by simp [hj]), ?_, fun j hj => d j (List.mem_of_mem_tail hj)⟩
          exact (show L.Nodup from by simpa using c).sublist (List.tail_sublist L)
        · exact h.ls i L hh)
      have hf : Fol W { W with Ls := W.Ls.set x.2.1.toNat t } := ⟨rfl, rfl, rfl, rfl, by simp, Nat.le_refl _⟩
      rw [if_pos trivial]
      split
      · exact ⟨h1, hf⟩
      · rename_i e1
        cases t with
        | nil => exact absurd rfl e1
        | cons z s =>
          simp only [List.headD_cons] at e1 ⊢
          obtain ⟨z0, z1⟩ := b z (by simp)
          obtain ⟨d1, y', d2, d3, d4⟩ := d z (by simp)
          have hzn : ((z.toNat : Nat) : Int) = z := by omega
          have hgz := h.at (j := z.toNat) (by omega)
          refine ⟨h1.goes z.toNat _ ⟨hgz.n, hgz.len, hgz.fr⟩ (fun C hC => ?_) (fun i L hh hm => ?_) (fun it hit e2 => ?_), hf.trans (fol_setG _ _ _)⟩
          · rw [hzn]
            obtain ⟨-, -, -, k1, k2⟩ := h.cs C hC
            refine ⟨fun w hw e2 => ?_, fun w hw e2 => ?_⟩
            · obtain ⟨-, -, x2, k3, k4, -⟩ := k1 w hw
              rw [e2, d2] at k3; cases k3; omega
            · obtain ⟨-, -, x2, k3, k4, -⟩ := k2 w hw
              rw [e2, d2] at k3; cases k3; omega
          · rw [hzn] at hm
            rcases hset i L hh with ⟨rfl, rfl⟩ | ⟨e3, hh⟩
            · simp only [List.tail_cons] at hm c
              exact (List.nodup_cons.1 c).1 hm
            · obtain ⟨-, x2, k3, -, k4⟩ := (h.ls i L hh).2.2.2 _ hm
              rw [d2] at k3; cases k3; omega
          · rw [hzn] at e2
            obtain ⟨-, k, -⟩ := h.hp.2.2.1 it hit
            rw [e2, d1] at k; omega
    · simp only [gaveR, if_neg e]
      rw [if_neg (by decide)]; exact ⟨h, Fol.refl _⟩
theorem WF.sleep {B : Nat} {W : Wd} (h : WF B W) (hB : B ≤ 80000) (rd : List Int) {g : Nat} {x : In4} (ha : At W g x) : DdOk (B + 1) W (sleepM W rd g x) := by
  unfold sleepM
  simp only
  obtain ⟨r, hr⟩ : ∃ r, r = if 1048576 < (W.g g).rg x.2.1 then 1048576 else (W.g g).rg x.2.1 := ⟨_, rfl⟩
  rw [← hr]
  have hr2 : r ≤ 1048576 := by rw [hr]; split <;> omega
  clear hr
  by_cases h0 : r ≤ 0
  · rw [if_pos h0]; exact ⟨h.mono (by omega), Fol.refl _⟩
  · rw [if_neg h0]
    have h1 := h.setSt ha.lt ha.st 3
    have hno : ∀ y ∈ W.hp, y.id ≠ (g : Int) := fun y hy e => by
      obtain ⟨-, k, -⟩ := h.hp.2.2.1 y hy
      rw [e] at k; simp only [Int.toNat_natCast] at k; rw [ha.st] at k; omega
    have hperm := push_perm W.hp ⟨(W.clock : Int) + r, (W.nx : Int), (g : Int)⟩
    refine ⟨?_, ⟨rfl, rfl, rfl, rfl, rfl, by show W.gs.length ≤ _; rw [show (W.setSt g 3).gs.length = W.gs.length from setSt_len W g 3]; exact Nat.le_refl _⟩⟩
    refine ⟨h1.p, h1.ns, h1.g1, h1.gw, fun C hC => (h1.cs C hC).mono (by omega), fun i L hL => (h1.ls i L hL).mono (by omega), ⟨?_, ?_, fun y hy => ?_, push_heap h.hp.2.2.2⟩, by show W.nx + 1 ≤ B + 1; have := h.nx; omega, Nat.le_trans h.clock (by omega), h.out⟩
    · show (pushF W.hp _).length ≤ _; rw [pushF_len]; have := h.hp.1; omega
    · show ((pushF W.hp _).map (·.id)).Nodup
      rw [(hperm.map (·.id)).nodup_iff, List.map_cons, List.nodup_cons]
      refine ⟨fun hm => ?_, h.hp.2.1⟩
      obtain ⟨y, hy, e⟩ := List.mem_map.1 hm
      exact hno y hy e
    · have hy' := hperm.mem_iff.1 hy
      simp only [List.mem_cons] at hy'
      rcases hy' with rfl | hy'
      · refine ⟨⟨by simp, by rw [show ({ W.setSt g 3 with hp := _, nx := _ } : Wd).gs.length = W.gs.length from setSt_len W g 3]; have := ha.lt; simp; omega⟩, ?_, ⟨by simp only; omega, by simp only; have := h.clock; omega⟩, by simp, by show (W.nx : Int) < ((W.nx + 1 : Nat) : Int); omega⟩
        have e := setSt_at ha.lt 3 g
        rw [if_pos rfl] at e
        show ((W.setSt g 3).g (Int.toNat (g : Int))).st = 3
        rw [Int.toNat_natCast, e]
      · obtain ⟨a, b, c, d⟩ := h1.hp.2.2.1 y hy'
        exact ⟨a, b, c, d.1, by have := d.2; show y.seq < ((W.nx + 1 : Nat) : Int); have e : (W.setSt g 3).nx = W.nx := rfl; rw [e] at this; omega⟩
theorem WF.outs {B : Nat} {W : Wd} (h : WF B W) (o : List Int) (ho : o.length ≤ 1000) : WF B { W with out := o } := ⟨h.p, h.ns, h.g1, h.gw, h.cs, h.ls, h.hp, h.nx, h.clock, ho⟩
theorem WF.ends {B : Nat} {W : Wd} (h : WF B W) (e y : Int) : WF B { W with en := e, why := y } := ⟨h.p, h.ns, h.g1, h.gw, h.cs, h.ls, h.hp, h.nx, h.clock, h.out⟩
theorem WF.end_ {B : Nat} {d : Dd} (h : WF B d.W) : WF B d.end_ := by
  unfold Dd.end_; split
  · exact h
  · exact h.ends _ _
theorem fol_end {W : Wd} {d : Dd} (h : Fol W d.W) : Fol W d.end_ := by
  unfold Dd.end_; split
  · exact h
  · exact ⟨h.fs, h.ks, h.Ns, h.cl, h.ll, h.gl⟩
theorem WF.call {B : Nat} {W : Wd} (h : WF B W) (rd : List Int) {g : Nat} {n : Nat} {x : In4} (ha : At W g x) (hx : InsW W n x) (ho : x.1 = 9) : DdOk B W (callM W rd g x) := by
  obtain ⟨a, b, c⟩ := hx.o9 (.inl ho)
  unfold callM
  simp only
  split
  · exact ⟨h, Fol.refl _⟩
  · exact ⟨h.setG (by rw [ha.st]; decide) ((h.at ha.lt).call (by omega) a c), fol_setG _ _ _⟩
theorem WF.ret {B : Nat} {W : Wd} (h : WF B W) (rd : List Int) {g : Nat} {x : In4} (ha : At W g x) : DdOk B W (retM W rd g x) := by
  unfold retM
  simp only
  split
  · have h1 := h.setSt ha.lt ha.st 4
    exact ⟨⟨h1.p, h1.ns, h1.g1, h1.gw, h1.cs, h1.ls, h1.hp, h1.nx, h1.clock, h1.out⟩, ⟨rfl, rfl, rfl, rfl, rfl, by show W.gs.length ≤ _; rw [show ({ W.setSt g 4 with en := _ } : Wd).gs.length = W.gs.length from setSt_len W g 4]; exact Nat.le_refl _⟩⟩
  · exact ⟨h.setG (by rw [ha.st]; decide) ((h.at ha.lt).ret (by omega) _), fol_setG _ _ _⟩
theorem WF.spawn {B : Nat} {W : Wd} (h : WF B W) (rd : List Int) {g : Nat} {n : Nat} {x : In4} (ha : At W g x) (hx : InsW W n x) (ho : x.1 = 11) : DdOk B W (spawnM W rd g x) := by
  obtain ⟨a, b, c⟩ := hx.o9 (.inr ho)
  unfold spawnM
  split
  · exact ⟨h, Fol.refl _⟩
  · have h1 : WF B { W with gs := W.gs ++ [⟨1, 1, newF x.2.1 ((W.g g).rg x.2.2.1) 0⟩] } := h.gsm _ ⟨by simp, fun j hj _ => by
      rw [List.getD_eq_getElem?_getD, List.getElem?_append_left hj, ← List.getD_eq_getElem?_getD]; exact ⟨rfl, rfl, rfl⟩⟩ (by simp; omega) (fun G hG => by
      simp only [List.mem_append, List.mem_cons, List.not_mem_nil, or_false] at hG
      rcases hG with hG | rfl
      · exact h.gw G hG
      · exact GW.new 1 a (by omega))
    refine ⟨h1.put g x.2.2.2 _ c, ?_⟩
    have := fol_put ({ W with gs := W.gs ++ [⟨1, 1, newF x.2.1 ((W.g g).rg x.2.2.1) 0⟩] } : Wd) g x.2.2.2 (W.gs.length : Int)
    exact ⟨this.fs, this.ks, this.Ns, this.cl, this.ll, Nat.le_trans (by simp) this.gl⟩
theorem WF.emit {B : Nat} {W : Wd} (h : WF B W) (rd : List Int) (g : Nat) (x : In4) : DdOk B W (emitM W rd g x) := by
  unfold emitM
  split
  · exact ⟨h, Fol.refl _⟩
  · exact ⟨h.outs _ (by simp; omega), ⟨rfl, rfl, rfl, rfl, rfl, Nat.le_refl _⟩⟩
theorem DdOk.more {B C : Nat} {W : Wd} {d : Dd} (h : DdOk B W d) (hb : B ≤ C) : DdOk C W d := ⟨h.1.mono hb, h.2⟩
/-- Whatever the op. -/
theorem WF.deed {B : Nat} {W : Wd} (h : WF B W) (hB : B ≤ 80000) {g : Nat} {n : Nat} {x : In4} (ha : At W g x) (hx : InsW W n x) (h9 : 9 ≤ x.1) {dr : Int} {go : Bool} (hd : x.1 = 16 → go = true → (0 ≤ dr ∧ dr < ((W.cas x).length : Int)) ∧ ((W.cas x).getD dr.toNat (1, 0, 0)).1 ≠ 2) :
    DeedOk W g x dr go ∧ DdOk (B + W.ks.length + 1) W (deedM W g x dr go) := by
  have hG := h.at ha.lt
  have hfr := (hG.fr ((W.g g).n - 1) (by have := hG.n; omega)).2.2
  refine ⟨⟨⟨h9, hx.op.2⟩, fun e => (hx.o9 (.inl e)).2.1, fun e => ⟨hx.o10 (.inl e), fun _ => hfr⟩, fun e => ⟨(hx.o9 (.inr e)).2.1, (hx.o9 (.inr e)).2.2, h.g1.2⟩, fun e => (h.chan hB [] ha hx e).1, fun e => (h.close (by omega) hx e []).1, fun e => (h.choose hB ha hx e (hd e)).1,
    fun e => ⟨hx.o10 (.inr (.inl e)), by have := h.hp.1; omega, by have := h.nx; omega, by have := h.clock; omega⟩,
    fun e => ⟨hx.o18 (.inl e), fun L hL => ?_, h.p.nl⟩, fun e => ⟨hx.o18 (.inr e), fun L hL => ?_, h.p.nl, by have := h.g1.2; omega⟩, fun e => ⟨hx.o10 (.inr (.inr e)), h.out⟩, fun e => (hx.o21 e).1⟩, ?_⟩
  · obtain ⟨i, hi⟩ := List.mem_iff_getElem?.1 hL
    have := (h.ls i L hi).1; omega
  · obtain ⟨i, hi⟩ := List.mem_iff_getElem?.1 hL
    exact (h.ls i L hi).2.1
  · have hop : x.1 = 9 ∨ x.1 = 10 ∨ x.1 = 11 ∨ x.1 = 12 ∨ x.1 = 13 ∨ x.1 = 14 ∨ x.1 = 15 ∨ x.1 = 16 ∨ x.1 = 17 ∨ x.1 = 18 ∨ x.1 = 19 ∨ x.1 = 20 ∨ x.1 = 21 ∨ x.1 = 22 := by have := hx.op; omega
    rcases hop with e | e | e | e | e | e | e | e | e | e | e | e | e | e
    · rw [show deedM W g x dr go = callM W [] g x by unfold deedM; rw [e]; rfl]; exact (h.call [] ha hx e).more (by omega)
    · rw [show deedM W g x dr go = retM W [] g x by unfold deedM; rw [e]; rfl]; exact (h.ret [] ha).more (by omega)
    · rw [show deedM W g x dr go = spawnM W [] g x by unfold deedM; rw [e]; rfl]; exact (h.spawn [] ha hx e).more (by omega)
    · rw [show deedM W g x dr go = ⟨W, [], none⟩ by unfold deedM; rw [e]; rfl]; exact ⟨h.mono (by omega), Fol.refl _⟩
    · rw [show deedM W g x dr go = chanM W [] g x by unfold deedM; rw [e]; rfl]; exact (h.chan hB [] ha hx (.inl e)).2
    · rw [show deedM W g x dr go = chanM W [] g x by unfold deedM; rw [e]; rfl]; exact (h.chan hB [] ha hx (.inr e)).2
    · rw [show deedM W g x dr go = closeM W [] x by unfold deedM; rw [e]; rfl]; exact (h.close (by omega) hx e []).2.more (by omega)
    · rw [show deedM W g x dr go = chooseM W [] g x dr go by unfold deedM; rw [e]; rfl]; exact (h.choose hB ha hx e (hd e)).2
    · rw [show deedM W g x dr go = sleepM W [] g x by unfold deedM; rw [e]; rfl]; exact (h.sleep hB [] ha).more (by omega)
    · rw [show deedM W g x dr go = lockM W [] g x by unfold deedM; rw [e]; rfl]; exact (h.lock [] ha hx e).more (by omega)
    · rw [show deedM W g x dr go = unlockM W [] g x by unfold deedM; rw [e]; rfl]; exact (h.unlock [] hx e).more (by omega)
    · rw [show deedM W g x dr go = emitM W [] g x by unfold deedM; rw [e]; rfl]; exact (h.emit [] g x).more (by omega)
    · rw [show deedM W g x dr go = ⟨W.put g x.2.1 dr, [], none⟩ by unfold deedM; rw [e]; rfl]; exact ⟨(h.put g x.2.1 dr (hx.o21 e).1).mono (by omega), fol_put _ _ _ _⟩
    · rw [show deedM W g x dr go = ⟨W, [], some x.2.1⟩ by unfold deedM; rw [e]; rfl]; exact ⟨h.mono (by omega), Fol.refl _⟩
theorem pureM_none {x : In4} {o : Nat} {z : List Int} (h : pureM x o z = none) (h0 : 0 ≤ x.1) : 9 ≤ x.1 := by
  rcases Int.lt_or_le x.1 9 with e | e
  · exfalso
    have : x.1 = 0 ∨ x.1 = 1 ∨ x.1 = 2 ∨ x.1 = 3 ∨ x.1 = 4 ∨ x.1 = 5 ∨ x.1 = 6 ∨ x.1 = 7 ∨ x.1 = 8 := by omega
    unfold pureM at h
    rcases this with e | e | e | e | e | e | e | e | e <;> simp [e] at h
  · exact e
theorem pureM_some {x : In4} {o : Nat} {z z' : List Int} (h : pureM x o z = some z') (h0 : 0 ≤ x.1) : x.1 ≤ 8 := by
  rcases Int.lt_or_le 8 x.1 with e | e
  · exfalso
    unfold pureM at h
    simp only at h
    rw [if_neg (by omega), if_neg (by omega), if_neg (by omega), if_neg (by omega), if_neg (by omega), if_neg (by omega), if_neg (by omega), if_neg (by omega), if_neg (by omega)] at h
    cases h
  · exact e
theorem GW.pure {fs : List (List In4)} {G : Gt} (h : GW fs G) {nc nk nl : Nat} {x : In4} (hx : InsOk fs.length nc nk nl (fs.getD G.fn.toNat []).length x) (hpc : 0 ≤ G.pc ∧ G.pc < ((fs.getD G.fn.toNat []).length : Int)) {z' : List Int} (hz : pureM x G.o G.z = some z') : GW fs { G with z := z' } := by
  have h8 := pureM_some hz hx.op.1
  have hp := hx.pure h8
  have h1 := h.place (G.pc + 1) (by omega)
  have hr : ∀ (v : Int), 0 ≤ x.2.1 → x.2.1 < 8 → GW fs { G with z := (G.z.set (G.o + 1) (G.pc + 1)).set (G.o + 2 + x.2.1.toNat) v } := fun v a b => h1.reg (G.n - 1) x.2.1.toNat (by omega) v
  have hset : ∀ v, 0 ≤ v ∧ v ≤ ((fs.getD G.fn.toNat []).length : Int) → GW fs { G with z := (G.z.set (G.o + 1) (G.pc + 1)).set (G.o + 1) v } := fun v hv => by rw [List.set_set]; exact h.place v hv
  unfold pureM at hz
  simp only at hz
  unfold PureOk at hp
  split at hz
  · cases hz; exact h1
  split at hz
  · cases hz; exact hr _ (by omega) (by omega)
  split at hz
  · cases hz; exact hr _ (by omega) (by omega)
  split at hz
  · cases hz; exact hr _ (by omega) (by omega)
  split at hz
  · cases hz; exact hr _ (by omega) (by omega)
  split at hz
  · cases hz; exact hr _ (by omega) (by omega)
  split at hz
  · cases hz; exact hr _ (by omega) (by omega)
  split at hz
  · rename_i e; cases hz; have := hx.j7 e; exact hset _ (by omega)
  split at hz
  · rename_i e
    have := hx.j8 e
    split at hz
    · cases hz; exact h1
    · cases hz; exact hset _ (by omega)
  · cases hz
theorem Wd.ins_eq (W : Wd) (g : Nat) : W.ins g = W.insAt (W.g g).fn (W.g g).pc := rfl
theorem Gt.step_at (G : Gt) (hl : G.z.length = G.n * 11) (hn : 1 ≤ G.n) (v : Int) : ({ G with z := G.z.set (G.o + 1) v } : Gt).fn = G.fn ∧ ({ G with z := G.z.set (G.o + 1) v } : Gt).pc = v := by
  refine ⟨?_, ?_⟩
  · show (G.z.set (G.o + 1) v).getD G.o 0 = G.z.getD G.o 0
    rw [getD_set_ne (by omega)]
  · show (G.z.set (G.o + 1) v).getD (G.o + 1) 0 = v
    rw [getD_set_eq (by unfold Gt.o; omega)]
/-- Behind an instruction. -/
theorem WF.step {B : Nat} {W : Wd} (h : WF B W) {g : Nat} (hg : g < W.gs.length) (hs : (W.g g).st = 1) {x : In4} (hx : W.ins g = some x) : WF B (W.step g) ∧ At (W.step g) g x ∧ Fol W (W.step g) := by
  have hG := h.at hg
  obtain ⟨k1, k2, k3⟩ := h.insOk hx
  have e := (W.g g).step_at hG.len hG.n.1 ((W.g g).pc + 1)
  have eg : (W.step g).g g = { W.g g with z := (W.g g).z.set ((W.g g).o + 1) ((W.g g).pc + 1) } := by unfold Wd.step; rw [Wd.g_setG _ _ _ _ hg, if_pos rfl]
  refine ⟨h.setG (by rw [hs]; decide) (hG.place _ (by omega)), ⟨by unfold Wd.step Wd.setG; simpa using hg, by rw [eg]; exact hs, ?_⟩, fol_setG _ _ _⟩
  rw [eg, e.1, e.2]
  show W.insAt (W.g g).fn ((W.g g).pc + 1 - 1) = some x
  rw [Int.add_sub_cancel]; exact hx
theorem askM_cas {W V : Wd} (h : V.ks = W.ks) (x : In4) : V.cas x = W.cas x := cas_eq h x
/-- All that Exec wants, and what it leaves. -/
theorem WF.do_ {B : Nat} {W : Wd} (h : WF B W) (hB : B ≤ 80000) {g : Nat} (hl : W.lets (g : Int)) (v : Int) :
    DoOk W g (askM W ((W.ins g).getD (0, 0, 0, 0)) v).1 (askM W ((W.ins g).getD (0, 0, 0, 0)) v).2 ∧
    DdOk (B + W.ks.length + 1) W (doM W g (W.ins g) (askM W ((W.ins g).getD (0, 0, 0, 0)) v).1 (askM W ((W.ins g).getD (0, 0, 0, 0)) v).2) := by
  obtain ⟨l1, l2, l3, l4⟩ := hl
  simp only [Int.toNat_natCast] at l4
  have hg : g < W.gs.length := by omega
  have hG := h.at hg
  have hf := hG.fr ((W.g g).n - 1) (by have := hG.n; omega)
  have hm : (W.fs.getD (W.g g).fn.toNat []).length ≤ 900 := by
    rw [List.getD_eq_getElem?_getD]
    cases e : W.fs[(W.g g).fn.toNat]? with
    | none => simp
    | some l => exact h.p.fl l (List.mem_of_getElem? e)
  have hpc : 0 ≤ (W.g g).pc ∧ (W.g g).pc ≤ ((W.fs.getD (W.g g).fn.toNat []).length : Int) := hf.2.1
  cases hx : W.ins g with
  | none =>
    refine ⟨⟨hg, hG.n, by omega, fun x hx' _ => (by rw [hx] at hx'; cases hx'), fun x hx' _ => (by rw [hx] at hx'; cases hx')⟩, ?_⟩
    exact ⟨h.mono (by omega), Fol.refl _⟩
  | some x =>
    obtain ⟨k1, k2, k3⟩ := h.insOk hx
    obtain ⟨s1, s2, s3⟩ := h.step hg l4 hx
    simp only [Option.getD_some]
    have hask : x.1 = 16 → (askM W x v).2 = true → (0 ≤ (askM W x v).1 ∧ (askM W x v).1 < (((W.step g).cas x).length : Int)) ∧ (((W.step g).cas x).getD (askM W x v).1.toNat (1, 0, 0)).1 ≠ 2 := fun e1 e2 => by
      rw [cas_eq s3.ks]; exact askM_place e1 e2
    refine ⟨⟨hg, hG.n, by omega, fun y hy hp => ?_, fun y hy hp => ?_⟩, ?_⟩
    · rw [hx] at hy; cases hy
      cases e : pureM x (W.g g).o (W.g g).z with
      | none => exact absurd e hp
      | some z => exact k1.pure (pureM_some e k1.op.1)
    · rw [hx] at hy; cases hy
      exact (s1.deed hB s2 (k1.fol s3) (pureM_none hp k1.op.1) hask).1
    · unfold doM
      simp only
      split
      · rename_i z e
        exact ⟨(h.setG (by rw [l4]; decide) (hG.pure k1 ⟨hpc.1, k3⟩ e)).mono (by omega), fol_setG _ _ _⟩
      · rename_i e
        have := (s1.deed hB s2 (k1.fol s3) (pureM_none e k1.op.1) hask).2
        rw [s3.ks] at this
        exact ⟨this.1, s3.trans this.2⟩
theorem WF.exec {B : Nat} {W : Wd} (h : WF B W) (hB : B ≤ 80000) (g v : Int) : WF (B + W.ks.length + 1) (execM W g v).1 ∧ Fol W (execM W g v).1 := by
  unfold execM
  split
  · rename_i hl
    have e : g = ((g.toNat : Nat) : Int) := by have := hl.2.1; omega
    have hl' : W.lets ((g.toNat : Nat) : Int) := by rw [← e]; exact hl
    obtain ⟨a, b⟩ := (h.do_ hB hl' v).2
    exact ⟨a.end_, fol_end b⟩
  · exact ⟨h.mono (by omega), Fol.refl _⟩
/-- Exec may be asked. -/
theorem WF.execOk {B : Nat} {W : Wd} (h : WF B W) (hB : B ≤ 80000) {g : Nat} (hl : W.lets (g : Int)) : ExecOk W g := by
  have hl' := hl
  obtain ⟨l1, l2, l3, l4⟩ := hl
  have hg : g < W.gs.length := by omega
  have hG := h.at hg
  have hf := hG.fr ((W.g g).n - 1) (by have := hG.n; omega)
  have hm : (W.fs.getD (W.g g).fn.toNat []).length ≤ 900 := by
    rw [List.getD_eq_getElem?_getD]
    cases e : W.fs[(W.g g).fn.toNat]? with
    | none => simp
    | some l => exact h.p.fl l (List.mem_of_getElem? e)
  have hpc : 0 ≤ (W.g g).pc ∧ (W.g g).pc ≤ ((W.fs.getD (W.g g).fn.toNat []).length : Int) := hf.2.1
  have hfn : 0 ≤ (W.g g).fn ∧ (W.g g).fn < (W.fs.length : Int) := hf.1
  refine ⟨hl', ⟨hg, by have := h.g1.2; omega, hG.n, hfn, by omega⟩, ?_, fun v => (h.do_ hB hl' v).1, fun v => ?_⟩
  · cases hx : W.ins g with
    | none => exact ⟨fun e => absurd e (by decide), fun e => absurd e (by decide)⟩
    | some x =>
      obtain ⟨k1, -, -⟩ := h.insOk hx
      exact ⟨fun e => ⟨k1.casX (.inr (.inr e)), by have := h.p.kl; omega, k1.casOk (.inr (.inr e)) h.p.ck⟩, fun e => by have := k1.o21 e; simp only [Option.getD_some] at *; omega⟩
  · obtain ⟨a, b⟩ := h.exec hB (g : Int) v
    have hg' : g < (execM W (g : Int) v).1.gs.length := by have := b.gl; omega
    exact ⟨hg', (a.at hg').n⟩
end Go.Proofs.YtjidcagklakjaaaGreat
/-
  Worlds that programs come to: the clock; new ones.
-/
open Go Go.RowKit
set_option linter.unusedVariables false
namespace Go.Proofs.YtjidcagklakjaaaGreat
theorem wakes_perm : ∀ (k : Nat) (l : List It) (now : Int), l.length ≤ k → ((wakes l now).1 ++ (wakes l now).2).Perm l ∧ (HeapI l → HeapI (wakes l now).2)
  | 0, l, now, h => by
    obtain rfl : l = [] := List.eq_nil_of_length_eq_zero (by omega)
    rw [wakes_stop (by simp)]; exact ⟨List.Perm.refl _, id⟩
  | k + 1, l, now, h => by
    by_cases c : 0 < l.length ∧ (gI l 0).at_ ≤ now
    · rw [wakes_go c.1 c.2]
      obtain ⟨a, b⟩ := wakes_perm k (remF l 0) now (by rw [remF_len c.1]; omega)
      exact ⟨(List.Perm.cons _ a).trans (rem_perm c.1).symm, fun hh => b (rem_heap c.1 hh)⟩
    · rw [wakes_stop c]; exact ⟨List.Perm.refl _, id⟩
theorem wokeM_wf {B : Nat} : ∀ (l : List It) (W : Wd), WF B W → (∀ x ∈ l, (0 ≤ x.id ∧ x.id < (W.gs.length : Int)) ∧ (W.g x.id.toNat).st = 3) → (l.map (·.id)).Nodup → (∀ x ∈ l, ∀ y ∈ W.hp, y.id ≠ x.id) →
    WF B (wokeM W l) ∧ Fol W (wokeM W l) ∧ (wokeM W l).hp = W.hp ∧ (wokeM W l).clock = W.clock
  | [], W, h, _, _, _ => ⟨h, Fol.refl _, rfl, rfl⟩
  | x :: t, W, h, h1, h2, h3 => by
    obtain ⟨hx1, hx2⟩ := h1 x (by simp)
    have hg : x.id.toNat < W.gs.length := by omega
    have hxn : ((x.id.toNat : Nat) : Int) = x.id := by omega
    have hG := h.at hg
    have hw : WF B (W.setSt x.id.toNat 1) := h.goes x.id.toNat _ ⟨hG.n, hG.len, hG.fr⟩ (fun C hC => by
        rw [hxn]
        obtain ⟨-, -, -, k1, k2⟩ := h.cs C hC
        exact ⟨fun w hw e => by have := (k1 w hw).2.1; rw [e, hx2] at this; omega, fun w hw e => by have := (k2 w hw).2.1; rw [e, hx2] at this; omega⟩) (fun i L hL hm => by
        rw [hxn] at hm
        have := ((h.ls i L hL).2.2.2 _ hm).1; rw [hx2] at this; omega) (fun y hy => by rw [hxn]; exact h3 x (by simp) y hy)
    rw [List.map_cons, List.nodup_cons] at h2
    obtain ⟨a, b, c, d⟩ := wokeM_wf t (W.setSt x.id.toNat 1) hw (fun y hy => by
        obtain ⟨k1, k2⟩ := h1 y (by simp [hy])
        refine ⟨by rw [setSt_len]; exact k1, ?_⟩
        rw [setSt_at hg, if_neg (fun e => h2.1 (by
          have : y.id = x.id := by omega
          rw [← this]; exact List.mem_map_of_mem (f := (·.id)) hy))]
        exact k2) h2.2 (fun y hy z hz => h3 y (by simp [hy]) z hz)
    exact ⟨a, (fol_setG _ _ _).trans b, c, d⟩
theorem WF.tick {B : Nat} {W : Wd} (h : WF B W) : WF (B + 1) (tickM W).1 ∧ Fol W (tickM W).1 := by
  unfold tickM
  split
  · simp only
    obtain ⟨a, b⟩ := wakes_perm _ W.hp ((W.clock : Int) + 1) (Nat.le_refl _)
    have hall : ∀ x, x ∈ (wakes W.hp ((W.clock : Int) + 1)).1 ∨ x ∈ (wakes W.hp ((W.clock : Int) + 1)).2 → x ∈ W.hp := fun x hx => a.mem_iff.1 (List.mem_append.2 hx)
    have hnd := (a.map (·.id)).nodup_iff.2 h.hp.2.1
    rw [List.map_append, List.nodup_append] at hnd
    obtain ⟨n1, n2, n3⟩ := hnd
    have hlen := a.length_eq
    rw [List.length_append] at hlen
    have h1 : WF (B + 1) { W with clock := W.clock + 1, hp := (wakes W.hp ((W.clock : Int) + 1)).2 } :=
      ⟨h.p, h.ns, h.g1, h.gw, fun C hC => (h.cs C hC).mono (by omega), fun i L hL => (h.ls i L hL).mono (by omega), ⟨by show (wakes W.hp _).2.length ≤ _; have := h.hp.1; omega, n2, fun x hx => h.hp.2.2.1 x (hall x (.inr hx)), b h.hp.2.2.2⟩, Nat.le_trans h.nx (by omega), by show W.clock + 1 ≤ B + 1; have := h.clock; omega, h.out⟩
    obtain ⟨c, d, -, -⟩ := wokeM_wf (wakes W.hp ((W.clock : Int) + 1)).1 _ h1 (fun x hx => by
      obtain ⟨k1, k2, -⟩ := h.hp.2.2.1 x (hall x (.inl hx)); exact ⟨k1, k2⟩) n1 (fun x hx y hy e => n3 x.id (List.mem_map_of_mem (f := (·.id)) hx) y.id (List.mem_map_of_mem (f := (·.id)) hy) e.symm)
    exact ⟨c, d.fs, d.ks, d.Ns, d.cl, d.ll, d.gl⟩
  · exact ⟨h.mono (by omega), Fol.refl _⟩
theorem newM_wf {fs : List (List In4)} {ks : List Cs3} {rooms : List Int} {locks : Nat} (h : PW fs ks rooms.length locks) : WF 0 (newM fs ks rooms locks) := by
  refine ⟨by unfold newM; simpa using h, ⟨by unfold newM; simp, fun N hN => ?_⟩, by unfold newM; simp, fun G hG => ?_, fun C hC => ?_, fun i L hL => ?_, ⟨by unfold newM; simp, by unfold newM; simp, fun x hx => by unfold newM at hx; simp at hx, fun i _ hi => by unfold newM at hi; simp at hi⟩, by unfold newM; simp, by unfold newM; simp, by unfold newM; simp⟩
  · obtain ⟨z, -, rfl⟩ := List.mem_map.1 hN
    exact roomC_le z
  · simp only [newM, List.mem_cons, List.not_mem_nil, or_false] at hG
    subst hG
    exact GW.new 1 ⟨by omega, by have := h.f; show (0 : Int) < (fs.length : Int); omega⟩ ⟨by omega, by omega⟩
  · obtain ⟨z, -, rfl⟩ := List.mem_map.1 hC
    exact ⟨by simp, by simp, by simp, fun w hw => by simp at hw, fun w hw => by simp at hw⟩
  · have hm : L ∈ List.replicate locks ([] : List Int) := List.mem_of_getElem? hL
    rw [List.mem_replicate] at hm
    rw [hm.2]
    exact ⟨by simp, fun g hg => by simp at hg, by simp, fun g hg => by simp at hg⟩
end Go.Proofs.YtjidcagklakjaaaGreat
/-
  What a world says of itself.
-/
open Go Go.RowKit
set_option linter.unusedVariables false
namespace Go.Proofs.YtjidcagklakjaaaGreat
section
variable {w0 w : World} {p : Nat} {W : Wd} {D : Wa} {T : List Value} {Y : List Asr}
set_option maxRecDepth 100000 in
theorem wlen_any (h : Own w0 w (wparts p W D T ++ Y)) :
    Calls Tryz.prog 29 #[.pointer (some ⟨p, 0, none⟩)] w fun r w' => r = .returned (.int .i64 (W.gs.length : Int)) ∧ w' = w := by
  have p2 := (h.cel 0 rfl 2 _ rfl).1
  generalize W.gs.length = n at *
  clear h
  go_enter Tryz.func29, Tryz.ntmps29
  go_wp2
  go_ret
  exact ⟨rfl, rfl⟩
set_option maxRecDepth 100000 in
theorem wclock_any (h : Own w0 w (wparts p W D T ++ Y)) :
    Calls Tryz.prog 47 #[.pointer (some ⟨p, 0, none⟩)] w fun r w' => r = .returned (.int .u64 (W.clock : Int)) ∧ w' = w := by
  have p7 := (h.cel 0 rfl 7 _ rfl).1
  generalize W.clock = n at *
  clear h
  go_enter Tryz.func47, Tryz.ntmps47
  go_wp2
  go_ret
  exact ⟨rfl, rfl⟩
set_option maxRecDepth 100000 in
theorem wend_any (h : Own w0 w (wparts p W D T ++ Y)) :
    Calls Tryz.prog 30 #[.pointer (some ⟨p, 0, none⟩)] w fun r w' => r = .returned (.tuple #[.int .i64 W.en, .int .i64 W.why]) ∧ ∃ k, w' = w.drewN k := by
  have p9 := (h.cel 0 rfl 9 _ rfl).1
  have p10 := (h.cel 0 rfl 10 _ rfl).1
  generalize W.en = n at *
  generalize W.why = m at *
  clear h
  go_enter Tryz.func30, Tryz.ntmps30
  go_upto_region 1 with fail
  go_quiet (fail)
  go_wp2
  go_ret2
  exact ⟨rfl, ⟨_, rfl⟩⟩
set_option maxRecDepth 100000 in
set_option maxHeartbeats 1000000 in
theorem wstack_any (h : Own w0 w (wparts p W D T ++ Y)) (hf : D.fits W) (k : Nat) (hk : k < W.gs.length) (hl : W.gs.length ≤ 1000) (hm : 1 ≤ (W.g k).n ∧ (W.g k).n ≤ 16) :
    Calls Tryz.prog 24 #[.pointer (some ⟨p, 0, none⟩), .int .i64 (k : Int)] w fun r w' => ∃ g' cap', r = .returned (.slice (some ⟨g', 0, none⟩) (W.g k).n cap') ∧ w.heap.size ≤ g' ∧ StkAt w' g' (W.g k).n cap' (W.g k).z ∧ Below w.heap.size w w' := by
  have p2 := (h.cel 0 rfl 2 _ rfl).1
  have HH := Lib.hid (fun w => hasG_any D.aa W.gs.length D.ac (k : Int) w)
  obtain ⟨s, cap, hs⟩ := hf.sk_at hk
  obtain ⟨b, off, haa, c0, -, c1, -⟩ := all_at h hk hs
  have hst := (stk_at h hk hs).1
  have HC := Lib.hid (stkclone_any s (W.g k).n cap (W.g k).z w hst hm.1 (by omega))
  have hd : decide (0 ≤ (k : Int) ∧ (k : Int) < (W.gs.length : Int)) = true := decide_eq_true (by omega)
  rw [hd, haa] at HH
  rw [haa] at p2
  have k0 : (0 : Int) ≤ (k : Int) := by omega
  have k8 : (k : Int) < (W.gs.length : Int) := by omega
  generalize W.gs.length = N at *
  clear h hf hk hs haa hd hst
  go_enter Tryz.func24, Tryz.ntmps24
  go_wp2_with fail
  refine (HH.out _).mono ?_
  rintro r w1 ⟨rfl, rfl⟩
  go_wp2_with fail
  refine HC.out.mono ?_
  rintro r w2 ⟨g', cap', rfl, h1, h2, h3⟩
  go_wp2
  go_ret
  exact ⟨_, _, rfl, h1, h2, h3⟩
set_option maxRecDepth 100000 in
theorem wout_any (h : Own w0 w (wparts p W D T ++ Y)) (hl : W.out.length ≤ 1000000) :
    Calls Tryz.prog 21 #[.pointer (some ⟨p, 0, none⟩)] w fun r w' => ∃ a' c', r = .returned (.slice a' W.out.length c') ∧ RowG 1 w' a' c' W.out.length (intc W.out) ∧ (∀ x ∈ blk a', w.heap.size ≤ x) ∧ Below w.heap.size w w' := by
  have p8 := (h.cel 0 rfl 8 _ rfl).1
  have HC := Lib.hid (clonei_any w D.oa W.out.length D.oc (intc W.out) (h.rowG 9 rfl) (by intro u hu; obtain ⟨v, -, rfl⟩ := List.mem_map.1 hu; rfl) hl)
  generalize W.out.length = n at *
  clear h hl
  go_enter Tryz.func21, Tryz.ntmps21
  go_wp2_with fail
  refine HC.out.mono ?_
  rintro r w2 ⟨a', c', rfl, h2⟩
  have H2 := Lib.hid h2
  clear h2
  go_wp2
  go_ret
  exact ⟨_, _, rfl, H2.out⟩
theorem st_get {w : World} {b : Nat} {k : Bool} {a1 a2 a3 : Option Addr} {n1 c1 n2 c2 n3 c3 : Nat} (e0 : w.cell? ⟨b, 0, none⟩ = some (.slice a1 n1 c1)) (e1 : w.cell? ⟨b, 1, none⟩ = some (.slice a2 n2 c2)) (e2 : w.cell? ⟨b, 2, none⟩ = some (.slice a3 n3 c3)) (e3 : w.cell? ⟨b, 3, none⟩ = some (.bool k)) :
    (loadVar 88 ⟨b, 0, none⟩).run Tryz.prog w = .ok (.agg #[.slice a1 n1 c1, .slice a2 n2 c2, .slice a3 n3 c3, .bool k]) w := by
  simp [go_sem, e0, e1, e2, e3]
set_option maxRecDepth 100000 in
set_option maxHeartbeats 4000000 in
theorem wchan_any (h : Own w0 w (wparts p W D T ++ Y)) (hf : D.fits W) (i : Nat) (hi : i < W.Cs.length) (hb : (W.ch (i : Int)).buf.length ≤ 100000) (hs : (W.ch (i : Int)).S.length ≤ 100000) (hr : (W.ch (i : Int)).R.length ≤ 100000) :
    Calls Tryz.prog 26 #[.pointer (some ⟨p, 0, none⟩), .int .i64 (i : Int)] w fun r w' => ∃ ba bc sa sc ra rc, r = .returned (.agg #[.slice ba (W.ch (i : Int)).buf.length bc, .slice sa (W.ch (i : Int)).S.length sc, .slice ra (W.ch (i : Int)).R.length rc, .bool (W.ch (i : Int)).cl]) ∧ Own w0 w' (wparts p W D T ++ Y) := by
  have o1 := (h.alloc [.slice none 0 0, .slice none 0 0, .slice none 0 0, .bool false] 88 (b := w.heap.size) rfl)
  generalize hw1 : w.alloc (.cells [.slice none 0 0, .slice none 0 0, .slice none 0 0, .bool false].toArray 88) = w1 at o1
  have o2 := o1.mid
  obtain ⟨pt, b, off, R', -, haa, hc, ho, -⟩ := own_chan o2 hf hi
  have HS := Lib.hid (cstate_any ho hb hs hr)
  have p3 := (o2.cel 0 rfl 3 _ rfl).1
  have HH := Lib.hid (fun w => hasC_any D.ha W.Cs.length D.hc (i : Int) w)
  have hd : decide (0 ≤ (i : Int) ∧ (i : Int) < (W.Cs.length : Int)) = true := decide_eq_true (by omega)
  rw [hd, haa] at HH
  rw [haa] at p3
  have k0 : (0 : Int) ≤ (i : Int) := by omega
  have k8 : (i : Int) < (W.Cs.length : Int) := by omega
  have H1 := Lib.hid o1
  generalize W.Cs.length = N at *
  generalize (W.ch (i : Int)).buf.length = l1 at *
  generalize (W.ch (i : Int)).S.length = l2 at *
  generalize (W.ch (i : Int)).R.length = l3 at *
  generalize (W.ch (i : Int)).cl = cl at *
  have HW := Lib.hid hw1
  clear h hf hi haa hd ho o1 o2 hb hs hr hw1
  go_enter Tryz.func26, Tryz.ntmps26
  go_upto_region 1 with fail
  rw [show w.alloc (.cells #[.slice none 0 0, .slice none 0 0, .slice none 0 0, .bool false] 88) = w1 from HW.out]
  generalize w.heap.size = b4 at *
  clear HW
  go_wp2_with fail
  refine (HH.out _).mono ?_
  rintro r w2 ⟨rfl, rfl⟩
  go_wp2_with fail
  refine HS.out.mono ?_
  rintro r w3 ⟨ba, bc, sa, sc, ra, rc, rfl, -, hb3⟩
  have o3 := H1.out.step hb3
  obtain ⟨z0, y0⟩ := o3.cel 0 rfl 0 _ rfl
  obtain ⟨z1, y1⟩ := o3.cel 0 rfl 1 _ rfl
  obtain ⟨z2, y2⟩ := o3.cel 0 rfl 2 _ rfl
  obtain ⟨z3, y3⟩ := o3.cel 0 rfl 3 _ rfl
  have H4 := Lib.hid ((((o3.set 0 (.slice ba l1 bc)).set 1 (.slice sa l2 sc)).set 2 (.slice ra l3 rc)).set 3 (.bool cl))
  clear o3 H1 HS hb3
  go_wp2
  exact bodyPost_ret (results_cell Tryz.results26 _ ⟨b4, 0, none⟩ rfl (st_get (H4.out.cel 0 rfl 0 _ rfl).1 (H4.out.cel 0 rfl 1 _ rfl).1 (H4.out.cel 0 rfl 2 _ rfl).1 (H4.out.cel 0 rfl 3 _ rfl).1)) rfl ⟨ba, bc, sa, sc, ra, rc, rfl, H4.out.drop⟩
end
end Go.Proofs.YtjidcagklakjaaaGreat
/-
  A program's parts, cloned.
-/
open Go Go.RowKit
set_option linter.unusedVariables false
namespace Go.Proofs.YtjidcagklakjaaaGreat
theorem info_case : (Tryz.prog.info? 80).map (fun i => (i.zero, i.size, i.bytes)) = some (some (.agg #[.int .i64 0, .int .i64 0, .int .i64 0]), 3, 24) := by kernel_rfl
theorem info_ins : (Tryz.prog.info? 73).map (fun i => (i.zero, i.size, i.bytes)) = some (some (.agg #[.int .i64 0, .int .i64 0, .int .i64 0, .int .i64 0]), 4, 32) := by kernel_rfl
set_option maxRecDepth 100000 in
set_option maxHeartbeats 4000000 in
theorem clonek_any (w : World) (a : Option Addr) (n c : Nat) (cs : List Value) (h : CellsAt w a cs) (hlen : cs.length = n * 3) (hnil : a = none → c = 0) (hone : ∀ u ∈ cs, u.oneCell' = true) (hl : n ≤ 1000000) :
    Calls Tryz.prog 34 #[.slice a n c] w fun r w' => ∃ a' c', r = .returned (.slice a' n c') ∧ RowG 3 w' a' c' n cs ∧ (∀ x ∈ blk a', w.heap.size ≤ x) ∧ Below w.heap.size w w' := by
  cases a with
  | none =>
    have hcs : cs = [] := by
      cases cs with
      | nil => rfl
      | cons u t => obtain ⟨b, off, hx, -⟩ := h 0 u rfl; cases hx
    subst hcs
    obtain rfl : c = 0 := hnil rfl
    obtain rfl : n = 0 := by simp at hlen; omega
    clear h hone hlen hnil
    have he : ∀ w : World, (binOp .eql 33 (.slice none 0 0) (.slice none 0 0)).run Tryz.prog w = .ok (.bool true) w := fun _ => rfl
    go_enter Tryz.func34, Tryz.ntmps34
    go_wp2
    go_ret
    exact ⟨none, 0, rfl, RowG.nil _ _, fun x hx => by simp [blk] at hx, Below.refl _ _⟩
  | some ad =>
    obtain ⟨i0, hi0, hz0, hz1, hz2⟩ := info_parts info_case
    have Hi := Lib.hid hi0; clear hi0
    have Hz0 := Lib.hid hz0; clear hz0
    have Hz1 := Lib.hid hz1; clear hz1
    have Hz2 := Lib.hid hz2; clear hz2
    have H := Lib.hid h
    have HN := Lib.hid hlen
    have HO := Lib.hid hone
    clear h hone hlen hnil
    have he : ∀ w : World, (binOp .eql 33 (.slice (some ad) n c) (.slice none 0 0)).run Tryz.prog w = .ok (.bool false) w := fun _ => rfl
    go_enter Tryz.func34, Tryz.ntmps34
    go_wp2_with (at_builtin; refine wpList_append_rowG (m := n) (n := 0) (cs := []) (ds := cs) rfl _ _ 33 rfl 80 i0 _ Tryz.underlying33 Hi.out Hz0.out Hz1.out Hz2.out rfl (by omega) (by omega) rfl rfl (RowG.zero (by simp)) (H.out.below (below_alloc1 _ _)) HN.out HO.out (by omega) ?_)
    intro a1 c1 w1 k1 ch1 f1
    have hf : RowG 3 w1 a1 c1 n cs ∧ (∀ x ∈ blk a1, w.heap.size ≤ x) ∧ Below w.heap.size w w1 := by
      refine ⟨by simpa using k1, fun x hx => ?_, Chg.below (below_alloc1 _ _) ch1 (fun x hx => by simp [blk] at hx; omega)⟩
      rcases f1 x hx with h | h
      · simp [blk] at h; omega
      · first | omega | (simp at h; omega)
    have HF := Lib.hid hf
    clear hf k1 ch1 f1
    go_wp2
    go_ret
    exact ⟨a1, c1, by simp, HF.out⟩
set_option maxRecDepth 100000 in
set_option maxHeartbeats 4000000 in
theorem clonef_any (w : World) (a : Option Addr) (n c : Nat) (cs : List Value) (h : CellsAt w a cs) (hlen : cs.length = n * 4) (hnil : a = none → c = 0) (hone : ∀ u ∈ cs, u.oneCell' = true) (hl : n ≤ 1000000) :
    Calls Tryz.prog 36 #[.slice a n c] w fun r w' => ∃ a' c', r = .returned (.slice a' n c') ∧ RowG 4 w' a' c' n cs ∧ (∀ x ∈ blk a', w.heap.size ≤ x) ∧ Below w.heap.size w w' := by
  cases a with
  | none =>
    have hcs : cs = [] := by
      cases cs with
      | nil => rfl
      | cons u t => obtain ⟨b, off, hx, -⟩ := h 0 u rfl; cases hx
    subst hcs
    obtain rfl : c = 0 := hnil rfl
    obtain rfl : n = 0 := by simp at hlen; omega
    clear h hone hlen hnil
    have he : ∀ w : World, (binOp .eql 70 (.slice none 0 0) (.slice none 0 0)).run Tryz.prog w = .ok (.bool true) w := fun _ => rfl
    go_enter Tryz.func36, Tryz.ntmps36
    go_wp2
    go_ret
    exact ⟨none, 0, rfl, RowG.nil _ _, fun x hx => by simp [blk] at hx, Below.refl _ _⟩
  | some ad =>
    obtain ⟨i0, hi0, hz0, hz1, hz2⟩ := info_parts info_ins
    have Hi := Lib.hid hi0; clear hi0
    have Hz0 := Lib.hid hz0; clear hz0
    have Hz1 := Lib.hid hz1; clear hz1
    have Hz2 := Lib.hid hz2; clear hz2
    have H := Lib.hid h
    have HN := Lib.hid hlen
    have HO := Lib.hid hone
    clear h hone hlen hnil
    have he : ∀ w : World, (binOp .eql 70 (.slice (some ad) n c) (.slice none 0 0)).run Tryz.prog w = .ok (.bool false) w := fun _ => rfl
    go_enter Tryz.func36, Tryz.ntmps36
    go_wp2_with (at_builtin; refine wpList_append_rowG (m := n) (n := 0) (cs := []) (ds := cs) rfl _ _ 70 rfl 73 i0 _ Tryz.underlying70 Hi.out Hz0.out Hz1.out Hz2.out rfl (by omega) (by omega) rfl rfl (RowG.zero (by simp)) (H.out.below (below_alloc1 _ _)) HN.out HO.out (by omega) ?_)
    intro a1 c1 w1 k1 ch1 f1
    have hf : RowG 4 w1 a1 c1 n cs ∧ (∀ x ∈ blk a1, w.heap.size ≤ x) ∧ Below w.heap.size w w1 := by
      refine ⟨by simpa using k1, fun x hx => ?_, Chg.below (below_alloc1 _ _) ch1 (fun x hx => by simp [blk] at hx; omega)⟩
      rcases f1 x hx with h | h
      · simp [blk] at h; omega
      · first | omega | (simp at h; omega)
    have HF := Lib.hid hf
    clear hf k1 ch1 f1
    go_wp2
    go_ret
    exact ⟨a1, c1, by simp, HF.out⟩
end Go.Proofs.YtjidcagklakjaaaGreat
/-
  A new world.
-/
open Go Go.RowKit
set_option linter.unusedVariables false
namespace Go.Proofs.YtjidcagklakjaaaGreat
theorem info_code : (Tryz.prog.info? 70).map (fun i => (i.zero, i.size, i.bytes)) = some (some (.slice none 0 0), 1, 24) := by kernel_rfl
theorem Own.rowNil {w0 w : World} {As : List Asr} (h : Own w0 w As) (s : Nat) : Own w0 w (RowGA s none 0 0 [] :: As) := h.add (Below.refl _ _) (A := RowGA s none 0 0 []) (F := []) ⟨rfl, RowG.nil s w⟩ (fun x hx => by simp at hx)
theorem frw_app {fr : List (Option Addr × Nat)} {fs : List (List In4)} (h : fr.length = fs.length) (r : Option Addr × Nat) (l : List In4) : frw (fr ++ [r]) (fs ++ [l]) = frw fr fs ++ [.slice r.1 l.length r.2] := by
  unfold frw; rw [List.zipWith_append h]; rfl
theorem info_chp : (Tryz.prog.info? 111).map (fun i => (i.zero, i.size, i.bytes)) = some (some (.pointer none), 1, 8) := by kernel_rfl
theorem info_lkp : (Tryz.prog.info? 113).map (fun i => (i.zero, i.size, i.bytes)) = some (some (.pointer none), 1, 8) := by kernel_rfl
theorem ptrs_app (ps : List Pl) (x : Pl) : ptrs (ps ++ [x]) = ptrs ps ++ [.pointer (some ⟨x.1, 0, none⟩)] := by unfold ptrs; rw [List.map_append]; rfl
theorem chs_app {ps : List Pl} {Cs : List Ch} (h : ps.length = Cs.length) (x : Pl) (C : Ch) : chs (ps ++ [x]) (Cs ++ [C]) = chs ps Cs ++ [ChanA x.1 x.2 C] := by unfold chs; rw [List.zipWith_append h]; rfl
theorem lptr_app (lp : List Nat) (x : Nat) : lptr (lp ++ [x]) = lptr lp ++ [.pointer (some ⟨x, 0, none⟩)] := by unfold lptr; rw [List.map_append]; rfl
theorem lks_app {lp : List Nat} {Ls : List (List Int)} (h : lp.length = Ls.length) (x : Nat) (L : List Int) : lks (lp ++ [x]) (Ls ++ [L]) = lks lp Ls ++ [LockA x L] := by unfold lks; rw [List.zipWith_append h]; rfl
theorem Sep.mem {w : World} : ∀ {l : List Asr} {F : List Nat} {i : Nat} {A : Asr}, Sep w l F → l[i]? = some A → ∃ G, A.at_ w G ∧ ∀ x ∈ G, x ∈ F
  | [], _, _, _, _, hi => by simp at hi
  | B :: t, F, 0, A, h, hi => by
    obtain ⟨F1, F2, rfl, h1, -, h2⟩ := h
    simp at hi; subst hi
    exact ⟨F1, h1, fun x hx => by simp [hx]⟩
  | B :: t, F, i + 1, A, h, hi => by
    obtain ⟨F1, F2, rfl, h1, -, h2⟩ := h
    obtain ⟨G, g1, g2⟩ := Sep.mem h2 (by simpa using hi)
    exact ⟨G, g1, fun x hx => by simp [g2 x hx]⟩
/-- A program that is given. -/
structure ProgIn (w : World) (fa : Option Addr) (fr : List (Option Addr × Nat)) (fs : List (List In4)) (ra : Option Addr) (rooms : List Int) (ca : Option Addr) (cc : Nat) (ks : List Cs3) : Prop where
  f : CellsAt w fa (frw fr fs)
  fl : fr.length = fs.length
  each : ∀ (i : Nat) (r : Option Addr × Nat) (l : List In4), fr[i]? = some r → fs[i]? = some l → CellsAt w r.1 (i4s l) ∧ (r.1 = none → r.2 = 0) ∧ l.length ≤ 1000000
  c : CellsAt w ra (intc rooms)
  k : CellsAt w ca (c3s ks)
  kn : ca = none → cc = 0
  kl : ks.length ≤ 1000
  nf : fs.length ≤ 1000
  nc : rooms.length ≤ 1000
def clns (fr : List (Option Addr × Nat)) (fs : List (List In4)) : List Asr := List.zipWith (fun r l => RowGA 4 r.1 r.2 l.length (i4s l)) fr fs
theorem clns_app {fr : List (Option Addr × Nat)} {fs : List (List In4)} (h : fr.length = fs.length) (r : Option Addr × Nat) (l : List In4) : clns (fr ++ [r]) (fs ++ [l]) = clns fr fs ++ [RowGA 4 r.1 r.2 l.length (i4s l)] := by
  unfold clns; rw [List.zipWith_append h]; rfl
/-- The functions' row, their rows and the cases' row are a program. -/
theorem code_fold {w0 w : World} {fA : Option Addr} {fC n m cc : Nat} {fr : List (Option Addr × Nat)} {fs : List (List In4)} {ca : Option Addr} {ks : List Cs3} {R : List Asr} (h : Own w0 w (RowGA 1 fA fC n (frw fr fs) :: LstA (clns fr fs) :: RowGA 3 ca cc m (c3s ks) :: R)) : Own w0 w (CodeA fA fr fs ca ks :: R) := by
  refine Own.turn (As := [RowGA 1 fA fC n (frw fr fs), LstA (clns fr fs), RowGA 3 ca cc m (c3s ks)]) (As' := [CodeA fA fr fs ca ks]) (R := R) h (fun F hF => ?_)
  refine ⟨F, sep_one.2 ?_, Chg.refl _ _, fun x hx => .inl hx⟩
  have hlt := hF.lt
  obtain ⟨F1, Fa, rfl, ⟨rfl, h1⟩, -, F2, Fb, rfl, h2, -, F3, F4, rfl, ⟨rfl, h3⟩, -, rfl⟩ := hF
  refine ⟨hlt, ⟨fun x hx => by simp [hx], h1.cells⟩, ⟨fun x hx => by simp [hx], h3.cells⟩, fun i r l hr hl => ?_⟩
  have hi : (clns fr fs)[i]? = some (RowGA 4 r.1 r.2 l.length (i4s l)) := by unfold clns; rw [List.getElem?_zipWith, hr, hl]
  obtain ⟨G, ⟨rfl, g1⟩, g2⟩ := Sep.mem h2 hi
  exact ⟨fun x hx => by simp [g2 x hx], g1.cells⟩
theorem i4s_len2 (l : List In4) : (i4s l).length = l.length * 4 := by
  induction l with
  | nil => rfl
  | cons x t ih => simp only [i4s, List.flatMap_cons, List.length_append, List.length_cons] at ih ⊢; rw [ih]; simp [i4c]; omega
def nwc (fA : Option Addr) (i fC : Nat) (hA : Option Addr) (j hC : Nat) (lA : Option Addr) (k lC : Nat) (ca : Option Addr) (nk cc : Nat) (aa : Option Addr) : List Value :=
  [.slice fA i fC, .slice ca nk cc, .slice aa 1 1, .slice hA j hC, .slice lA k lC, .slice none 0 0, .int .u64 0, .int .u64 0, .slice none 0 0, .int .i64 0, .int .i64 0]
/-- The pieces while a world is made. -/
def npts (b : Nat) (fA : Option Addr) (fC : Nat) (fr : List (Option Addr × Nat)) (fs : List (List In4)) (hA : Option Addr) (hC : Nat) (ps : List Pl) (Cs : List Ch) (lA : Option Addr) (lC : Nat) (lp : List Nat) (Ls : List (List Int)) (ca : Option Addr) (cc : Nat) (ks : List Cs3) (aa : Option Addr) (g : Nat) : List Asr :=
  [CelA b (nwc fA fs.length fC hA Cs.length hC lA Ls.length lC ca ks.length cc aa), RowGA 1 fA fC fs.length (frw fr fs), LstA (clns fr fs), RowGA 3 ca cc ks.length (c3s ks), RowGA 2 aa 1 1 [.int .i64 1, .slice (some ⟨g, 0, none⟩) 1 1], LstA [StkA g 1 1 (newF 0 0 0)],
   RowGA 1 hA hC Cs.length (ptrs ps), LstA (chs ps Cs), RowGA 1 lA lC Ls.length (lptr lp), LstA (lks lp Ls)]
theorem c3s_one (ks : List Cs3) : ∀ u ∈ c3s ks, u.oneCell' = true := by
  intro u hu
  unfold c3s at hu
  obtain ⟨k, -, hk⟩ := List.mem_flatMap.1 hu
  simp only [c3c, List.mem_cons, List.not_mem_nil, or_false] at hk
  rcases hk with rfl | rfl | rfl <;> rfl
theorem i4s_one (l : List In4) : ∀ u ∈ i4s l, u.oneCell' = true := by
  intro u hu
  unfold i4s at hu
  obtain ⟨k, -, hk⟩ := List.mem_flatMap.1 hu
  simp [i4c] at hk
  rcases hk with rfl | rfl | rfl | rfl <;> rfl
set_option maxRecDepth 100000 in
set_option maxHeartbeats 16000000 in
theorem wnew_any (w : World) (fa : Option Addr) (fc : Nat) (fr : List (Option Addr × Nat)) (fs : List (List In4)) (ra : Option Addr) (rc : Nat) (rooms : List Int) (locks : Nat) (ca : Option Addr) (cc : Nat) (ks : List Cs3) (hp : ProgIn w fa fr fs ra rooms ca cc ks) (hlk : locks ≤ 1000) :
    Calls Tryz.prog 10 #[.agg #[.slice fa fs.length fc, .slice ra rooms.length rc, .int .i64 (locks : Int), .slice ca ks.length cc]] w fun r w' => ∃ b D, r = .returned (.pointer (some ⟨b, 0, none⟩)) ∧ D.fits (newM fs ks rooms locks) ∧ Own w w' (wparts b (newM fs ks rooms locks) D []) := by
  obtain ⟨hf, hfl, heach, hc, hk, hkn, hkl, hnf, hnc⟩ := hp
  have b1 := below_alloc1 w (.cells #[.slice fa fs.length fc, .slice ra rooms.length rc, .int .i64 (locks : Int), .slice ca ks.length cc] 35)
  have x0 := Blk.mk w [.slice fa fs.length fc, .slice ra rooms.length rc, .int .i64 (locks : Int), .slice ca ks.length cc] 35 w.heap.size rfl
  have o1 : Own w (w.alloc (.cells #[.slice fa fs.length fc, .slice ra rooms.length rc, .int .i64 (locks : Int), .slice ca ks.length cc] 35)) [CelA w.heap.size [.slice fa fs.length fc, .slice ra rooms.length rc, .int .i64 (locks : Int), .slice ca ks.length cc]] :=
    (Own.nil (Below.refl _ _)).alloc _ _ rfl
  have HO1 := Lib.hid o1
  have HKC := Lib.hid (clonek_any _ ca ks.length cc (c3s ks) (hk.below b1) (c3s_len ks) hkn (c3s_one ks) (by omega))
  have HF := Lib.hid hf
  have HC := Lib.hid hc
  have HE := Lib.hid heach
  have HFL := Lib.hid hfl
  obtain ⟨i1, -⟩ := x0 0 _ rfl
  obtain ⟨i2, -⟩ := x0 1 _ rfl
  obtain ⟨i3, -⟩ := x0 2 _ rfl
  obtain ⟨i4, -⟩ := x0 3 _ rfl
  clear hf hfl heach hc hk hkn x0 o1 b1
  go_enter Tryz.func10, Tryz.ntmps10
  go_wp2_with fail
  refine HKC.out.mono ?_
  rintro r w2 ⟨ca', cc', rfl, hr2, hf2, hb2⟩
  have o2 := HO1.out.add hb2 (A := RowGA 3 ca' cc' ks.length (c3s ks)) (F := blk ca') ⟨rfl, hr2⟩ hf2
  have H2 := Lib.hid o2
  clear o2 hr2 hf2 hb2 HKC HO1
  go_wp2_with fail
  refine (gbegin_any 0 0 _).mono ?_
  rintro r w3 ⟨g, rfl, hg, hs, hb3⟩
  have o3 := H2.out.add hb3 (A := StkA g 1 1 (newF 0 0 0)) (F := [g]) ⟨rfl, hs⟩ (by intro x hx; simp at hx; omega)
  have H3 := Lib.hid o3
  clear o3 hg hs hb3 H2
  have H4 := Lib.hid (((((((H3.out.pick 2 rfl).lst (l := [])).rowNil 1).lst (l := [])).rowNil 1).pick 5 rfl).lst (l := [StkA g 1 1 (newF 0 0 0)]))
  clear H3
  have o5 := H4.out.add (below_alloc1 w3 (.cells #[.int .i64 1, .slice (some ⟨g, 0, none⟩) 1 1] 101)) (A := RowGA 2 (some ⟨w3.heap.size, 0, none⟩) 1 1 [.int .i64 1, .slice (some ⟨g, 0, none⟩) 1 1]) (F := [w3.heap.size]) ⟨rfl, RowG.new 2 1 w3 [.int .i64 1, .slice (some ⟨g, 0, none⟩) 1 1] _ rfl (by simp [maxLen]) rfl⟩ (by intro x hx; simp at hx; subst hx; exact Nat.le_refl _)
  have o6 := (((o5.pick 7 rfl).lst (l := [])).rowNil 1).alloc (nwc none 0 0 none 0 0 none 0 0 ca' ks.length cc' (some ⟨w3.heap.size, 0, none⟩)) 109 (b := w3.heap.size + 1) (by simp)
  have H6 : Hid (Own w ((w3.alloc (.cells #[.int .i64 1, .slice (some ⟨g, 0, none⟩) 1 1] 101)).alloc (.cells #[.slice none 0 0, .slice ca' ks.length cc', .slice (some ⟨w3.heap.size, 0, none⟩) 1 1, .slice none 0 0, .slice none 0 0, .slice none 0 0, .int .u64 0, .int .u64 0, .slice none 0 0, .int .i64 0, .int .i64 0] 109)) (npts (w3.heap.size + 1) none 0 [] [] none 0 [] [] none 0 [] [] ca' cc' ks (some ⟨w3.heap.size, 0, none⟩) g ++ [CelA w.heap.size [.slice fa fs.length fc, .slice ra rooms.length rc, .int .i64 (locks : Int), .slice ca ks.length cc]])) := Lib.hid o6
  clear o5 o6 H4
  go_upto_region 2 with fail
  generalize ((w3.alloc (.cells #[.int .i64 1, .slice (some ⟨g, 0, none⟩) 1 1] 101)).alloc (.cells #[.slice none 0 0, .slice ca' ks.length cc', .slice (some ⟨w3.heap.size, 0, none⟩) 1 1, .slice none 0 0, .slice none 0 0, .slice none 0 0, .int .u64 0, .int .u64 0, .slice none 0 0, .int .i64 0, .int .i64 0] 109)) = w6 at *
  generalize w3.heap.size + 1 = b at *
  generalize w3.heap.size = sa at *
  generalize w.heap.size = pb at *
  have z0 := (H6.out.cel 10 rfl 0 _ rfl).1
  clear i1 i2 i3 i4
  go_wp2_with fail
  go_loopw [18] (fun iv wr => ∃ i : Nat, ∃ fA fC fr', i ≤ fs.length ∧ iv = .int .i64 i ∧ Hid (fr'.length = i ∧ Own w wr (npts b fA fC fr' (fs.take i) none 0 [] [] none 0 [] [] ca' cc' ks (some ⟨sa, 0, none⟩) g ++ [CelA pb [.slice fa fs.length fc, .slice ra rooms.length rc, .int .i64 (locks : Int), .slice ca ks.length cc]]))) (fun iv _ => fs.length - (intOf iv).toNat)
  case atStart => exact ⟨0, none, 0, [], by omega, rfl, Lib.hid ⟨rfl, H6.out⟩⟩
  case round =>
    obtain ⟨i, fA, fC, fr', hi, rfl, hr⟩ := hrel
    by_cases hlt : i < fs.length
    · have hifr : i < fr.length := by rw [HFL.out]; exact hlt
      obtain ⟨l, hl⟩ : ∃ l, l = fs[i] := ⟨_, rfl⟩
      have hle : fs[i]? = some l := by rw [hl]; exact List.getElem?_eq_getElem hlt
      obtain ⟨r0, hr0⟩ : ∃ r, r = fr[i] := ⟨_, rfl⟩
      have hre : fr[i]? = some r0 := by rw [hr0]; exact List.getElem?_eq_getElem hifr
      obtain ⟨hrl, ho⟩ := hr.out
      obtain ⟨e1, e2, e3⟩ := HE.out i r0 l hre hle
      obtain ⟨r1, rcap⟩ := r0
      simp only at e1 e2 e3
      obtain ⟨bf, off, rfl, hcf⟩ := HF.out i (.slice r1 l.length rcap) (by unfold frw; rw [List.getElem?_zipWith, hre, hle])
      have hcf2 := cell_below hcf ho.bel
      have htl : (fs.take i).length = i := by rw [List.length_take]; omega
      have SB : ∀ (wx : World) (L : List Asr), Own w wx L → ∀ k : Nat, L[k]? = some (CelA b (nwc fA (fs.take i).length fC none 0 0 none 0 0 ca' ks.length cc' (some ⟨sa, 0, none⟩))) → wx.cell? ⟨b, 0, none⟩ = some (.slice fA i fC) := fun wx L ho k hk => by
        have := (ho.cel k hk 0 _ rfl).1
        rw [htl] at this
        exact this
      have HSB := Lib.hid SB
      have o1 := ho.step (below_drew1 wr)
      have HCl := Lib.hid (clonef_any wr.drew r1 l.length rcap (i4s l) (e1.below o1.bel) (i4s_len2 l) e2 (i4s_one l) e3)
      have HT : Hid (fs.take (i + 1) = fs.take i ++ [l]) := Lib.hid (by rw [hl]; exact List.take_succ_eq_append_getElem hlt)
      have HTL := Lib.hid htl
      have HRL := Lib.hid hrl
      obtain ⟨i0, hi0, hz0, hz1, hz2⟩ := info_parts info_code
      have Hi := Lib.hid hi0; clear hi0
      have Hz0 := Lib.hid hz0; clear hz0
      have Hz1 := Lib.hid hz1; clear hz1
      have Hz2 := Lib.hid hz2; clear hz2
      have hli : (i : Int) < (fs.length : Int) := by omega
      have hl0 : (0 : Int) ≤ (i : Int) := by omega
      generalize hln : l.length = ln at *
      have HLN := Lib.hid hln
      clear hln
      clear hl hr0 hre hle e1 e2 e3 hcf SB htl hrl hr hifr
      go_upto_region 5 with fail
      refine wp_region_lexY (fun wx => wx.cell? ⟨b, 0, none⟩ = some (.slice fA i fC)) 11 12 (Array.replicate 12 false) (by kernel_rfl) (by kernel_rfl) ?_
      refine wpAnyY_seg 0 6 _ #[true, true, true, true, true, true, false, false, false, false, false, false] 6 (by kernel_rfl) noPanic_put (HSB.out _ _ o1 0 rfl) (by kernel_rfl) ?_
      simp only [List.take_succ_cons, List.take_zero, List.drop_zero]
      repeat (first
        | (refine wpSegH_no (by rfl) ?_; simp only [Act.put, List.setIfInBounds_toArray, List.set_cons_zero, List.set_cons_succ])
        | (refine wpSegH_yes (by rfl) ?_; apply Exists.intro; apply And.intro; (· (intro wx hS; (try dsimp only at hS); go_simp; first | done | with_reducible rfl)); simp only [Act.put, List.setIfInBounds_toArray, List.set_cons_zero, List.set_cons_succ]))
      refine wpSegH_nil ?_
      refine wpAnyY_one 6 _ #[true, true, true, true, true, true, true, false, false, false, false, false] 5 (by kernel_rfl) (fun K hK => ?_)
      have HKK := Lib.hid hK
      clear hK
      simp only [List.drop_succ_cons, List.drop_zero]
      refine headH_mk (by rfl) ?_
      go_simp
      refine HCl.out.mono ?_
      rintro r w2 ⟨r1', c1', rfl, hrow, hfr, hb⟩
      have o2 := o1.add hb (A := RowGA 4 r1' c1' ln (i4s l)) (F := blk r1') ⟨rfl, hrow⟩ hfr
      refine HKK.out _ _ (HSB.out _ _ o2 1 rfl) ?_
      clear HKK K
      refine wpAnyY_one 7 _ #[true, true, true, true, true, true, true, true, false, false, false, false] 4 (by kernel_rfl) (fun K hK => ?_)
      have HKK := Lib.hid hK
      clear hK
      simp only [List.drop_succ_cons, List.drop_zero]
      refine headH_mk (by rfl) ?_
      go_simp
      have o3 := o2.step (below_alloc1 _ (.cells #[.slice r1' ln c1'] 70))
      refine HKK.out _ _ (HSB.out _ _ o3 1 rfl) ?_
      clear HKK K
      refine wpAnyY_one 8 _ #[true, true, true, true, true, true, true, true, true, false, false, false] 3 (by kernel_rfl) (fun K hK => ?_)
      have HKK := Lib.hid hK
      clear hK
      simp only [List.drop_succ_cons, List.drop_zero]
      refine headH_mk (by rfl) ?_
      have hrow3 := o3.rowG 2 rfl
      rw [HTL.out] at hrow3
      refine wp_append_rowG (n := i) (m := 1) (cs := frw fr' (fs.take i)) (ds := [.slice r1' ln c1']) _ _ 32 (by rfl) 70 i0 _ Tryz.underlying32 Hi.out Hz0.out Hz1.out Hz2.out rfl (by omega) (by omega) (by rfl) (by rfl) hrow3 (CellsAt.new _ [.slice r1' ln c1'] _ rfl) rfl (by simp [Value.oneCell']) (by omega) ?_
      intro a9 c9 w9 k9 ch9 f9
      have o4 := (Own.rowTurn (o3.pick 2 rfl) k9 ch9 f9)
      refine HKK.out _ _ (HSB.out _ _ o4 2 rfl) ?_
      clear HKK K
      refine wpAnyY_segT 9 1 _ #[true, true, true, true, true, true, true, true, true, true, false, false] 2 (by kernel_rfl) noPanic_put (by kernel_rfl) ?_
      simp only [List.take_succ_cons, List.take_zero, List.drop_succ_cons, List.drop_zero]
      repeat (first
        | (refine wpSegH_no (by rfl) ?_; simp only [Act.put, List.setIfInBounds_toArray, List.set_cons_zero, List.set_cons_succ])
        | (refine wpSegH_yes (by rfl) ?_; apply Exists.intro; apply And.intro; (· (intro wx hS; (try dsimp only at hS); go_simp; first | done | with_reducible rfl)); simp only [Act.put, List.setIfInBounds_toArray, List.set_cons_zero, List.set_cons_succ]))
      refine wpSegH_nil ?_
      refine wpAnyY_seg 10 1 _ #[true, true, true, true, true, true, true, true, true, true, true, false] 1 (by kernel_rfl) noPanic_put (HSB.out _ _ o4 2 rfl) (by kernel_rfl) ?_
      simp only [List.take_succ_cons, List.take_zero, List.drop_succ_cons, List.drop_zero]
      repeat (first
        | (refine wpSegH_no (by rfl) ?_; simp only [Act.put, List.setIfInBounds_toArray, List.set_cons_zero, List.set_cons_succ])
        | (refine wpSegH_yes (by rfl) ?_; apply Exists.intro; apply And.intro; (· (intro wx hS; (try dsimp only at hS); go_simp; first | done | with_reducible rfl)); simp only [Act.put, List.setIfInBounds_toArray, List.set_cons_zero, List.set_cons_succ]))
      refine wpSegH_nil ?_
      obtain ⟨z8, f8⟩ := o4.cel 2 rfl 0 _ rfl
      have o5 := ((((((o4.setAt 2 rfl 0 (.slice a9 (i + 1) c9)).pick 1 rfl).pick 3 rfl).pick 1 rfl).lstAdd).pick 1 rfl).pick 2 rfl
      have H5 := Lib.hid o5
      clear o1 o2 o3 o4 o5 k9 ch9 f9 hrow3 hrow hfr hb HSB HCl ho
      refine wpAnyY_late 11 _ #[true, true, true, true, true, true, true, true, true, true, true, true] 0 (by kernel_rfl) (fun K hK => ?_)
      have HKK := Lib.hid hK
      clear hK
      simp only [List.drop_succ_cons, List.drop_zero]
      refine headH_mk (by rfl) ?_
      go_simp
      refine HKK.out _ _ ?_
      clear HKK K
      refine wpAnyY_done (by kernel_rfl) (NoPanic.normal ?_) _
      have HFIN : Hid ((fr' ++ [(r1', c1')]).length = i + 1 ∧ Own w (w9.setCell ⟨b, 0, none⟩ (.slice a9 (i + 1) c9)) (npts b a9 c9 (fr' ++ [(r1', c1')]) (fs.take (i + 1)) none 0 [] [] none 0 [] [] ca' cc' ks (some ⟨sa, 0, none⟩) g ++ [CelA pb [.slice (some ⟨bf, off, none⟩) fs.length fc, .slice ra rooms.length rc, .int .i64 (locks : Int), .slice ca ks.length cc]])) := Lib.hid ⟨by simp [HRL.out], by
        have e : (fs.take i ++ [l]).length = i + 1 := by rw [List.length_append, HTL.out]; rfl
        rw [HT.out]
        unfold npts
        rw [frw_app (by rw [HRL.out, HTL.out]), clns_app (by rw [HRL.out, HTL.out]), e, HLN.out]
        exact H5.out⟩
      clear H5 HT HTL HRL HLN
      go_wp2
      exact ⟨⟨i + 1, a9, c9, _, by omega, by go_num, HFIN⟩, by simp [intOf]; omega⟩
    · have hge : ¬ (i : Int) < (fs.length : Int) := by omega
      obtain rfl : i = fs.length := by omega
      have HR1 : Hid (fr'.length = fs.length ∧ Own w wr (npts b fA fC fr' fs none 0 [] [] none 0 [] [] ca' cc' ks (some ⟨sa, 0, none⟩) g ++ [CelA pb [.slice fa fs.length fc, .slice ra rooms.length rc, .int .i64 (locks : Int), .slice ca ks.length cc]])) := Lib.hid (by
        have := hr.out
        rw [List.take_length] at this
        exact this)
      obtain ⟨z1, -⟩ := HR1.out.2.cel 10 rfl 1 _ rfl
      clear hr
      go_wp2_with fail
      go_loopw [37] (fun iv wr => ∃ i : Nat, ∃ hA hC pa, i ≤ rooms.length ∧ iv = .int .i64 i ∧ Hid (pa.length = i ∧ Own w wr (npts b fA fC fr' fs hA hC (List.zip pa ((rooms.take i).map roomC)) ((rooms.take i).map fun _ => ⟨[], [], [], false⟩) none 0 [] [] ca' cc' ks (some ⟨sa, 0, none⟩) g ++ [CelA pb [.slice fa fs.length fc, .slice ra rooms.length rc, .int .i64 (locks : Int), .slice ca ks.length cc]]))) (fun iv _ => rooms.length - (intOf iv).toNat)
      case atStart => exact ⟨0, none, 0, [], by omega, rfl, Lib.hid ⟨rfl, HR1.out.2⟩⟩
      case round =>
        obtain ⟨i, hA, hC, pa, hi, rfl, hr⟩ := hrel
        by_cases hlt : i < rooms.length
        · obtain ⟨z, hz⟩ : ∃ z, z = rooms[i] := ⟨_, rfl⟩
          have hze : rooms[i]? = some z := by rw [hz]; exact List.getElem?_eq_getElem hlt
          obtain ⟨hrl, ho⟩ := hr.out
          obtain ⟨bf, off, rfl, hcf⟩ := HC.out i (.int .i64 z) (by rw [intc_get, hze]; rfl)
          have hcf2 := cell_below hcf ho.bel
          have htl : ((rooms.take i).map fun _ => (⟨[], [], [], false⟩ : Ch)).length = i := by rw [List.length_map, List.length_take]; omega
          have hzl : (List.zip pa ((rooms.take i).map roomC)).length = i := by rw [List.length_zip, List.length_map, List.length_take]; omega
          have SB : ∀ (wx : World) (L : List Asr), Own w wx L → ∀ k : Nat, L[k]? = some (CelA b (nwc fA fs.length fC hA ((rooms.take i).map fun _ => (⟨[], [], [], false⟩ : Ch)).length hC none 0 0 ca' ks.length cc' (some ⟨sa, 0, none⟩))) → wx.cell? ⟨b, 3, none⟩ = some (.slice hA i hC) := fun wx L ho k hk => by
            have := (ho.cel k hk 3 _ rfl).1
            rw [htl] at this
            exact this
          have HSB := Lib.hid SB
          have o1 := ho.step (below_drew1 wr)
          have HCl := Lib.hid (cnew_any o1 z)
          have HT : Hid (rooms.take (i + 1) = rooms.take i ++ [z]) := Lib.hid (by rw [hz]; exact List.take_succ_eq_append_getElem hlt)
          have HTL := Lib.hid htl
          have HRL := Lib.hid hrl
          have HZL := Lib.hid hzl
          obtain ⟨i0, hi0, hz0, hz1, hz2⟩ := info_parts info_chp
          have Hi := Lib.hid hi0; clear hi0
          have Hz0 := Lib.hid hz0; clear hz0
          have Hz1 := Lib.hid hz1; clear hz1
          have Hz2 := Lib.hid hz2; clear hz2
          have hli : (i : Int) < (rooms.length : Int) := by omega
          have hl0 : (0 : Int) ≤ (i : Int) := by omega
          clear hz hze hcf SB htl hrl hr hzl
          go_upto_region 10 with fail
          refine wp_region_lexY (fun wx => wx.cell? ⟨b, 3, none⟩ = some (.slice hA i hC)) 11 12 (Array.replicate 12 false) (by kernel_rfl) (by kernel_rfl) ?_
          refine wpAnyY_seg 0 6 _ #[true, true, true, true, true, true, false, false, false, false, false, false] 6 (by kernel_rfl) noPanic_put (HSB.out _ _ o1 0 rfl) (by kernel_rfl) ?_
          simp only [List.take_succ_cons, List.take_zero, List.drop_zero]
          repeat (first
            | (refine wpSegH_no (by rfl) ?_; simp only [Act.put, List.setIfInBounds_toArray, List.set_cons_zero, List.set_cons_succ])
            | (refine wpSegH_yes (by rfl) ?_; apply Exists.intro; apply And.intro; (· (intro wx hS; (try dsimp only at hS); go_simp; first | done | with_reducible rfl)); simp only [Act.put, List.setIfInBounds_toArray, List.set_cons_zero, List.set_cons_succ]))
          refine wpSegH_nil ?_
          refine wpAnyY_one 6 _ #[true, true, true, true, true, true, true, false, false, false, false, false] 5 (by kernel_rfl) (fun K hK => ?_)
          have HKK := Lib.hid hK
          clear hK
          simp only [List.drop_succ_cons, List.drop_zero]
          refine headH_mk (by rfl) ?_
          go_simp
          refine HCl.out.mono ?_
          rintro r w2 ⟨pt, rfl, o2, hb⟩
          refine HKK.out _ _ (HSB.out _ _ o2 1 rfl) ?_
          clear HKK K
          refine wpAnyY_one 7 _ #[true, true, true, true, true, true, true, true, false, false, false, false] 4 (by kernel_rfl) (fun K hK => ?_)
          have HKK := Lib.hid hK
          clear hK
          simp only [List.drop_succ_cons, List.drop_zero]
          refine headH_mk (by rfl) ?_
          go_simp
          have o3 := o2.step (below_alloc1 _ (.cells #[.pointer (some ⟨pt, 0, none⟩)] 111))
          refine HKK.out _ _ (HSB.out _ _ o3 1 rfl) ?_
          clear HKK K
          refine wpAnyY_one 8 _ #[true, true, true, true, true, true, true, true, true, false, false, false] 3 (by kernel_rfl) (fun K hK => ?_)
          have HKK := Lib.hid hK
          clear hK
          simp only [List.drop_succ_cons, List.drop_zero]
          refine headH_mk (by rfl) ?_
          have hrow3 := o3.rowG 7 rfl
          rw [HTL.out] at hrow3
          refine wp_append_rowG (n := i) (m := 1) (cs := ptrs (List.zip pa ((rooms.take i).map roomC))) (ds := [.pointer (some ⟨pt, 0, none⟩)]) _ _ 104 (by rfl) 111 i0 _ Tryz.underlying104 Hi.out Hz0.out Hz1.out Hz2.out rfl (by omega) (by omega) (by rfl) (by rfl) hrow3 (CellsAt.new _ [.pointer (some ⟨pt, 0, none⟩)] _ rfl) rfl (by simp [Value.oneCell']) (by omega) ?_
          intro a9 c9 w9 k9 ch9 f9
          have o4 := (Own.rowTurn (o3.pick 7 rfl) k9 ch9 f9)
          refine HKK.out _ _ (HSB.out _ _ o4 2 rfl) ?_
          clear HKK K
          refine wpAnyY_segT 9 1 _ #[true, true, true, true, true, true, true, true, true, true, false, false] 2 (by kernel_rfl) noPanic_put (by kernel_rfl) ?_
          simp only [List.take_succ_cons, List.take_zero, List.drop_succ_cons, List.drop_zero]
          repeat (first
            | (refine wpSegH_no (by rfl) ?_; simp only [Act.put, List.setIfInBounds_toArray, List.set_cons_zero, List.set_cons_succ])
            | (refine wpSegH_yes (by rfl) ?_; apply Exists.intro; apply And.intro; (· (intro wx hS; (try dsimp only at hS); go_simp; first | done | with_reducible rfl)); simp only [Act.put, List.setIfInBounds_toArray, List.set_cons_zero, List.set_cons_succ]))
          refine wpSegH_nil ?_
          refine wpAnyY_seg 10 1 _ #[true, true, true, true, true, true, true, true, true, true, true, false] 1 (by kernel_rfl) noPanic_put (HSB.out _ _ o4 2 rfl) (by kernel_rfl) ?_
          simp only [List.take_succ_cons, List.take_zero, List.drop_succ_cons, List.drop_zero]
          repeat (first
            | (refine wpSegH_no (by rfl) ?_; simp only [Act.put, List.setIfInBounds_toArray, List.set_cons_zero, List.set_cons_succ])
            | (refine wpSegH_yes (by rfl) ?_; apply Exists.intro; apply And.intro; (· (intro wx hS; (try dsimp only at hS); go_simp; first | done | with_reducible rfl)); simp only [Act.put, List.setIfInBounds_toArray, List.set_cons_zero, List.set_cons_succ]))
          refine wpSegH_nil ?_
          obtain ⟨z8, f8⟩ := o4.cel 2 rfl 3 _ rfl
          have o5 := ((((((((((((o4.setAt 2 rfl 3 (.slice a9 (i + 1) c9)).pick 1 rfl).pick 8 rfl).pick 1 rfl).lstAdd).pick 1 rfl).pick 7 rfl).pick 7 rfl).pick 7 rfl).pick 7 rfl).pick 7 rfl).pick 7 rfl)
          have H5 := Lib.hid o5
          clear o1 o2 o3 o4 o5 k9 ch9 f9 hrow3 hb HSB HCl ho
          refine wpAnyY_late 11 _ #[true, true, true, true, true, true, true, true, true, true, true, true] 0 (by kernel_rfl) (fun K hK => ?_)
          have HKK := Lib.hid hK
          clear hK
          simp only [List.drop_succ_cons, List.drop_zero]
          refine headH_mk (by rfl) ?_
          go_simp
          refine HKK.out _ _ ?_
          clear HKK K
          refine wpAnyY_done (by kernel_rfl) (NoPanic.normal ?_) _
          have HFIN : Hid ((pa ++ [pt]).length = i + 1 ∧ Own w (w9.setCell ⟨b, 3, none⟩ (.slice a9 (i + 1) c9)) (npts b fA fC fr' fs a9 c9 (List.zip (pa ++ [pt]) ((rooms.take (i + 1)).map roomC)) ((rooms.take (i + 1)).map fun _ => (⟨[], [], [], false⟩ : Ch)) none 0 [] [] ca' cc' ks (some ⟨sa, 0, none⟩) g ++ [CelA pb [.slice fa fs.length fc, .slice (some ⟨bf, off, none⟩) rooms.length rc, .int .i64 (locks : Int), .slice ca ks.length cc]])) := Lib.hid ⟨by simp [HRL.out], by
            have e : (((rooms.take i).map fun _ => (⟨[], [], [], false⟩ : Ch)) ++ [(⟨[], [], [], false⟩ : Ch)]).length = i + 1 := by rw [List.length_append, HTL.out]; rfl
            have e2 : List.zip (pa ++ [pt]) ((rooms.take i).map roomC ++ [roomC z]) = (List.zip pa ((rooms.take i).map roomC)) ++ [(pt, roomC z)] := List.zip_append (by rw [HRL.out, List.length_map, List.length_take]; have := hi; omega)
            rw [HT.out, List.map_append, List.map_append]
            unfold npts
            rw [show List.map roomC [z] = [roomC z] from rfl, show List.map (fun _ => (⟨[], [], [], false⟩ : Ch)) [z] = [(⟨[], [], [], false⟩ : Ch)] from rfl, e2, ptrs_app, chs_app (by rw [HZL.out, HTL.out]), e]
            exact H5.out⟩
          clear H5 HT HTL HRL HZL
          go_wp2
          exact ⟨⟨i + 1, a9, c9, _, by omega, by go_num, HFIN⟩, by simp [intOf]; omega⟩
        · have hge : ¬ (i : Int) < (rooms.length : Int) := by omega
          obtain rfl : i = rooms.length := by omega
          have HR2 : Hid (pa.length = rooms.length ∧ Own w wr (npts b fA fC fr' fs hA hC (List.zip pa (rooms.map roomC)) (rooms.map fun _ => (⟨[], [], [], false⟩ : Ch)) none 0 [] [] ca' cc' ks (some ⟨sa, 0, none⟩) g ++ [CelA pb [.slice fa fs.length fc, .slice ra rooms.length rc, .int .i64 (locks : Int), .slice ca ks.length cc]])) := Lib.hid (by
            have := hr.out
            rw [List.take_length] at this
            exact this)
          obtain ⟨z1, -⟩ := HR2.out.2.cel 10 rfl 2 _ rfl
          have HCL : Hid ((rooms.map fun _ => (⟨[], [], [], false⟩ : Ch)).length = rooms.length) := Lib.hid (by simp)
          have HFR : Hid (fr'.length = fs.length) := Lib.hid HR1.out.1
          clear hr HR1
          generalize hZP : (List.zip pa (rooms.map roomC)) = zp at *
          generalize hCP : (rooms.map fun _ => (⟨[], [], [], false⟩ : Ch)) = cp at *
          have HZP := Lib.hid hZP
          have HCP := Lib.hid hCP
          clear hZP hCP
          go_wp2_with fail
          go_loopw [55] (fun iv wr => ∃ i : Nat, ∃ lA lC lp, i ≤ locks ∧ iv = .int .i64 i ∧ Hid (lp.length = i ∧ Own w wr (npts b fA fC fr' fs hA hC zp cp lA lC lp (List.replicate i []) ca' cc' ks (some ⟨sa, 0, none⟩) g ++ [CelA pb [.slice fa fs.length fc, .slice ra rooms.length rc, .int .i64 (locks : Int), .slice ca ks.length cc]]))) (fun iv _ => locks - (intOf iv).toNat)
          case atStart => exact ⟨0, none, 0, [], by omega, rfl, Lib.hid ⟨rfl, HR2.out.2⟩⟩
          case round =>
            obtain ⟨i, lA, lC, lp, hi, rfl, hr⟩ := hrel
            by_cases hlt : i < locks
            · obtain ⟨hrl, ho⟩ := hr.out
              have htl : (List.replicate i ([] : List Int)).length = i := List.length_replicate
              have SB : ∀ (wx : World) (L : List Asr), Own w wx L → ∀ k : Nat, L[k]? = some (CelA b (nwc fA fs.length fC hA cp.length hC lA (List.replicate i ([] : List Int)).length lC ca' ks.length cc' (some ⟨sa, 0, none⟩))) → wx.cell? ⟨b, 4, none⟩ = some (.slice lA i lC) := fun wx L ho k hk => by
                have := (ho.cel k hk 4 _ rfl).1
                rw [htl] at this
                exact this
              have HSB := Lib.hid SB
              have o1 := ho.step (below_drew1 wr)
              have HTL := Lib.hid htl
              have HRL := Lib.hid hrl
              obtain ⟨i0, hi0, hz0, hz1, hz2⟩ := info_parts info_lkp
              have Hi := Lib.hid hi0; clear hi0
              have Hz0 := Lib.hid hz0; clear hz0
              have Hz1 := Lib.hid hz1; clear hz1
              have Hz2 := Lib.hid hz2; clear hz2
              have hli : (i : Int) < (locks : Int) := by omega
              have hl0 : (0 : Int) ≤ (i : Int) := by omega
              clear SB htl hrl hr
              go_upto_region 14 with fail
              refine wp_region_lexY (fun wx => wx.cell? ⟨b, 4, none⟩ = some (.slice lA i lC)) 10 11 (Array.replicate 11 false) (by kernel_rfl) (by kernel_rfl) ?_
              refine wpAnyY_seg 0 5 _ #[true, true, true, true, true, false, false, false, false, false, false] 6 (by kernel_rfl) noPanic_put (HSB.out _ _ o1 0 rfl) (by kernel_rfl) ?_
              simp only [List.take_succ_cons, List.take_zero, List.drop_zero]
              repeat (first
                | (refine wpSegH_no (by rfl) ?_; simp only [Act.put, List.setIfInBounds_toArray, List.set_cons_zero, List.set_cons_succ])
                | (refine wpSegH_yes (by rfl) ?_; apply Exists.intro; apply And.intro; (· (intro wx hS; (try dsimp only at hS); go_simp; first | done | with_reducible rfl)); simp only [Act.put, List.setIfInBounds_toArray, List.set_cons_zero, List.set_cons_succ]))
              refine wpSegH_nil ?_
              refine wpAnyY_one 5 _ #[true, true, true, true, true, true, false, false, false, false, false] 5 (by kernel_rfl) (fun K hK => ?_)
              have HKK := Lib.hid hK
              clear hK
              simp only [List.drop_succ_cons, List.drop_zero]
              refine headH_mk (by rfl) ?_
              go_simp
              refine (knew_any _).mono ?_
              rintro r w2 ⟨pt, rfl, hk1, hk2, hb⟩
              have o2 := o1.add hb (A := LockA pt []) (F := [pt]) hk1 (by intro x hx; simp at hx; omega)
              refine HKK.out _ _ (HSB.out _ _ o2 1 rfl) ?_
              clear HKK K
              refine wpAnyY_one 6 _ #[true, true, true, true, true, true, true, false, false, false, false] 4 (by kernel_rfl) (fun K hK => ?_)
              have HKK := Lib.hid hK
              clear hK
              simp only [List.drop_succ_cons, List.drop_zero]
              refine headH_mk (by rfl) ?_
              go_simp
              have o3 := o2.step (below_alloc1 _ (.cells #[.pointer (some ⟨pt, 0, none⟩)] 113))
              refine HKK.out _ _ (HSB.out _ _ o3 1 rfl) ?_
              clear HKK K
              refine wpAnyY_one 7 _ #[true, true, true, true, true, true, true, true, false, false, false] 3 (by kernel_rfl) (fun K hK => ?_)
              have HKK := Lib.hid hK
              clear hK
              simp only [List.drop_succ_cons, List.drop_zero]
              refine headH_mk (by rfl) ?_
              have hrow3 := o3.rowG 9 rfl
              rw [HTL.out] at hrow3
              refine wp_append_rowG (n := i) (m := 1) (cs := lptr lp) (ds := [.pointer (some ⟨pt, 0, none⟩)]) _ _ 105 (by rfl) 113 i0 _ Tryz.underlying105 Hi.out Hz0.out Hz1.out Hz2.out rfl (by omega) (by omega) (by rfl) (by rfl) hrow3 (CellsAt.new _ [.pointer (some ⟨pt, 0, none⟩)] _ rfl) rfl (by simp [Value.oneCell']) (by omega) ?_
              intro a9 c9 w9 k9 ch9 f9
              have o4 := (Own.rowTurn (o3.pick 9 rfl) k9 ch9 f9)
              refine HKK.out _ _ (HSB.out _ _ o4 2 rfl) ?_
              clear HKK K
              refine wpAnyY_segT 8 1 _ #[true, true, true, true, true, true, true, true, true, false, false] 2 (by kernel_rfl) noPanic_put (by kernel_rfl) ?_
              simp only [List.take_succ_cons, List.take_zero, List.drop_succ_cons, List.drop_zero]
              repeat (first
                | (refine wpSegH_no (by rfl) ?_; simp only [Act.put, List.setIfInBounds_toArray, List.set_cons_zero, List.set_cons_succ])
                | (refine wpSegH_yes (by rfl) ?_; apply Exists.intro; apply And.intro; (· (intro wx hS; (try dsimp only at hS); go_simp; first | done | with_reducible rfl)); simp only [Act.put, List.setIfInBounds_toArray, List.set_cons_zero, List.set_cons_succ]))
              refine wpSegH_nil ?_
              refine wpAnyY_seg 9 1 _ #[true, true, true, true, true, true, true, true, true, true, false] 1 (by kernel_rfl) noPanic_put (HSB.out _ _ o4 2 rfl) (by kernel_rfl) ?_
              simp only [List.take_succ_cons, List.take_zero, List.drop_succ_cons, List.drop_zero]
              repeat (first
                | (refine wpSegH_no (by rfl) ?_; simp only [Act.put, List.setIfInBounds_toArray, List.set_cons_zero, List.set_cons_succ])
                | (refine wpSegH_yes (by rfl) ?_; apply Exists.intro; apply And.intro; (· (intro wx hS; (try dsimp only at hS); go_simp; first | done | with_reducible rfl)); simp only [Act.put, List.setIfInBounds_toArray, List.set_cons_zero, List.set_cons_succ]))
              refine wpSegH_nil ?_
              obtain ⟨z8, f8⟩ := o4.cel 2 rfl 4 _ rfl
              have o5 := ((((((((((((((o4.setAt 2 rfl 4 (.slice a9 (i + 1) c9)).pick 1 rfl).pick 10 rfl).pick 1 rfl).lstAdd).pick 1 rfl).pick 9 rfl).pick 9 rfl).pick 9 rfl).pick 9 rfl).pick 9 rfl).pick 9 rfl).pick 9 rfl).pick 9 rfl)
              have H5 := Lib.hid o5
              clear o1 o2 o3 o4 o5 k9 ch9 f9 hrow3 hb hk1 hk2 HSB ho
              refine wpAnyY_late 10 _ #[true, true, true, true, true, true, true, true, true, true, true] 0 (by kernel_rfl) (fun K hK => ?_)
              have HKK := Lib.hid hK
              clear hK
              simp only [List.drop_succ_cons, List.drop_zero]
              refine headH_mk (by rfl) ?_
              go_simp
              refine HKK.out _ _ ?_
              clear HKK K
              refine wpAnyY_done (by kernel_rfl) (NoPanic.normal ?_) _
              have HFIN : Hid ((lp ++ [pt]).length = i + 1 ∧ Own w (w9.setCell ⟨b, 4, none⟩ (.slice a9 (i + 1) c9)) (npts b fA fC fr' fs hA hC zp cp a9 c9 (lp ++ [pt]) (List.replicate (i + 1) []) ca' cc' ks (some ⟨sa, 0, none⟩) g ++ [CelA pb [.slice fa fs.length fc, .slice ra rooms.length rc, .int .i64 (locks : Int), .slice ca ks.length cc]])) := Lib.hid ⟨by simp [HRL.out], by
                rw [List.replicate_succ']
                have e : (List.replicate i ([] : List Int) ++ [[]]).length = i + 1 := by rw [List.length_append, HTL.out]; rfl
                unfold npts
                rw [lptr_app, lks_app (by rw [HRL.out, HTL.out]), e]
                exact H5.out⟩
              clear H5 HTL HRL
              go_wp2
              exact ⟨⟨i + 1, a9, c9, _, by omega, by go_num, HFIN⟩, by simp [intOf]; omega⟩
            · have hge : ¬ (i : Int) < (locks : Int) := by omega
              obtain rfl : i = locks := by omega
              have h0 := hr.out.2
              have hk := (h0.rowG 3 rfl).2.1
              have h1 := code_fold (((((h0.pick 10 rfl).drop).pick 3 rfl).pick 3 rfl).pick 3 rfl)
              have h2 := ((h1.pick 1 rfl).rowNil 1).add (Below.refl _ _) (A := ItemsA (.slice none 0 0) []) (F := []) ⟨rfl, World.ownsRow_nil _ _ _ _⟩ (fun x hx => by simp at hx)
              have h3 := (((((((h2.pick 9 rfl).pick 9 rfl).pick 9 rfl).pick 9 rfl).pick 9 rfl).pick 9 rfl).pick 9 rfl).pick 9 rfl
              have hrl := hr.out.1
              have hpl := HR2.out.1
              have hfl := HFR.out
              have e1 := HZP.out
              have e2 := HCP.out
              subst e1 e2
              have HE3 : Hid ((⟨fA, fC, fr', ca', cc', some ⟨sa, 0, none⟩, 1, [(g, 1)], hA, hC, pa, lA, lC, lp, .slice none 0 0, none, 0⟩ : Wa).fits (newM fs ks rooms i) ∧ Own w wr (wparts b (newM fs ks rooms i) ⟨fA, fC, fr', ca', cc', some ⟨sa, 0, none⟩, 1, [(g, 1)], hA, hC, pa, lA, lC, lp, .slice none 0 0, none, 0⟩ [])) :=
                Lib.hid ⟨⟨hfl, rfl, by simp [newM, hpl], by simp [newM], by simp [newM, hrl], hk⟩, h3⟩
              clear h0 h1 h2 h3 hk hr HR2
              go_wp2
              go_ret
              exact ⟨_, rfl, _, HE3.out⟩
end Go.Proofs.YtjidcagklakjaaaGreat
/-
  A world as one piece of memory; what it is asked.
-/
open Go Go.RowKit
set_option linter.unusedVariables false
namespace Go.Proofs.YtjidcagklakjaaaGreat
/-- A world that begins at block p, whose block has a tail. -/
def WldA (p : Nat) (W : Wd) (T : List Value) : Asr where
  at_ w F := ∃ D : Wa, D.fits W ∧ Sep w (wparts p W D T) F
  lt := by rintro w F ⟨D, -, h⟩; exact h.lt
  chg := by rintro w w' F G ⟨D, h1, h⟩ c hd; exact ⟨D, h1, h.chg c hd⟩
theorem Own.wld {w0 w : World} {p : Nat} {W : Wd} {T : List Value} {R : List Asr} (h : Own w0 w (WldA p W T :: R)) : ∃ D : Wa, D.fits W ∧ Own w0 w (wparts p W D T ++ R) := by
  obtain ⟨As, ⟨D, hf, rfl⟩, h1⟩ := Own.unfold h (P := fun As => ∃ D : Wa, D.fits W ∧ As = wparts p W D T) (fun F ⟨D, hf, hF⟩ => ⟨_, ⟨D, hf, rfl⟩, hF⟩)
  exact ⟨D, hf, h1⟩
theorem Own.toWld {w0 w : World} {p : Nat} {W : Wd} {T : List Value} {R : List Asr} {D : Wa} (hf : D.fits W) (h : Own w0 w (wparts p W D T ++ R)) : Own w0 w (WldA p W T :: R) := Own.fold h (fun F hF => ⟨D, hf, hF⟩)
theorem Own.rowNil0 {w0 w : World} {R : List Asr} (s : Nat) (h : Own w0 w R) : Own w0 w (RowGA s none 0 0 [] :: R) := h.add (Below.refl _ _) (F := []) ⟨rfl, RowG.nil s w⟩ (by intro x hx; simp at hx)
theorem Own.wldBack {w0 w : World} {p : Nat} {W : Wd} {T : List Value} {R : List Asr} {A : Asr} {D : Wa} (hf : D.fits W) (h : Own w0 w (A :: (wparts p W D T ++ R))) : Own w0 w (A :: WldA p W T :: R) := by
  have h1 : Own w0 w (wparts p W D T ++ (A :: R)) := h.perm (by
    have := (List.perm_middle (a := A) (l₁ := wparts p W D T) (l₂ := R)).symm
    exact this)
  have h2 := Own.toWld hf h1
  exact h2.perm (List.Perm.swap _ _ _)
/-- A draw that changes nothing of what stands. -/
theorem drawOk_quiet {w0 : World} {p : Nat} {T : List Value} {W : Wd} {F : Nat} {fst cap : Array Value} {kind n : Int} {R : List Asr} (v : Int)
    (hq : ∀ w', Calls Tryz.prog F (fst ++ (#[.int .i64 kind, .int .i64 n] ++ cap)) w' fun r w'' => r = .returned (.int .i64 v) ∧ Below w'.heap.size w' w'') :
    DrawOk w0 p T W F fst cap kind n R (fun u R' => u = v ∧ R' = R) (fun _ _ => False) := fun Z d w' hD => by
  refine (hq w').mono (fun r w'' hh => .inl ⟨v, R, hh.1, ⟨rfl, rfl⟩, hD.step hh.2⟩)
theorem execM_none {B : Nat} {W : Wd} (wf : WF B W) {g : Int} (h : W.lets g → askN W ((W.ins g.toNat).getD (0, 0, 0, 0)) = 0) (u v : Int) : execM W g u = execM W g v := by
  unfold execM
  by_cases hl : W.lets g
  · rw [if_pos hl, if_pos hl]
    have hk : AskIn W ((W.ins g.toNat).getD (0, 0, 0, 0)) := by
      cases hx : W.ins g.toNat with
      | none => exact ⟨fun e => absurd e (by decide), fun e => absurd e (by decide)⟩
      | some x =>
        obtain ⟨k1, -, -⟩ := wf.insOk hx
        exact ⟨fun e => ⟨k1.casX (.inr (.inr e)), by have := wf.p.kl; omega, k1.casOk (.inr (.inr e)) wf.p.ck⟩, fun e => by have := k1.o21 e; simp only [Option.getD_some] at *; omega⟩
    simp only [askM_none hk (h hl)]
  · rw [if_neg hl, if_neg hl]
/-- Exec of a world that may be, by a draw of whatever kind. -/
def ExecW (w0 : World) (p : Nat) (T : List Value) (W : Wd) (g : Int) (R : List Asr) (Qd : Int → List Asr → Prop) (Qp : Ending → List Asr → Prop) (r : Ending) (w' : World) : Prop :=
  (∃ v R' ra rc, ((¬ W.lets g ∨ askN W ((W.ins g.toNat).getD (0, 0, 0, 0)) = 0) ∧ R' = R ∨ (W.lets g ∧ 1 ≤ askN W ((W.ins g.toNat).getD (0, 0, 0, 0))) ∧ Qd v R') ∧
    r = .returned (.agg #[.bool (execM W g v).2.1, .slice ra (execM W g v).2.2.length rc]) ∧ Own w0 w' (RowGA 1 ra rc (execM W g v).2.2.length (intc (execM W g v).2.2) :: WldA p (execM W g v).1 T :: R')) ∨
  (∃ chain R', r = .panicked chain ∧ (W.lets g ∧ 1 ≤ askN W ((W.ins g.toNat).getD (0, 0, 0, 0))) ∧ Qp r R' ∧ Own w0 w' (WldA p W T :: R'))
theorem exec_w {w0 w : World} {p : Nat} {T : List Value} {W : Wd} {R : List Asr} {F : Nat} {fst cap : Array Value} {Qd : Int → List Asr → Prop} {Qp : Ending → List Asr → Prop} {B : Nat} (h : Own w0 w (WldA p W T :: R)) (wf : WF B W) (hB : B ≤ 80000) (g : Int)
    (en : ∀ (args : Array Value) (w : World), (callFunc F args).run Tryz.prog w = .ok (.enter F args) w) (hd : W.lets g → 1 ≤ askN W ((W.ins g.toNat).getD (0, 0, 0, 0)) → DrawOk w0 p T W F fst cap (askK ((W.ins g.toNat).getD (0, 0, 0, 0))) (askN W ((W.ins g.toNat).getD (0, 0, 0, 0)) : Int) R Qd Qp) :
    Calls Tryz.prog 16 #[.pointer (some ⟨p, 0, none⟩), .int .i64 g, .func (.func F) fst cap] w fun r w' => ExecW w0 p T W g R Qd Qp r w' := by
  obtain ⟨D, hf, ho⟩ := h.wld
  by_cases hl : W.lets g
  · obtain ⟨k, rfl⟩ : ∃ k : Nat, g = (k : Int) := ⟨g.toNat, by have := hl.2.1; omega⟩
    have hl2 := hl
    refine (exec_all (Qd := Qd) (Qp := Qp) ho hf k (wf.execOk hB hl) en (hd hl)).mono (fun r w' hh => ?_)
    rcases hh with ⟨v, R', D', ra, rc, hq, h1, h2, h3⟩ | ⟨D', ch, R', h1, h2, h3, h4, h5⟩
    · refine .inl ⟨v, R', ra, rc, ?_, h1, Own.wldBack h2 h3⟩
      rcases hq with ⟨a, b⟩ | ⟨a, b⟩
      · exact .inl ⟨.inr a, b⟩
      · exact .inr ⟨⟨hl2, a⟩, b⟩
    · exact .inr ⟨ch, R', h1, ⟨hl2, h2⟩, h3, Own.toWld h4 h5⟩
  · refine (exec_no ho hf g hl (.func (.func F) fst cap)).mono (fun r w' hh => ?_)
    have e : execM W g 0 = (W, false, []) := by unfold execM; rw [if_neg hl]
    refine .inl ⟨0, R, none, 0, .inl ⟨.inl hl, rfl⟩, ?_, ?_⟩
    · rw [e]; exact hh.1
    · rw [e]; exact Own.rowNil0 1 (Own.toWld hf hh.2)
/-- .. by a draw that always answers the same. -/
theorem exec_q {w0 w : World} {p : Nat} {T : List Value} {W : Wd} {R : List Asr} {F : Nat} {fst cap : Array Value} {B : Nat} (h : Own w0 w (WldA p W T :: R)) (wf : WF B W) (hB : B ≤ 80000) (g : Int)
    (en : ∀ (args : Array Value) (w : World), (callFunc F args).run Tryz.prog w = .ok (.enter F args) w) (v : Int)
    (hq : ∀ kind n w', Calls Tryz.prog F (fst ++ (#[.int .i64 kind, .int .i64 n] ++ cap)) w' fun r w'' => r = .returned (.int .i64 v) ∧ Below w'.heap.size w' w'') :
    Calls Tryz.prog 16 #[.pointer (some ⟨p, 0, none⟩), .int .i64 g, .func (.func F) fst cap] w fun r w' => ∃ ra rc, r = .returned (.agg #[.bool (execM W g v).2.1, .slice ra (execM W g v).2.2.length rc]) ∧ Own w0 w' (RowGA 1 ra rc (execM W g v).2.2.length (intc (execM W g v).2.2) :: WldA p (execM W g v).1 T :: R) := by
  refine (exec_w (Qd := fun u R' => u = v ∧ R' = R) (Qp := fun _ _ => False) h wf hB g en (fun _ _ => drawOk_quiet v (fun w' => hq _ _ w'))).mono (fun r w' hh => ?_)
  rcases hh with ⟨u, R', ra, rc, hq, h1, h2⟩ | ⟨ch, R', h1, h2, h3, h4⟩
  · rcases hq with ⟨hn, rfl⟩ | ⟨-, rfl, rfl⟩
    · have e : execM W g u = execM W g v := execM_none wf (fun hl => by rcases hn with hn | hn; exact absurd hl hn; exact hn) u v
      rw [e] at h1 h2
      exact ⟨ra, rc, h1, h2⟩
    · exact ⟨ra, rc, h1, h2⟩
  · exact h3.elim
section
variable {w0 w : World} {p : Nat} {W : Wd} {T : List Value} {R : List Asr}
theorem len_w (h : Own w0 w (WldA p W T :: R)) : Calls Tryz.prog 29 #[.pointer (some ⟨p, 0, none⟩)] w fun r w' => r = .returned (.int .i64 (W.gs.length : Int)) ∧ w' = w := by
  obtain ⟨D, hf, ho⟩ := h.wld
  exact wlen_any ho
theorem end_w (h : Own w0 w (WldA p W T :: R)) : Calls Tryz.prog 30 #[.pointer (some ⟨p, 0, none⟩)] w fun r w' => r = .returned (.tuple #[.int .i64 W.en, .int .i64 W.why]) ∧ ∃ k, w' = w.drewN k := by
  obtain ⟨D, hf, ho⟩ := h.wld
  exact wend_any ho
theorem status_w (h : Own w0 w (WldA p W T :: R)) (g : Int) : Calls Tryz.prog 27 #[.pointer (some ⟨p, 0, none⟩), .int .i64 g] w fun r w' => r = .returned (.int .i64 (statusM W g)) ∧ w' = w := by
  obtain ⟨D, hf, ho⟩ := h.wld
  exact status_any ho hf g
theorem stack_w (h : Own w0 w (WldA p W T :: R)) {B : Nat} (wf : WF B W) (k : Nat) (hk : k < W.gs.length) : Calls Tryz.prog 24 #[.pointer (some ⟨p, 0, none⟩), .int .i64 (k : Int)] w fun r w' => ∃ g' cap', r = .returned (.slice (some ⟨g', 0, none⟩) (W.g k).n cap') ∧ w.heap.size ≤ g' ∧ StkAt w' g' (W.g k).n cap' (W.g k).z ∧ Below w.heap.size w w' := by
  obtain ⟨D, hf, ho⟩ := h.wld
  exact wstack_any ho hf k hk (by have := wf.g1; omega) (wf.at hk).n
theorem out_w (h : Own w0 w (WldA p W T :: R)) {B : Nat} (wf : WF B W) : Calls Tryz.prog 21 #[.pointer (some ⟨p, 0, none⟩)] w fun r w' => ∃ a' c', r = .returned (.slice a' W.out.length c') ∧ RowG 1 w' a' c' W.out.length (intc W.out) ∧ (∀ x ∈ blk a', w.heap.size ≤ x) ∧ Below w.heap.size w w' := by
  obtain ⟨D, hf, ho⟩ := h.wld
  exact wout_any ho (by have := wf.out; omega)
theorem chan_w (h : Own w0 w (WldA p W T :: R)) {B : Nat} (wf : WF B W) (hB : B ≤ 80000) (i : Nat) (hi : i < W.Cs.length) : Calls Tryz.prog 26 #[.pointer (some ⟨p, 0, none⟩), .int .i64 (i : Int)] w fun r w' => ∃ ba bc sa sc ra rc, r = .returned (.agg #[.slice ba (W.ch (i : Int)).buf.length bc, .slice sa (W.ch (i : Int)).S.length sc, .slice ra (W.ch (i : Int)).R.length rc, .bool (W.ch (i : Int)).cl]) ∧ Own w0 w' (WldA p W T :: R) := by
  obtain ⟨D, hf, ho⟩ := h.wld
  obtain ⟨c1, c2, c3, -⟩ := wf.cs _ (ch_mem (W := W) (i := (i : Int)) ⟨by omega, by omega⟩)
  refine (wchan_any ho hf i hi (by omega) (by omega) (by omega)).mono (fun r w' hh => ?_)
  obtain ⟨ba, bc, sa, sc, ra, rc, h1, h2⟩ := hh
  exact ⟨ba, bc, sa, sc, ra, rc, h1, Own.toWld hf h2⟩
end
theorem new_w (w : World) (fa : Option Addr) (fc : Nat) (fr : List (Option Addr × Nat)) (fs : List (List In4)) (ra : Option Addr) (rc : Nat) (rooms : List Int) (locks : Nat) (ca : Option Addr) (cc : Nat) (ks : List Cs3) (hp : ProgIn w fa fr fs ra rooms ca cc ks) (hlk : locks ≤ 1000) :
    Calls Tryz.prog 10 #[.agg #[.slice fa fs.length fc, .slice ra rooms.length rc, .int .i64 (locks : Int), .slice ca ks.length cc]] w fun r w' => ∃ b, r = .returned (.pointer (some ⟨b, 0, none⟩)) ∧ Own w w' [WldA b (newM fs ks rooms locks) []] := by
  refine (wnew_any w fa fc fr fs ra rc rooms locks ca cc ks hp hlk).mono (fun r w' hh => ?_)
  obtain ⟨b, D, h1, hf, ho⟩ := hh
  exact ⟨b, h1, Own.toWld (R := []) hf (by rw [List.append_nil]; exact ho)⟩
/-- An op that a program hasn't. -/
theorem no_op {B : Nat} {W : Wd} (k : Int) (hk : k ≠ 0) (h : ∀ l ∈ W.fs, ∀ x ∈ l, x.1 ≠ k) (g : Nat) : ((W.ins g).getD (0, 0, 0, 0)).1 ≠ k := by
  cases hx : W.ins g with
  | none => exact fun e => hk e.symm
  | some x =>
    simp only [Option.getD_some]
    rw [Wd.ins_eq] at hx
    unfold Wd.insAt at hx
    split at hx
    · cases hx
    · have hm := List.mem_of_getElem? hx
      rw [List.getD_eq_getElem?_getD] at hm
      cases e : W.fs[(W.g g).fn.toNat]? with
      | none => rw [e] at hm; simp at hm
      | some l => rw [e] at hm; exact h l (List.mem_of_getElem? e) x hm
end Go.Proofs.YtjidcagklakjaaaGreat
/-
  The law WorldCloses: its worlds, in plain numbers.
-/
open Go Go.RowKit
set_option linter.unusedVariables false
namespace Go.Proofs.YtjidcagklakjaaaGreat
/-- One goroutine's instructions, one behind the other. -/
def runK (W : Wd) (g : Int) : Nat → Wd
  | 0 => W
  | k + 1 => (execM (runK W g k) g 0).1
theorem runK_wf {B : Nat} {W : Wd} (h : WF B W) (g : Int) : ∀ k, B + k * (W.ks.length + 1) ≤ 80000 → WF (B + k * (W.ks.length + 1)) (runK W g k) ∧ Fol W (runK W g k)
  | 0, _ => ⟨by simpa [runK] using h, Fol.refl _⟩
  | k + 1, hb => by
    rw [Nat.add_mul] at hb
    obtain ⟨a, b⟩ := runK_wf h g k (by omega)
    obtain ⟨c, d⟩ := a.exec (by omega) g 0
    rw [b.ks] at c
    exact ⟨c.mono (by rw [Nat.add_mul]; omega), b.trans d⟩
def clHead (n : Nat) (s : Bool) : List In4 := List.replicate n (11, 1, 0, 1) ++ (if s then [(11, 2, 0, 1)] else [])
def clMain (n : Nat) (s : Bool) : List In4 := clHead n s ++ [(15, 0, 0, 0), (15, 1, 0, 0)]
theorem clHead_len (n : Nat) (s : Bool) : (clHead n s).length = n + (if s then 1 else 0) := by unfold clHead; split <;> simp
def clFs (n : Nat) (s : Bool) : List (List In4) := [clMain n s, [(1, 1, 7, 0), (1, 2, 7, 0), (14, 0, 1, 2)], [(13, 1, 0, 0)]]
def clW (n : Nat) (s : Bool) : Wd := newM (clFs n s) [] [0, 0] 0
def clN (n : Nat) (s : Bool) : Nat := n + (if s then 1 else 0)
def cl1 (n : Nat) (s : Bool) (k : Nat) : Wd := runK (clW n s) 0 k
/-- .. each of the others three. -/
def cl2 (n : Nat) (s : Bool) : Nat → Wd
  | 0 => cl1 n s (clN n s)
  | g + 1 => runK (cl2 n s g) ((g : Int) + 1) 3
def cl3 (n : Nat) (s : Bool) : Wd := (execM (cl2 n s (clN n s)) 0 0).1
def cl4 (n : Nat) (s : Bool) : Wd := (execM (cl3 n s) 0 0).1
def clOk (n : Nat) (s : Bool) : Bool :=
  (List.range (clN n s + 1)).all (fun g => (cl2 n s g).gs.length == clN n s + 1) &&
  ((execM (cl2 n s (clN n s)) 0 0).2.2 == (List.range n).map (fun i => ((i + 1 : Nat) : Int))) &&
  (List.range n).all (fun i => ((cl3 n s).g (i + 1)).rg 1 == 0 && ((cl3 n s).g (i + 1)).rg 2 == 0 && statusM (cl3 n s) ((i + 1 : Nat) : Int) == 1) &&
  (if s then decide ((cl4 n s).en = 2) && decide ((cl4 n s).why = -1) && ((cl4 n s).ch 1).cl && ((cl4 n s).ch 1).S.isEmpty else decide ((cl4 n s).en = 0) && ((cl4 n s).ch 0).cl && ((cl4 n s).ch 1).cl)
theorem cl_all : ∀ n, n < 21 → 1 ≤ n → ∀ s, clOk n s = true := by decide +kernel
theorem cl_good : ∀ n, n < 21 → 1 ≤ n → ∀ s, ((clFs n s).all fun l => decide (l.length ≤ 900) && l.all fun x => decide (0 ≤ x.1) && decide (x.1 ≠ 17) && (goodB 3 2 0 0 l.length x == some true)) = true := by decide +kernel
theorem cl_wf {n : Nat} {s : Bool} (h : 1 ≤ n ∧ n ≤ 20) : WF 0 (clW n s) := by
  have hg := cl_good n (by omega) h.1 s
  rw [List.all_eq_true] at hg
  refine newM_wf ⟨by show 1 ≤ 3 ∧ 3 ≤ 1000; omega, fun l hl => ?_, fun l hl x hx => ?_, by simp, fun k hk => by simp at hk, by decide, by decide⟩
  · have := hg l hl; simp at this; exact this.1
  · have := hg l hl
    simp only [Bool.and_eq_true, List.all_eq_true, decide_eq_true_eq, beq_iff_eq] at this
    exact ⟨(this.2 x hx).1.1, (this.2 x hx).2⟩
theorem clN_le {n : Nat} {s : Bool} (h : n ≤ 20) : clN n s ≤ 21 := by unfold clN; split <;> omega
theorem cl1_wf {n : Nat} {s : Bool} (h : 1 ≤ n ∧ n ≤ 20) (k : Nat) (hk : k ≤ 21) : WF 21 (cl1 n s k) ∧ Fol (clW n s) (cl1 n s k) := by
  obtain ⟨a, b⟩ := runK_wf (cl_wf (s := s) h) 0 k (by show 0 + k * (0 + 1) ≤ _; omega)
  exact ⟨a.mono (by show 0 + k * (0 + 1) ≤ _; omega), b⟩
theorem cl2_wf {n : Nat} {s : Bool} (h : 1 ≤ n ∧ n ≤ 20) : ∀ g k, g ≤ 21 → k ≤ 3 → WF (21 + g * 3 + k) (runK (cl2 n s g) ((g : Int) + 1) k) ∧ Fol (clW n s) (runK (cl2 n s g) ((g : Int) + 1) k)
  | 0, k, _, hk => by
    obtain ⟨a, b⟩ := cl1_wf (s := s) h (clN n s) (clN_le h.2)
    obtain ⟨c, d⟩ := runK_wf a (((0 : Nat) : Int) + 1) k (by rw [b.ks]; show 21 + k * (0 + 1) ≤ _; omega)
    rw [b.ks] at c
    exact ⟨c.mono (by show 21 + k * (0 + 1) ≤ _; omega), b.trans d⟩
  | g + 1, k, hg, hk => by
    obtain ⟨a, b⟩ := cl2_wf h g 3 (by omega) (by omega)
    obtain ⟨c, d⟩ := runK_wf (W := cl2 n s (g + 1)) a (((g + 1 : Nat) : Int) + 1) k (by rw [show (cl2 n s (g + 1)).ks = [] from b.ks]; show 21 + g * 3 + 3 + k * (0 + 1) ≤ _; omega)
    rw [show (cl2 n s (g + 1)).ks = [] from b.ks] at c
    exact ⟨c.mono (by show 21 + g * 3 + 3 + k * (0 + 1) ≤ _; omega), b.trans d⟩
theorem cl2_wf0 {n : Nat} {s : Bool} (h : 1 ≤ n ∧ n ≤ 20) (g : Nat) (hg : g ≤ 21) : WF 200 (cl2 n s g) ∧ Fol (clW n s) (cl2 n s g) := by
  obtain ⟨a, b⟩ := cl2_wf (s := s) h g 0 hg (by omega)
  exact ⟨a.mono (by omega), b⟩
theorem cl3_wf {n : Nat} {s : Bool} (h : 1 ≤ n ∧ n ≤ 20) : WF 300 (cl3 n s) ∧ Fol (clW n s) (cl3 n s) := by
  obtain ⟨a, b⟩ := cl2_wf0 (s := s) h (clN n s) (clN_le h.2)
  obtain ⟨c, d⟩ := a.exec (by omega) 0 0
  rw [b.ks] at c
  exact ⟨c.mono (by show 200 + 0 + 1 ≤ _; omega), b.trans d⟩
theorem cl4_wf {n : Nat} {s : Bool} (h : 1 ≤ n ∧ n ≤ 20) : WF 400 (cl4 n s) ∧ Fol (clW n s) (cl4 n s) := by
  obtain ⟨a, b⟩ := cl3_wf (s := s) h
  obtain ⟨c, d⟩ := a.exec (by omega) 0 0
  rw [b.ks] at c
  exact ⟨c.mono (by show 300 + 0 + 1 ≤ _; omega), b.trans d⟩
/-- What the law looks at. -/
structure ClF (n : Nat) (s : Bool) : Prop where
  len : ∀ g, g ≤ clN n s → (cl2 n s g).gs.length = clN n s + 1
  rd : (execM (cl2 n s (clN n s)) 0 0).2.2 = (List.range n).map (fun i => ((i + 1 : Nat) : Int))
  each : ∀ i, i < n → ((cl3 n s).g (i + 1)).rg 1 = 0 ∧ ((cl3 n s).g (i + 1)).rg 2 = 0 ∧ statusM (cl3 n s) ((i : Int) + 1) = 1
  yes : s = true → (cl4 n s).en = 2 ∧ (cl4 n s).why = -1 ∧ ((cl4 n s).ch 1).cl = true ∧ ((cl4 n s).ch 1).S.length = 0
  no : s = false → (cl4 n s).en = 0 ∧ ((cl4 n s).ch 0).cl = true ∧ ((cl4 n s).ch 1).cl = true
theorem clF_of {n : Nat} {s : Bool} (h : 1 ≤ n ∧ n ≤ 20) : ClF n s := by
  have hk := cl_all n (by omega) h.1 s
  unfold clOk at hk
  simp only [Bool.and_eq_true, List.all_eq_true, List.mem_range, beq_iff_eq] at hk
  obtain ⟨⟨⟨h1, h2⟩, h3⟩, h4⟩ := hk
  refine ⟨fun g hg => h1 g (by omega), h2, fun i hi => ⟨(h3 i hi).1.1, (h3 i hi).1.2, (h3 i hi).2⟩, fun e => ?_, fun e => ?_⟩
  · rw [if_pos e] at h4
    simp only [Bool.and_eq_true, decide_eq_true_eq, List.isEmpty_iff] at h4
    exact ⟨h4.1.1.1, h4.1.1.2, h4.1.2, by rw [h4.2]; rfl⟩
  · rw [if_neg (by rw [e]; decide)] at h4
    simp only [Bool.and_eq_true, decide_eq_true_eq] at h4
    exact ⟨h4.1.1, h4.1.2, h4.2⟩
theorem cl3_lt {n : Nat} {s : Bool} (h : 1 ≤ n ∧ n ≤ 20) (i : Nat) (hi : i < n) : i + 1 < (cl3 n s).gs.length := by
  have h1 := (clF_of (s := s) h).len _ (Nat.le_refl _)
  obtain ⟨a, b⟩ := cl2_wf0 (s := s) h (clN n s) (clN_le h.2)
  have h2 := (a.exec (by omega) 0 0).2.gl
  have h3 : n ≤ clN n s := by unfold clN; omega
  have e : (cl3 n s).gs.length = (execM (cl2 n s (clN n s)) 0 0).1.gs.length := rfl
  omega
end Go.Proofs.YtjidcagklakjaaaGreat
/-
  The law WorldSleeps: its worlds, in plain numbers.
-/
open Go Go.RowKit
set_option linter.unusedVariables false
namespace Go.Proofs.YtjidcagklakjaaaGreat
theorem exec_pureM {W : Wd} {g : Nat} (hl : W.lets (g : Int)) {x : In4} (hx : W.ins g = some x) {z : List Int} (hz : pureM x (W.g g).o (W.g g).z = some z) (v : Int) : (execM W (g : Int) v).1 = W.setG g { W.g g with z := z } := by
  rw [execM_lets hl]
  show (Dd.end_ (doM W g (W.ins g) _ _)) = _
  rw [hx]
  unfold doM
  simp only [hz]
  rfl
theorem exec_deedM {W : Wd} {g : Nat} (hl : W.lets (g : Int)) {x : In4} (hx : W.ins g = some x) (hz : pureM x (W.g g).o (W.g g).z = none) (v : Int) : (execM W (g : Int) v).1 = (deedM (W.step g) g x (askM W x v).1 (askM W x v).2).end_ := by
  rw [execM_lets hl]
  show (Dd.end_ (doM W g (W.ins g) _ _)) = _
  rw [hx]
  unfold doM
  simp only [hz]
  rfl
theorem exec_notM {W : Wd} {g : Int} (hl : ¬ W.lets g) (v : Int) : (execM W g v).1 = W := by unfold execM; rw [if_neg hl]
def slPair (t i : Nat) : List In4 := [(1, 1, (t : Int) + 1000 * (i : Int), 0), (11, 1, 1, 2)]
def slPairs (T : List Nat) (i : Nat) : List In4 := (List.range i).flatMap fun j => slPair (T.getD j 0) j
def slMain (T : List Nat) : List In4 := slPairs T T.length ++ [(12, 0, 0, 0), (7, 2 * (T.length : Int), 0, 0)]
def slKid : List In4 := [(1, 1, 1000, 0), (6, 2, 0, 1), (8, 2, 7, 0), (4, 0, 0, 1), (1, 4, 1, 0), (3, 3, 3, 4), (7, 1, 0, 0), (17, 0, 0, 0), (20, 3, 0, 0), (10, 0, 0, 0)]
def slFs (T : List Nat) : List (List In4) := [slMain T, slKid]
def slW (T : List Nat) : Wd := newM (slFs T) [] [] 0
def slNew (t i : Nat) : Gt := ⟨1, 1, newF 1 ((t : Int) + 1000 * (i : Int)) 0⟩
theorem slPairs_succ (T : List Nat) (i : Nat) : slPairs T (i + 1) = slPairs T i ++ slPair (T.getD i 0) i := by unfold slPairs; rw [List.range_succ, List.flatMap_append]; simp
theorem slPairs_len (T : List Nat) : ∀ i, (slPairs T i).length = 2 * i
  | 0 => rfl
  | i + 1 => by rw [slPairs_succ, List.length_append, slPairs_len T i]; simp [slPair]; omega
theorem slMain_at (T : List Nat) : ∀ (n i : Nat), i < n → (slPairs T n)[2 * i]? = some (1, 1, (T.getD i 0 : Int) + 1000 * (i : Int), 0) ∧ (slPairs T n)[2 * i + 1]? = some (11, 1, 1, 2)
  | 0, i, h => by omega
  | n + 1, i, h => by
    rw [slPairs_succ]
    by_cases e : i < n
    · rw [List.getElem?_append_left (by rw [slPairs_len]; omega), List.getElem?_append_left (by rw [slPairs_len]; omega)]
      exact slMain_at T n i e
    · obtain rfl : i = n := by omega
      rw [List.getElem?_append_right (by rw [slPairs_len]; exact Nat.le_refl _), List.getElem?_append_right (by rw [slPairs_len]; omega), slPairs_len, Nat.sub_self, Nat.add_sub_cancel_left]
      exact ⟨rfl, rfl⟩
/-- Behind so many pairs of instructions. -/
def slA (T : List Nat) (i : Nat) : Wd := { slW T with gs := ⟨1, 1, [0, 2 * (i : Int), 0, if i = 0 then 0 else (T.getD (i - 1) 0 : Int) + 1000 * ((i - 1 : Nat) : Int), (i : Int), 0, 0, 0, 0, 0, 0]⟩ :: (List.range i).map fun j => slNew (T.getD j 0) j }
theorem slA_step (T : List Nat) (i : Nat) (hi : i < T.length) (hT : T.length ≤ 20) : runK (slA T i) 0 2 = slA T (i + 1) := by
  have hat := slMain_at T T.length i hi
  have hfs : (slA T i).fs = slFs T := rfl
  obtain ⟨a, ha⟩ : ∃ a : Int, a = if i = 0 then 0 else (T.getD (i - 1) 0 : Int) + 1000 * ((i - 1 : Nat) : Int) := ⟨_, rfl⟩
  obtain ⟨K, hK⟩ : ∃ K, K = (List.range i).map fun j => slNew (T.getD j 0) j := ⟨_, rfl⟩
  have hKl : K.length = i := by rw [hK]; simp
  have hA : slA T i = { slW T with gs := ⟨1, 1, [0, 2 * (i : Int), 0, a, (i : Int), 0, 0, 0, 0, 0, 0]⟩ :: K } := by unfold slA; rw [ha, hK]
  obtain ⟨v, hv⟩ : ∃ v : Int, v = (T.getD i 0 : Int) + 1000 * (i : Int) := ⟨_, rfl⟩
  rw [← hv] at hat
  have hins : ∀ (b : Int) (K : List Gt), (({ slW T with gs := ⟨1, 1, [0, 2 * (i : Int), 0, a, b, 0, 0, 0, 0, 0, 0]⟩ :: K } : Wd)).ins 0 = some (1, 1, v, 0) := fun b K => by
    show (if (2 * (i : Int)) < 0 then none else (slMain T)[(2 * (i : Int)).toNat]?) = _
    rw [if_neg (by omega), show (2 * (i : Int)).toNat = 2 * i by omega]
    unfold slMain
    rw [List.getElem?_append_left (by rw [slPairs_len]; omega)]
    exact hat.1
  have hins2 : ∀ (b : Int) (K : List Gt), (({ slW T with gs := ⟨1, 1, [0, 2 * (i : Int) + 1, 0, v, b, 0, 0, 0, 0, 0, 0]⟩ :: K } : Wd)).ins 0 = some (11, 1, 1, 2) := fun b K => by
    show (if (2 * (i : Int) + 1) < 0 then none else (slMain T)[(2 * (i : Int) + 1).toNat]?) = _
    rw [if_neg (by omega), show (2 * (i : Int) + 1).toNat = 2 * i + 1 by omega]
    unfold slMain
    rw [List.getElem?_append_left (by rw [slPairs_len]; omega)]
    exact hat.2
  rw [hA]
  show (execM (execM ({ slW T with gs := ⟨1, 1, [0, 2 * (i : Int), 0, a, (i : Int), 0, 0, 0, 0, 0, 0]⟩ :: K } : Wd) 0 0).1 0 0).1 = _
  have e1 := exec_pureM (W := ({ slW T with gs := ⟨1, 1, [0, 2 * (i : Int), 0, a, (i : Int), 0, 0, 0, 0, 0, 0]⟩ :: K } : Wd)) (g := 0) ⟨rfl, by simp, by simp, rfl⟩ (hins _ _) (z := [0, 2 * (i : Int) + 1, 0, v, (i : Int), 0, 0, 0, 0, 0, 0]) rfl 0
  rw [show ((0 : Nat) : Int) = 0 from rfl] at e1
  rw [e1]
  have e2 := exec_deedM (W := ({ slW T with gs := ⟨1, 1, [0, 2 * (i : Int) + 1, 0, v, (i : Int), 0, 0, 0, 0, 0, 0]⟩ :: K } : Wd)) (g := 0) ⟨rfl, by simp, by simp, rfl⟩ (hins2 _ _) rfl 0
  rw [show ((0 : Nat) : Int) = 0 from rfl] at e2
  refine e2.trans ?_
  have hsp : deedM (Wd.step ({ slW T with gs := ⟨1, 1, [0, 2 * (i : Int) + 1, 0, v, (i : Int), 0, 0, 0, 0, 0, 0]⟩ :: K } : Wd) 0) 0 (11, 1, 1, 2) (askM ({ slW T with gs := ⟨1, 1, [0, 2 * (i : Int) + 1, 0, v, (i : Int), 0, 0, 0, 0, 0, 0]⟩ :: K } : Wd) (11, 1, 1, 2) 0).1 (askM ({ slW T with gs := ⟨1, 1, [0, 2 * (i : Int) + 1, 0, v, (i : Int), 0, 0, 0, 0, 0, 0]⟩ :: K } : Wd) (11, 1, 1, 2) 0).2 = spawnM ({ slW T with gs := ⟨1, 1, [0, 2 * (i : Int) + 1 + 1, 0, v, (i : Int), 0, 0, 0, 0, 0, 0]⟩ :: K } : Wd) [] 0 (11, 1, 1, 2) := rfl
  rw [hsp]
  unfold spawnM
  rw [if_neg (by show ¬ 100 ≤ (K.length + 1); omega)]
  have hK2 : (List.range (i + 1)).map (fun j => slNew (T.getD j 0) j) = K ++ [slNew (T.getD i 0) i] := by rw [List.range_succ, List.map_append, hK]; rfl
  show ({ slW T with gs := ⟨1, 1, [0, 2 * (i : Int) + 1 + 1, 0, v, ((K.length + 1 : Nat) : Int), 0, 0, 0, 0, 0, 0]⟩ :: (K ++ [⟨1, 1, newF 1 v 0⟩]) } : Wd) = slA T (i + 1)
  unfold slA
  rw [hK2, hKl, if_neg (by omega), Nat.add_sub_cancel, ← hv, show 2 * (i : Int) + 1 + 1 = 2 * ((i + 1 : Nat) : Int) by omega]
  unfold slNew
  rw [← hv]
theorem runK_add (W : Wd) (g : Int) (a : Nat) : ∀ b, runK W g (a + b) = runK (runK W g a) g b
  | 0 => rfl
  | b + 1 => by show (execM (runK W g (a + b)) g 0).1 = (execM (runK (runK W g a) g b) g 0).1; rw [runK_add W g a b]
theorem slA_run (T : List Nat) (hT : T.length ≤ 20) : ∀ i, i ≤ T.length → runK (slW T) 0 (2 * i) = slA T i
  | 0, _ => rfl
  | i + 1, h => by
    rw [show 2 * (i + 1) = 2 * i + 2 by omega, runK_add, slA_run T hT i (by omega)]
    exact slA_step T i (by omega) hT
/-- A step that registers alone decide, of one of the others. -/
def kidS (G : Gt) : Option Gt := if G.pc < 0 then none else match slKid[G.pc.toNat]? with
  | some x => (pureM x G.o G.z).map fun z => { G with z := z }
  | none => none
def kidN : Nat → Gt → Option Gt
  | 0, G => some G
  | k + 1, G => match kidS G with
    | some H => if H.st = 1 ∧ H.fn = 1 then kidN k H else none
    | none => none
theorem kidN_add : ∀ (a b : Nat) (G : Gt), kidN (a + b) G = (kidN a G).bind (kidN b)
  | 0, b, G => by rw [Nat.zero_add]; rfl
  | a + 1, b, G => by
    rw [show a + 1 + b = (a + b) + 1 by omega]
    unfold kidN
    cases kidS G with
    | none => rfl
    | some H =>
      simp only
      split
      · exact kidN_add a b H
      · rfl
theorem kidN_then {a : Nat} {G H : Gt} (h : kidN a G = some H) (b : Nat) : kidN (a + b) G = kidN b H := by rw [kidN_add, h]; rfl
def kidZ (pc r0 r2 r3 r4 : Int) : Gt := ⟨1, 1, [1, pc, r0, 1000, r2, r3, r4, 0, 0, 0, 0]⟩
theorem kid_1 (v x s y : Int) : kidS (kidZ 1 v x s y) = some (kidZ 2 v (if v < 1000 then 1 else 0) s y) := rfl
theorem kid_2 (v s y : Int) : kidS (kidZ 2 v 0 s y) = some (kidZ 3 v 0 s y) := rfl
theorem kid_2y (v s y : Int) : kidS (kidZ 2 v 1 s y) = some (kidZ 7 v 1 s y) := rfl
theorem kid_3 (v x s y : Int) : kidS (kidZ 3 v x s y) = some (kidZ 4 (wr64 (v - 1000)) x s y) := rfl
theorem kid_4 (v x s y : Int) : kidS (kidZ 4 v x s y) = some (kidZ 5 v x s 1) := rfl
theorem kid_5 (v x s y : Int) : kidS (kidZ 5 v x s y) = some (kidZ 6 v x (wr64 (s + y)) y) := rfl
theorem kid_6 (v x s y : Int) : kidS (kidZ 6 v x s y) = some (kidZ 1 v x s y) := rfl
theorem kid_go {G H : Gt} {k : Nat} (h : kidS G = some H) (hs : H.st = 1 ∧ H.fn = 1) : kidN (k + 1) G = kidN k H := by
  show (match kidS G with | some H => if H.st = 1 ∧ H.fn = 1 then kidN k H else none | none => none) = _
  rw [h]
  simp only
  rw [if_pos hs]
theorem kid_loop (v x s y : Int) (hv : 1000 ≤ v ∧ v ≤ 1000000) (hs : 0 ≤ s ∧ s ≤ 1000000) : kidN 6 (kidZ 1 v x s y) = some (kidZ 1 (v - 1000) 0 (s + 1) 1) := by
  rw [kid_go (kid_1 v x s y) ⟨rfl, rfl⟩, if_neg (by omega), kid_go (kid_2 v s y) ⟨rfl, rfl⟩, kid_go (kid_3 v 0 s y) ⟨rfl, rfl⟩, kid_go (kid_4 _ 0 s y) ⟨rfl, rfl⟩, kid_go (kid_5 _ 0 s 1) ⟨rfl, rfl⟩, kid_go (kid_6 _ 0 _ 1) ⟨rfl, rfl⟩]
  have e1 : wr64 (v - 1000) = v - 1000 := by unfold wr64; rw [IntKind.wrap_i64]; omega
  have e2 : wr64 (s + 1) = s + 1 := by unfold wr64; rw [IntKind.wrap_i64]; omega
  rw [e1, e2]; rfl
theorem kid_loops (t : Nat) (ht : t < 1000) : ∀ (i : Nat) (s x y : Int), i ≤ 100 → 0 ≤ s → s + i ≤ 1000 → kidN (6 * i) (kidZ 1 ((t : Int) + 1000 * (i : Int)) x s y) = some (kidZ 1 (t : Int) (if i = 0 then x else 0) (s + i) (if i = 0 then y else 1))
  | 0, s, x, y, _, _, _ => by simp [kidN]
  | i + 1, s, x, y, hi, hs, hs2 => by
    rw [show 6 * (i + 1) = 6 + 6 * i by omega, kidN_then (kid_loop _ x s y (by omega) (by omega))]
    have h := kid_loops t ht i (s + 1) 0 1 (by omega) (by omega) (by omega)
    rw [show (t : Int) + 1000 * ((i + 1 : Nat) : Int) - 1000 = (t : Int) + 1000 * (i : Int) by omega, h]
    have e0 : (if i = 0 then (0 : Int) else 0) = 0 := by split <;> rfl
    have e1 : (if i = 0 then (1 : Int) else 1) = 1 := by split <;> rfl
    rw [e0, e1, if_neg (show ¬ i + 1 = 0 by omega), if_neg (show ¬ i + 1 = 0 by omega), show s + 1 + (i : Int) = s + ((i + 1 : Nat) : Int) by omega]
/-- Ahead of its Sleep. -/
theorem kid_run (t i : Nat) (ht : t < 1000) (hi : i ≤ 100) : kidN (6 * i + 3) (slNew t i) = some (kidZ 7 (t : Int) 1 (i : Int) (if i = 0 then 0 else 1)) := by
  have h0 : kidS (slNew t i) = some (kidZ 1 ((t : Int) + 1000 * (i : Int)) 0 0 0) := rfl
  have h := kid_loops t ht i 0 0 0 hi (by omega) (by omega)
  rw [show 6 * i + 3 = (6 * i + 2) + 1 by omega, kid_go h0 ⟨rfl, rfl⟩, kidN_then h]
  rw [kid_go (kid_1 _ _ _ _) ⟨rfl, rfl⟩, if_pos (by omega), kid_go (kid_2y _ _ _) ⟨rfl, rfl⟩, Int.zero_add]
  rfl
theorem setG_setG (W : Wd) (g : Nat) (G H : Gt) : (W.setG g G).setG g H = W.setG g H := by unfold Wd.setG; simp [List.set_set]
theorem setG_same {W : Wd} {g : Nat} {G : Gt} (hg : g < W.gs.length) (h : W.g g = G) : W.setG g G = W := by
  unfold Wd.setG
  rw [set_self W.gs g G (by rw [Wd.g_at hg, h])]
theorem setG_g (W : Wd) (g : Nat) (G : Gt) (hg : g < W.gs.length) : (W.setG g G).g g = G := by rw [Wd.g_setG _ _ _ _ hg, if_pos rfl]
theorem runK_front (W : Wd) (g : Int) (k : Nat) : runK W g (k + 1) = runK (execM W g 0).1 g k := by
  rw [show k + 1 = 1 + k by omega, runK_add]; rfl
theorem runK_stop {W : Wd} {g : Int} (h : ¬ W.lets g) : ∀ k, runK W g k = W
  | 0 => rfl
  | k + 1 => by show (execM (runK W g k) g 0).1 = W; rw [runK_stop h k, exec_notM h]
/-- Steps of one of the others that registers alone decide. -/
theorem runK_kid {T : List Nat} : ∀ (m : Nat) (W : Wd) (g : Nat) (G H : Gt), W.fs = slFs T → W.en = 0 → g < W.gs.length → W.g g = G → G.st = 1 → G.fn = 1 → kidN m G = some H → runK W (g : Int) m = W.setG g H
  | 0, W, g, G, H, hfs, hen, hg, hG, hs, hf, h => by
    have : G = H := by simpa [kidN] using h
    subst this
    exact (setG_same hg hG).symm
  | m + 1, W, g, G, H, hfs, hen, hg, hG, hs, hf, h => by
    unfold kidN at h
    cases hk : kidS G with
    | none => rw [hk] at h; cases h
    | some G1 =>
      rw [hk] at h
      simp only at h
      split at h
      · rename_i hst
        rw [runK_front]
        have hl : W.lets (g : Int) := ⟨hen, by omega, by omega, by rw [Int.toNat_natCast, hG]; exact hs⟩
        unfold kidS at hk
        split at hk
        · cases hk
        · rename_i hpc
          cases hx : slKid[G.pc.toNat]? with
          | none => rw [hx] at hk; cases hk
          | some x =>
            rw [hx] at hk
            simp only at hk
            cases hz : pureM x G.o G.z with
            | none => rw [hz] at hk; cases hk
            | some z =>
              rw [hz] at hk
              simp only [Option.map_some, Option.some.injEq] at hk
              have hins : W.ins g = some x := by
                rw [Wd.ins_eq, hG, hf]
                unfold Wd.insAt
                rw [if_neg hpc, hfs]
                exact hx
              have e := exec_pureM hl hins (z := z) (by rw [hG]; exact hz) 0
              rw [e, hG, hk]
              have hlen : g < (W.setG g G1).gs.length := by unfold Wd.setG; simpa using hg
              rw [runK_kid m (W.setG g G1) g G1 H hfs hen hlen (setG_g W g G1 hg) hst.1 hst.2 h, setG_setG]
      · cases h
def slAsl (t i : Nat) : Gt := ⟨3, 1, [1, 8, (t : Int), 1000, 1, (i : Int), if i = 0 then 0 else 1, 0, 0, 0, 0]⟩
def slIt (T : List Nat) (i : Nat) : It := ⟨(T.getD i 0 : Int), (i : Int), (i : Int) + 1⟩
def slP (T : List Nat) : Nat → List It
  | 0 => []
  | j + 1 => pushF (slP T j) (slIt T j)
/-- So many asleep. -/
def slS (T : List Nat) (j : Nat) : Wd :=
  { slA T T.length with gs := (slA T T.length).g 0 :: (List.range T.length).map (fun i => if i < j then slAsl (T.getD i 0) i else slNew (T.getD i 0) i), hp := slP T j, nx := j }
theorem slS_0 (T : List Nat) : slS T 0 = slA T T.length := by
  unfold slS
  simp only [Nat.not_lt_zero, if_false]
  rfl
theorem slS_len (T : List Nat) (j : Nat) : (slS T j).gs.length = T.length + 1 := by unfold slS; simp
theorem slS_g (T : List Nat) (j i : Nat) (hi : i < T.length) : (slS T j).g (i + 1) = if i < j then slAsl (T.getD i 0) i else slNew (T.getD i 0) i := by
  unfold slS Wd.g
  rw [List.getD_cons_succ, List.getD_eq_getElem?_getD, List.getElem?_map, List.getElem?_range hi]
  rfl
theorem sl_step (T : List Nat) (hT : T.length ≤ 20) (ht : ∀ t ∈ T, 1 ≤ t ∧ t ≤ 30) (j : Nat) (hj : j < T.length) : runK (slS T j) ((j : Int) + 1) 300 = slS T (j + 1) := by
  obtain ⟨t, htd⟩ : ∃ t, t = T.getD j 0 := ⟨_, rfl⟩
  have htb : 1 ≤ t ∧ t ≤ 30 := by
    rw [htd, List.getD_eq_getElem?_getD, List.getElem?_eq_getElem hj]
    exact ht _ (List.getElem_mem _)
  have hg : j + 1 < (slS T j).gs.length := by rw [slS_len]; omega
  have hG : (slS T j).g (j + 1) = slNew t j := by rw [slS_g T j j hj, if_neg (by omega), htd]
  have h1 := runK_kid (6 * j + 3) (slS T j) (j + 1) (slNew t j) _ rfl rfl hg hG rfl rfl (kid_run t j (by omega) (by omega))
  obtain ⟨y, hy⟩ : ∃ y : Int, y = if j = 0 then 0 else 1 := ⟨_, rfl⟩
  rw [← hy] at h1
  have ec : ((j + 1 : Nat) : Int) = (j : Int) + 1 := by omega
  rw [ec] at h1
  have e300 : 300 = (6 * j + 3) + (1 + (296 - 6 * j)) := by omega
  rw [e300, runK_add, h1, runK_add]
  have hl : ((slS T j).setG (j + 1) (kidZ 7 (t : Int) 1 (j : Int) y)).lets ((j + 1 : Nat) : Int) := ⟨rfl, by omega, by rw [show ((slS T j).setG (j + 1) (kidZ 7 (t : Int) 1 (j : Int) y)).gs.length = T.length + 1 by unfold Wd.setG; simp [slS_len]]; omega, by rw [Int.toNat_natCast, setG_g _ _ _ hg]; rfl⟩
  have hins : ((slS T j).setG (j + 1) (kidZ 7 (t : Int) 1 (j : Int) y)).ins (j + 1) = some (17, 0, 0, 0) := by
    rw [Wd.ins_eq, setG_g _ _ _ hg]; rfl
  have hd := exec_deedM hl hins (by rw [setG_g _ _ _ hg]; rfl) 0
  rw [ec] at hd
  have hs : runK ((slS T j).setG (j + 1) (kidZ 7 (t : Int) 1 (j : Int) y)) ((j : Int) + 1) 1 = slS T (j + 1) := by
    refine hd.trans ?_
    have hstep : ((slS T j).setG (j + 1) (kidZ 7 (t : Int) 1 (j : Int) y)).step (j + 1) = (slS T j).setG (j + 1) (kidZ 8 (t : Int) 1 (j : Int) y) := by
      unfold Wd.step
      rw [setG_g _ _ _ hg, setG_setG]; rfl
    rw [hstep]
    show (sleepM _ [] (j + 1) (17, 0, 0, 0)).end_ = _
    unfold sleepM
    rw [setG_g _ _ _ hg]
    have hr : (kidZ 8 (t : Int) 1 (j : Int) y).rg (17, 0, 0, 0).2.1 = (t : Int) := rfl
    simp only [hr]
    rw [if_neg (by omega), if_neg (by omega)]
    unfold Dd.end_ Wd.setSt
    simp only
    rw [setG_setG, setG_g _ _ _ hg]
    have hgs : ((slS T j).gs).set (j + 1) (slAsl t j) = (slS T (j + 1)).gs := by
      show List.set (_ :: List.map _ _) (j + 1) _ = _ :: List.map _ _
      rw [List.set_cons_succ]
      congr 1
      apply List.ext_getElem?
      intro i
      rw [List.getElem?_set]
      by_cases e : j = i
      · subst e
        rw [if_pos rfl, if_pos (by simp; exact hj), List.getElem?_map, List.getElem?_range hj]
        simp only [Option.map_some]
        rw [if_pos (by omega), htd]
      · rw [if_neg e, List.getElem?_map, List.getElem?_map]
        by_cases hi : i < T.length
        · rw [List.getElem?_range hi]
          simp only [Option.map_some]
          by_cases h2 : i < j
          · rw [if_pos h2, if_pos (by omega)]
          · rw [if_neg h2, if_neg (by omega)]
        · rw [List.getElem?_eq_none (by simp; omega)]; rfl
    have hit : (⟨((slS T j).clock : Int) + (t : Int), ((slS T j).nx : Int), ((j + 1 : Nat) : Int)⟩ : It) = slIt T j := by
      unfold slIt
      rw [← htd, ec, show ((slS T j).clock : Int) = 0 from rfl, Int.zero_add]
      rfl
    show ({ slS T j with gs := ((slS T j).gs).set (j + 1) ⟨3, 1, (kidZ 8 (t : Int) 1 (j : Int) y).z⟩, hp := pushF (slP T j) ⟨((slS T j).clock : Int) + (t : Int), ((slS T j).nx : Int), ((j + 1 : Nat) : Int)⟩, nx := j + 1 } : Wd) = slS T (j + 1)
    rw [hit, show (⟨3, 1, (kidZ 8 (t : Int) 1 (j : Int) y).z⟩ : Gt) = slAsl t j by rw [hy]; rfl, hgs]
    rfl
  rw [hs]
  exact runK_stop (fun h => by
    have := h.2.2.2
    rw [show ((j : Int) + 1).toNat = j + 1 by omega, slS_g T (j + 1) j hj, if_pos (by omega)] at this
    exact absurd this (by show ¬ (3 : Int) = 1; decide)) _
end Go.Proofs.YtjidcagklakjaaaGreat
/-
  The law WorldSleeps: the clock goes on.
-/
open Go Go.RowKit
set_option linter.unusedVariables false
namespace Go.Proofs.YtjidcagklakjaaaGreat
/-- Who wakes comes in order, and those alone whose time it is. -/
theorem wakes_sorted : ∀ (k : Nat) (l : List It) (now : Int), l.length ≤ k → HeapI l → (∀ x ∈ (wakes l now).1, x.at_ ≤ now) ∧ (∀ y ∈ (wakes l now).2, now < y.at_) ∧ (wakes l now).1.Pairwise leI
  | 0, l, now, h, _ => by
    obtain rfl : l = [] := List.eq_nil_of_length_eq_zero (by omega)
    rw [wakes_stop (by simp)]
    exact ⟨fun x hx => by simp at hx, fun x hx => by simp at hx, List.Pairwise.nil⟩
  | k + 1, l, now, h, hh => by
    by_cases c : 0 < l.length ∧ (gI l 0).at_ ≤ now
    · rw [wakes_go c.1 c.2]
      obtain ⟨a, b, d⟩ := wakes_sorted k (remF l 0) now (by rw [remF_len c.1]; omega) (rem_heap c.1 hh)
      refine ⟨fun x hx => ?_, b, ?_⟩
      · simp only [List.mem_cons] at hx
        rcases hx with rfl | hx
        · exact c.2
        · exact a x hx
      · rw [List.pairwise_cons]
        refine ⟨fun x hx => ?_, d⟩
        have hm : x ∈ l := (rem_perm c.1).symm.mem_iff.1 (List.mem_cons_of_mem _ ((wakes_perm _ (remF l 0) now (Nat.le_refl _)).1.mem_iff.1 (List.mem_append.2 (.inl hx))))
        obtain ⟨i, hi, rfl⟩ := List.mem_iff_getElem.1 hm
        have := hh.least i hi
        rwa [gI_of hi] at this
    · rw [wakes_stop c]
      refine ⟨fun x hx => by simp at hx, fun y hy => ?_, List.Pairwise.nil⟩
      have hy' : y ∈ l := hy
      obtain ⟨i, hi, rfl⟩ := List.mem_iff_getElem.1 hy'
      have h1 := hh.least i hi
      rw [gI_of hi, leI_iff] at h1
      have h2 : ¬ (gI l 0).at_ ≤ now := fun h => c ⟨by omega, h⟩
      omega
theorem slP_perm (T : List Nat) : ∀ j, (slP T j).Perm ((List.range j).map (slIt T)) ∧ HeapI (slP T j)
  | 0 => ⟨List.Perm.refl _, fun i _ hi => by simp [slP] at hi⟩
  | j + 1 => by
    obtain ⟨a, b⟩ := slP_perm T j
    refine ⟨?_, push_heap b⟩
    show (pushF (slP T j) (slIt T j)).Perm _
    rw [List.range_succ, List.map_append]
    exact ((push_perm _ _).trans (List.Perm.cons _ a)).trans (List.perm_append_comm (l₁ := [slIt T j]))
/-- Awake, ahead of its Emit. -/
def slUp (t i : Nat) : Gt := { slAsl t i with st := 1 }
/-- At a time: who told, in order. -/
structure SC (T : List Nat) (τ : Nat) (W : Wd) (K : List It) : Prop where
  en : W.en = 0
  clock : W.clock = τ
  fs : W.fs = slFs T
  len : W.gs.length = T.length + 1
  perm : (K ++ W.hp).Perm ((List.range T.length).map (slIt T))
  heap : HeapI W.hp
  le : ∀ x ∈ K, x.at_ ≤ (τ : Int)
  lt : ∀ y ∈ W.hp, (τ : Int) < y.at_
  ord : K.Pairwise fun x y => ltI x y = true
  out : W.out = K.map (·.seq)
  g : ∀ i, slIt T i ∈ W.hp → i < T.length → W.g (i + 1) = slAsl (T.getD i 0) i
/-- In the midst of a tick: who is told of, who isn't yet. -/
structure SM (T : List Nat) (τ : Nat) (W : Wd) (K l : List It) (hp : List It) : Prop where
  en : W.en = 0
  clock : W.clock = τ
  fs : W.fs = slFs T
  len : W.gs.length = T.length + 1
  hpe : W.hp = hp
  out : W.out = K.map (·.seq)
  up : ∀ x ∈ l, ∃ i, i < T.length ∧ x = slIt T i ∧ W.g (i + 1) = slUp (T.getD i 0) i
  nd : (l.map (·.id)).Nodup
  g : ∀ i, slIt T i ∈ hp → i < T.length → W.g (i + 1) = slAsl (T.getD i 0) i
  far : ∀ x ∈ l, ∀ y ∈ hp, x.id ≠ y.id
theorem slIt_inj {T : List Nat} {i j : Nat} (h : (slIt T i).id = (slIt T j).id) : i = j := by unfold slIt at h; simp only at h; omega
theorem wokeM_g : ∀ (l : List It) (W : Wd) (j : Nat), (∀ x ∈ l, 0 ≤ x.id ∧ x.id < (W.gs.length : Int)) → (l.map (·.id)).Nodup → (wokeM W l).g j = if (j : Int) ∈ l.map (·.id) then { W.g j with st := 1 } else W.g j
  | [], W, j, _, _ => by simp [wokeM]
  | x :: t, W, j, h, hn => by
    rw [List.map_cons, List.nodup_cons] at hn
    have hx := h x (by simp)
    show (wokeM (W.setSt x.id.toNat 1) t).g j = _
    rw [wokeM_g t _ j (fun y hy => by rw [setSt_len]; exact h y (by simp [hy])) hn.2, setSt_at (by omega)]
    by_cases e : x.id.toNat = j
    · have ej : (j : Int) = x.id := by omega
      rw [if_pos e, if_neg (by rw [ej]; exact hn.1), if_pos (by rw [List.map_cons, ej]; simp), e]
    · rw [if_neg e]
      have : ((j : Int) ∈ (x :: t).map (·.id)) ↔ (j : Int) ∈ t.map (·.id) := by
        rw [List.map_cons, List.mem_cons]
        constructor
        · rintro (h | h)
          · omega
          · exact h
        · exact .inr
      by_cases hm : (j : Int) ∈ t.map (·.id)
      · rw [if_pos hm, if_pos (this.2 hm)]
      · rw [if_neg hm, if_neg (fun h => hm (this.1 h))]
theorem wokeM_same : ∀ (l : List It) (W : Wd), (wokeM W l).fs = W.fs ∧ (wokeM W l).en = W.en ∧ (wokeM W l).hp = W.hp ∧ (wokeM W l).clock = W.clock ∧ (wokeM W l).out = W.out ∧ (wokeM W l).gs.length = W.gs.length
  | [], W => ⟨rfl, rfl, rfl, rfl, rfl, rfl⟩
  | x :: t, W => by
    obtain ⟨a, b, c, d, e, f⟩ := wokeM_same t (W.setSt x.id.toNat 1)
    exact ⟨a, b, c, d, e, f.trans (setSt_len _ _ _)⟩
/-- The clock goes on. -/
theorem SC.tick {T : List Nat} {τ : Nat} {W : Wd} {K : List It} (h : SC T τ W K) :
    (tickM W).2 = (wakes W.hp ((τ + 1 : Nat) : Int)).1.map (·.id) ∧ SM T (τ + 1) (tickM W).1 K (wakes W.hp ((τ + 1 : Nat) : Int)).1 (wakes W.hp ((τ + 1 : Nat) : Int)).2 := by
  have ec : ((W.clock : Int) + 1) = ((τ + 1 : Nat) : Int) := by rw [h.clock]; omega
  have et : tickM W = (wokeM { W with clock := W.clock + 1, hp := (wakes W.hp ((τ + 1 : Nat) : Int)).2 } (wakes W.hp ((τ + 1 : Nat) : Int)).1, (wakes W.hp ((τ + 1 : Nat) : Int)).1.map (·.id)) := by
    unfold tickM; rw [if_pos h.en, ec]
  rw [et]
  refine ⟨rfl, ?_⟩
  simp only
  obtain ⟨p1, p2⟩ := wakes_perm _ W.hp ((τ + 1 : Nat) : Int) (Nat.le_refl _)
  have hmem : ∀ x, x ∈ (wakes W.hp ((τ + 1 : Nat) : Int)).1 ∨ x ∈ (wakes W.hp ((τ + 1 : Nat) : Int)).2 → x ∈ W.hp := fun x hx => p1.mem_iff.1 (List.mem_append.2 hx)
  have hit : ∀ x ∈ W.hp, ∃ i, i < T.length ∧ x = slIt T i := fun x hx => by
    obtain ⟨i, hi, rfl⟩ := List.mem_map.1 (h.perm.mem_iff.1 (List.mem_append.2 (.inr hx)))
    exact ⟨i, List.mem_range.1 hi, rfl⟩
  have hnd : (W.hp.map (·.id)).Nodup := by
    have h1 : (((List.range T.length).map (slIt T)).map (·.id)).Nodup := by
      rw [List.map_map]
      exact List.Pairwise.map _ (fun a b hab e => hab (slIt_inj e)) List.nodup_range
    have h2 := (h.perm.map (·.id)).nodup_iff.2 h1
    rw [List.map_append, List.nodup_append] at h2
    exact h2.2.1
  have hnd2 := (p1.map (·.id)).nodup_iff.2 hnd
  rw [List.map_append, List.nodup_append] at hnd2
  obtain ⟨n1, n2, n3⟩ := hnd2
  have hrng : ∀ x ∈ (wakes W.hp ((τ + 1 : Nat) : Int)).1, 0 ≤ x.id ∧ x.id < (W.gs.length : Int) := fun x hx => by
    obtain ⟨i, hi, rfl⟩ := hit x (hmem x (.inl hx))
    rw [h.len]; unfold slIt; simp only; omega
  generalize wakes W.hp ((τ + 1 : Nat) : Int) = r at *
  obtain ⟨s1, s2, s3, s4, s5, s6⟩ := wokeM_same r.1 { W with clock := W.clock + 1, hp := r.2 }
  have hg := fun j => wokeM_g r.1 { W with clock := W.clock + 1, hp := r.2 } j hrng n1
  refine ⟨s2.trans h.en, s4.trans (by simp only [h.clock]), s1.trans h.fs, s6.trans h.len, s3, s5.trans h.out, fun x hx => ?_, n1, fun i hi hil => ?_, fun x hx y hy => n3 x.id (List.mem_map_of_mem hx) y.id (List.mem_map_of_mem hy)⟩
  · obtain ⟨i, hi, rfl⟩ := hit x (hmem x (.inl hx))
    refine ⟨i, hi, rfl, ?_⟩
    rw [hg (i + 1), if_pos (List.mem_map.2 ⟨_, hx, by unfold slIt; simp only; omega⟩)]
    show ({ W.g (i + 1) with st := 1 } : Gt) = _
    rw [h.g i (hmem _ (.inl hx)) hi]; rfl
  · rw [hg (i + 1), if_neg (fun hm => by
      obtain ⟨y, hy, e⟩ := List.mem_map.1 hm
      exact n3 y.id (List.mem_map_of_mem hy) (slIt T i).id (List.mem_map_of_mem hi) (by rw [e]; unfold slIt; simp only; omega))]
    exact h.g i (hmem _ (.inr hi)) hil
/-- One of those that woke tells its number, and is done. -/
theorem SM.tell {T : List Nat} {τ : Nat} {W : Wd} {K l hp : List It} {x : It} (h : SM T τ W K (x :: l) hp) (hT : T.length ≤ 20) (hK : K.length ≤ 20) : SM T τ (runK W x.id 2) (K ++ [x]) l hp := by
  obtain ⟨i, hi, rfl, hu⟩ := h.up x (by simp)
  have hg : i + 1 < W.gs.length := by rw [h.len]; omega
  have eid : (slIt T i).id = ((i + 1 : Nat) : Int) := by unfold slIt; simp only; omega
  obtain ⟨t, ht⟩ : ∃ t, t = T.getD i 0 := ⟨_, rfl⟩
  obtain ⟨y, hy⟩ : ∃ y : Int, y = if i = 0 then 0 else 1 := ⟨_, rfl⟩
  have hG : W.g (i + 1) = ⟨1, 1, [1, 8, (t : Int), 1000, 1, (i : Int), y, 0, 0, 0, 0]⟩ := by rw [hu, ht, hy]; rfl
  have hl : W.lets ((i + 1 : Nat) : Int) := ⟨h.en, by omega, by omega, by rw [Int.toNat_natCast, hG]⟩
  have hins : W.ins (i + 1) = some (20, 3, 0, 0) := by
    rw [Wd.ins_eq, hG]
    show (if (8 : Int) < 0 then none else (W.fs.getD 1 [])[8]?) = _
    rw [h.fs]; rfl
  have e1 := exec_deedM hl hins (by rw [hG]; rfl) 0
  have hstep : W.step (i + 1) = W.setG (i + 1) ⟨1, 1, [1, 9, (t : Int), 1000, 1, (i : Int), y, 0, 0, 0, 0]⟩ := by unfold Wd.step; rw [hG]; rfl
  have hem : (deedM (W.step (i + 1)) (i + 1) (20, 3, 0, 0) (askM W (20, 3, 0, 0) 0).1 (askM W (20, 3, 0, 0) 0).2).end_ = { W.setG (i + 1) ⟨1, 1, [1, 9, (t : Int), 1000, 1, (i : Int), y, 0, 0, 0, 0]⟩ with out := W.out ++ [(i : Int)] } := by
    rw [hstep]
    show (emitM _ [] (i + 1) (20, 3, 0, 0)).end_ = _
    unfold emitM
    rw [if_neg (by show ¬ 1000 ≤ W.out.length; rw [h.out, List.length_map]; omega), setG_g _ _ _ hg]
    rfl
  rw [hem] at e1
  have hg2 : i + 1 < ({ W.setG (i + 1) ⟨1, 1, [1, 9, (t : Int), 1000, 1, (i : Int), y, 0, 0, 0, 0]⟩ with out := W.out ++ [(i : Int)] } : Wd).gs.length := by unfold Wd.setG; simpa using hg
  have hG2 : ({ W.setG (i + 1) ⟨1, 1, [1, 9, (t : Int), 1000, 1, (i : Int), y, 0, 0, 0, 0]⟩ with out := W.out ++ [(i : Int)] } : Wd).g (i + 1) = ⟨1, 1, [1, 9, (t : Int), 1000, 1, (i : Int), y, 0, 0, 0, 0]⟩ := setG_g W (i + 1) _ hg
  generalize hX : ({ W.setG (i + 1) ⟨1, 1, [1, 9, (t : Int), 1000, 1, (i : Int), y, 0, 0, 0, 0]⟩ with out := W.out ++ [(i : Int)] } : Wd) = X at *
  have fX : X.en = 0 ∧ X.fs = slFs T ∧ X.out = W.out ++ [(i : Int)] ∧ X.hp = W.hp ∧ X.clock = W.clock ∧ X.gs.length = T.length + 1 ∧ ∀ j, j ≠ i + 1 → X.g j = W.g j := by
    rw [← hX]
    refine ⟨h.en, h.fs, rfl, rfl, rfl, by unfold Wd.setG; simpa using h.len, fun j hj => ?_⟩
    show (W.setG (i + 1) _).g j = _
    rw [Wd.g_setG _ _ _ _ hg, if_neg (by omega)]
  obtain ⟨f1, f2, f3, f4, f5, f6, f7⟩ := fX
  have hl2 : X.lets ((i + 1 : Nat) : Int) := ⟨f1, by omega, by omega, by rw [Int.toNat_natCast, hG2]⟩
  have hins2 : X.ins (i + 1) = some (10, 0, 0, 0) := by
    rw [Wd.ins_eq, hG2]
    show (if (9 : Int) < 0 then none else (X.fs.getD 1 [])[9]?) = _
    rw [f2]; rfl
  have e2 := exec_deedM hl2 hins2 (by rw [hG2]; rfl) 0
  have hstep2 : X.step (i + 1) = X.setG (i + 1) ⟨1, 1, [1, 10, (t : Int), 1000, 1, (i : Int), y, 0, 0, 0, 0]⟩ := by unfold Wd.step; rw [hG2]; rfl
  have hre : (deedM (X.step (i + 1)) (i + 1) (10, 0, 0, 0) (askM X (10, 0, 0, 0) 0).1 (askM X (10, 0, 0, 0) 0).2).end_ = X.setG (i + 1) ⟨4, 1, [1, 10, (t : Int), 1000, 1, (i : Int), y, 0, 0, 0, 0]⟩ := by
    rw [hstep2]
    show (retM _ [] (i + 1) (10, 0, 0, 0)).end_ = _
    unfold retM
    rw [setG_g _ _ _ hg2]
    simp only
    rw [if_pos (Nat.le_refl 1), if_neg (by omega)]
    unfold Dd.end_ Wd.setSt
    simp only
    rw [setG_setG, setG_g _ _ _ hg2]
    rfl
  rw [hre] at e2
  have hrun : runK W (slIt T i).id 2 = X.setG (i + 1) ⟨4, 1, [1, 10, (t : Int), 1000, 1, (i : Int), y, 0, 0, 0, 0]⟩ := by
    rw [eid]
    show (execM (execM W _ 0).1 _ 0).1 = _
    rw [e1, e2]
  rw [hrun]
  have hg3 : ∀ j, j ≠ i + 1 → (X.setG (i + 1) ⟨4, 1, [1, 10, (t : Int), 1000, 1, (i : Int), y, 0, 0, 0, 0]⟩).g j = W.g j := fun j hj => by
    rw [Wd.g_setG _ _ _ _ hg2, if_neg (by omega), f7 j hj]
  have hnd := h.nd
  rw [List.map_cons, List.nodup_cons] at hnd
  refine ⟨f1, f5.trans h.clock, f2, by unfold Wd.setG; simpa using f6, f4.trans h.hpe, ?_, fun z hz => ?_, hnd.2, fun j hj hjl => ?_, fun z hz => h.far z (by simp [hz])⟩
  · show X.out = _
    rw [f3, h.out, List.map_append]; rfl
  · obtain ⟨j, hj, rfl, hju⟩ := h.up z (by simp [hz])
    refine ⟨j, hj, rfl, ?_⟩
    rw [hg3 (j + 1) (fun e => hnd.1 (List.mem_map.2 ⟨_, hz, by rw [show j = i by omega]⟩))]
    exact hju
  · rw [hg3 (j + 1) (fun e => h.far (slIt T i) (by simp) (slIt T j) hj (by rw [show j = i by omega]))]
    exact h.g j hj hjl
end Go.Proofs.YtjidcagklakjaaaGreat
/-
  The law WorldSleeps: all that its world goes through.
-/
open Go Go.RowKit
set_option linter.unusedVariables false
namespace Go.Proofs.YtjidcagklakjaaaGreat
theorem slMain_len (T : List Nat) : (slMain T).length = 2 * T.length + 2 := by unfold slMain; rw [List.length_append, slPairs_len]; rfl
theorem slPairs_mem {T : List Nat} : ∀ {n : Nat} {x : In4}, x ∈ slPairs T n → (∃ v : Int, x = (1, 1, v, 0)) ∨ x = (11, 1, 1, 2)
  | 0, x, h => by simp [slPairs] at h
  | n + 1, x, h => by
    rw [slPairs_succ, List.mem_append] at h
    rcases h with h | h
    · exact slPairs_mem h
    · simp only [slPair, List.mem_cons, List.not_mem_nil, or_false] at h
      rcases h with rfl | rfl
      · exact .inl ⟨_, rfl⟩
      · exact .inr rfl
theorem sl_pw (T : List Nat) (hT : T.length ≤ 20) : PW (slFs T) [] 0 0 := by
  refine ⟨by show 1 ≤ 2 ∧ 2 ≤ 1000; omega, fun l hl => ?_, fun l hl x hx => ?_, by decide, fun k hk => by simp at hk, by decide, by decide⟩
  · simp only [slFs, List.mem_cons, List.not_mem_nil, or_false] at hl
    rcases hl with rfl | rfl
    · rw [slMain_len]; omega
    · decide
  · simp only [slFs, List.mem_cons, List.not_mem_nil, or_false] at hl
    rcases hl with rfl | rfl
    · rw [slMain_len]
      unfold slMain at hx
      rw [List.mem_append] at hx
      rcases hx with hx | hx
      · rcases slPairs_mem hx with ⟨v, rfl⟩ | rfl
        · exact ⟨(by show (0:Int) ≤ 1; decide), rfl⟩
        · exact ⟨by decide, rfl⟩
      · simp only [List.mem_cons, List.not_mem_nil, or_false] at hx
        rcases hx with rfl | rfl
        · exact ⟨by decide, rfl⟩
        · refine ⟨(by show (0:Int) ≤ 7; decide), ?_⟩
          show some (inn (2 * (T.length : Int)) 0 ((2 * T.length + 2 : Nat) : Int) && (0 : Int) == 0 && (0 : Int) == 0) = some true
          unfold inn
          simp
          omega
    · revert x
      show ∀ x ∈ slKid, 0 ≤ x.1 ∧ goodB 2 0 0 0 10 x = some true
      decide
theorem sl_wf (T : List Nat) (hT : T.length ≤ 20) : WF 0 (slW T) := newM_wf (sl_pw T hT)
/-- In the first loop. -/
theorem sl1_wf (T : List Nat) (hT : T.length ≤ 20) (k : Nat) (hk : k ≤ 40) : WF 40 (runK (slW T) 0 k) ∧ Fol (slW T) (runK (slW T) 0 k) := by
  obtain ⟨a, b⟩ := runK_wf (sl_wf T hT) 0 k (by show 0 + k * (0 + 1) ≤ _; omega)
  exact ⟨a.mono (by show 0 + k * (0 + 1) ≤ _; omega), b⟩
def BT (T : List Nat) : Prop := T.length ≤ 20 ∧ ∀ t ∈ T, 1 ≤ t ∧ t ≤ 30
/-- In the second loop. -/
theorem sl2_wf {T : List Nat} (hT : BT T) : ∀ j k, j ≤ T.length → (j < T.length → k ≤ 300) → (j = T.length → k = 0) → WF (40 + j * 300 + k) (runK (slS T j) ((j : Int) + 1) k) ∧ Fol (slW T) (runK (slS T j) ((j : Int) + 1) k)
  | 0, k, _, hk, hk2 => by
    obtain ⟨a, b⟩ := sl1_wf T hT.1 (2 * T.length) (by have := hT.1; omega)
    rw [slA_run T hT.1 T.length (Nat.le_refl _), ← slS_0] at a b
    have hk3 : k ≤ 300 := by
      rcases Nat.eq_zero_or_pos T.length with h | h
      · have := hk2 h.symm; omega
      · exact hk h
    obtain ⟨c, d⟩ := runK_wf a (((0 : Nat) : Int) + 1) k (by rw [b.ks]; show 40 + k * (0 + 1) ≤ _; omega)
    rw [b.ks] at c
    exact ⟨c.mono (by show 40 + k * (0 + 1) ≤ _; omega), b.trans d⟩
  | j + 1, k, hj, hk, hk2 => by
    obtain ⟨a, b⟩ := sl2_wf hT j 300 (by omega) (fun _ => Nat.le_refl _) (fun h => by omega)
    rw [sl_step T hT.1 hT.2 j (by omega)] at a b
    have hk3 : k ≤ 300 := by
      rcases Nat.lt_or_ge (j + 1) T.length with h | h
      · exact hk h
      · have := hk2 (by omega); omega
    have := hT.1
    obtain ⟨c, d⟩ := runK_wf a (((j + 1 : Nat) : Int) + 1) k (by rw [b.ks]; show 40 + j * 300 + 300 + k * (0 + 1) ≤ _; omega)
    rw [b.ks] at c
    exact ⟨c.mono (by show 40 + j * 300 + 300 + k * (0 + 1) ≤ _; omega), b.trans d⟩
/-- All asleep. -/
theorem slS_wf {T : List Nat} (hT : BT T) (j : Nat) (hj : j ≤ T.length) : WF 7000 (slS T j) ∧ Fol (slW T) (slS T j) := by
  obtain ⟨a, b⟩ := sl2_wf hT j 0 hj (fun _ => by omega) (fun _ => rfl)
  have := hT.1
  exact ⟨a.mono (by omega), b⟩
theorem sl0 {T : List Nat} (hT : BT T) : SC T 0 (slS T T.length) [] := by
  obtain ⟨a, b⟩ := slP_perm T T.length
  refine ⟨rfl, rfl, rfl, slS_len _ _, a, b, fun x hx => by simp at hx, fun y hy => ?_, List.Pairwise.nil, rfl, fun i _ hi => by rw [slS_g T _ i hi, if_pos hi]⟩
  obtain ⟨i, hi, rfl⟩ := List.mem_map.1 (a.mem_iff.1 hy)
  have hi := List.mem_range.1 hi
  have := (hT.2 _ (List.getElem_mem hi)).1
  unfold slIt
  simp only
  rw [List.getD_eq_getElem?_getD, List.getElem?_eq_getElem hi]
  simp only [Option.getD_some]
  omega
/-- Those that woke tell. -/
def tellA (W : Wd) : List Int → Wd
  | [] => W
  | g :: t => tellA (runK W g 2) t
theorem tellA_snoc : ∀ (l : List Int) (W : Wd) (g : Int), tellA W (l ++ [g]) = runK (tellA W l) g 2
  | [], _, _ => rfl
  | x :: t, W, g => tellA_snoc t (runK W x 2) g
theorem SM.all {T : List Nat} {τ : Nat} {hp : List It} (hT : T.length ≤ 20) : ∀ (l : List It) (W : Wd) (K : List It), SM T τ W K l hp → (K ++ l).length ≤ 20 → SM T τ (tellA W (l.map (·.id))) (K ++ l) [] hp
  | [], W, K, h, _ => by rw [List.append_nil]; exact h
  | x :: t, W, K, h, hl => by
    have h1 := SM.tell h hT (by rw [List.length_append] at hl; omega)
    have := SM.all hT t _ _ h1 (by rw [List.append_assoc]; exact hl)
    rw [List.append_assoc] at this
    exact this
theorem pw_and {α : Type} {R S : α → α → Prop} : ∀ {l : List α}, l.Pairwise R → l.Pairwise S → l.Pairwise fun a b => R a b ∧ S a b
  | [], _, _ => List.Pairwise.nil
  | x :: t, h, k => by
    rw [List.pairwise_cons] at h k ⊢
    exact ⟨fun y hy => ⟨h.1 y hy, k.1 y hy⟩, pw_and h.2 k.2⟩
theorem SC.next {T : List Nat} {τ : Nat} {W : Wd} {K : List It} (hT : T.length ≤ 20) (h : SC T τ W K) :
    ∃ l : List It, (tickM W).2 = l.map (·.id) ∧ l.length ≤ 20 ∧ SC T (τ + 1) (tellA (tickM W).1 (tickM W).2) (K ++ l) := by
  obtain ⟨e, m⟩ := h.tick
  obtain ⟨p1, p2⟩ := wakes_perm _ W.hp ((τ + 1 : Nat) : Int) (Nat.le_refl _)
  obtain ⟨s1, s2, s3⟩ := wakes_sorted _ W.hp ((τ + 1 : Nat) : Int) (Nat.le_refl _) h.heap
  have hmem : ∀ x, x ∈ (wakes W.hp ((τ + 1 : Nat) : Int)).1 → x ∈ W.hp := fun x hx => p1.mem_iff.1 (List.mem_append.2 (.inl hx))
  have hit : ∀ x, x ∈ K ∨ x ∈ W.hp → ∃ i, i < T.length ∧ x = slIt T i := fun x hx => by
    obtain ⟨i, hi, rfl⟩ := List.mem_map.1 (h.perm.mem_iff.1 (List.mem_append.2 hx))
    exact ⟨i, List.mem_range.1 hi, rfl⟩
  have hperm : (K ++ (wakes W.hp ((τ + 1 : Nat) : Int)).1 ++ (wakes W.hp ((τ + 1 : Nat) : Int)).2).Perm ((List.range T.length).map (slIt T)) := by
    rw [List.append_assoc]
    exact (List.Perm.append_left K p1).trans h.perm
  have hlen := hperm.length_eq
  rw [List.length_append, List.length_append, List.length_map, List.length_range] at hlen
  refine ⟨(wakes W.hp ((τ + 1 : Nat) : Int)).1, e, by omega, ?_⟩
  have hm := SM.all hT _ _ _ m (by rw [List.length_append]; omega)
  rw [← e] at hm
  refine ⟨hm.en, hm.clock, hm.fs, hm.len, by rw [hm.hpe]; exact hperm, by rw [hm.hpe]; exact p2 h.heap, fun x hx => ?_, fun y hy => ?_, ?_, hm.out, fun i hi hil => hm.g i (by rw [hm.hpe] at hi; exact hi) hil⟩
  · rcases List.mem_append.1 hx with hx | hx
    · have := h.le x hx; omega
    · exact s1 x hx
  · rw [hm.hpe] at hy; exact s2 y hy
  · rw [List.pairwise_append]
    refine ⟨h.ord, ?_, fun x hx y hy => ?_⟩
    · have hnd : ((wakes W.hp ((τ + 1 : Nat) : Int)).1.map (·.id)).Nodup := m.nd
      have hne := List.pairwise_map.1 hnd
      have := pw_and s3 hne
      refine List.Pairwise.imp_of_mem ?_ this
      intro x y hx hy hxy
      obtain ⟨i, hi, rfl⟩ := hit x (.inr (hmem x hx))
      obtain ⟨j, hj, rfl⟩ := hit y (.inr (hmem y hy))
      obtain ⟨h1, h2⟩ := hxy
      rw [leI_iff] at h1
      rw [ltI_iff]
      unfold slIt at *
      simp only at *
      omega
    · have h1 := h.le x hx
      have h2 := h.lt y (hmem y hy)
      rw [ltI_iff]
      omega
/-- Behind so many ticks. -/
def slC (T : List Nat) : Nat → Wd
  | 0 => slS T T.length
  | m + 1 => tellA (tickM (slC T m)).1 (tickM (slC T m)).2
theorem slC_sc {T : List Nat} (hT : BT T) : ∀ m, ∃ K, SC T m (slC T m) K
  | 0 => ⟨[], sl0 hT⟩
  | m + 1 => by
    obtain ⟨K, h⟩ := slC_sc hT m
    obtain ⟨l, -, -, h2⟩ := h.next hT.1
    exact ⟨_, h2⟩
theorem slC_ids {T : List Nat} (hT : BT T) (m : Nat) : (tickM (slC T m)).2.length ≤ 20 := by
  obtain ⟨K, h⟩ := slC_sc hT m
  obtain ⟨l, e, hl, -⟩ := h.next hT.1
  rw [e, List.length_map]; exact hl
theorem tellA_wf {B : Nat} : ∀ (l : List Int) (W : Wd), WF B W → W.ks = [] → B + 2 * l.length ≤ 80000 → WF (B + 2 * l.length) (tellA W l) ∧ Fol W (tellA W l)
  | [], W, h, _, _ => ⟨by simpa [tellA] using h, Fol.refl _⟩
  | g :: t, W, h, hk, hb => by
    rw [List.length_cons] at hb ⊢
    obtain ⟨a, b⟩ := runK_wf h g 2 (by rw [hk]; show B + 2 * (0 + 1) ≤ _; omega)
    rw [hk] at a
    obtain ⟨c, d⟩ := tellA_wf (B := B + 2) t (runK W g 2) (a.mono (by show B + 2 * (0 + 1) ≤ _; omega)) (by rw [b.ks, hk]) (by omega)
    exact ⟨c.mono (by omega), b.trans d⟩
theorem slC_wf {T : List Nat} (hT : BT T) : ∀ m, m ≤ 31 → WF (7000 + 50 * m) (slC T m) ∧ Fol (slW T) (slC T m)
  | 0, _ => slS_wf hT T.length (Nat.le_refl _)
  | m + 1, hm => by
    obtain ⟨a, b⟩ := slC_wf hT m (by omega)
    obtain ⟨c, d⟩ := a.tick
    have hl := slC_ids hT m
    obtain ⟨e, f⟩ := tellA_wf (tickM (slC T m)).2 (tickM (slC T m)).1 c (by rw [d.ks, b.ks]; rfl) (by omega)
    exact ⟨e.mono (by omega), (b.trans d).trans f⟩
/-- In the midst of a tick. -/
theorem slD_wf {T : List Nat} (hT : BT T) (m i k : Nat) (hm : m ≤ 30) (hi : i ≤ (tickM (slC T m)).2.length) (hk : k ≤ 2) (g : Int) : WF 9000 (runK (tellA (tickM (slC T m)).1 ((tickM (slC T m)).2.take i)) g k) := by
  obtain ⟨a, b⟩ := slC_wf hT m (by omega)
  obtain ⟨c, d⟩ := a.tick
  have hl := slC_ids hT m
  have hk0 : (tickM (slC T m)).1.ks = [] := by rw [d.ks, b.ks]; rfl
  obtain ⟨e, f⟩ := tellA_wf ((tickM (slC T m)).2.take i) (tickM (slC T m)).1 c hk0 (by rw [List.length_take]; omega)
  rw [List.length_take, Nat.min_eq_left hi] at e
  obtain ⟨x, y⟩ := runK_wf e g k (by rw [f.ks, hk0]; show 7000 + 50 * m + 1 + 2 * i + k * (0 + 1) ≤ _; omega)
  rw [f.ks, hk0] at x
  exact x.mono (by show 7000 + 50 * m + 1 + 2 * i + k * (0 + 1) ≤ _; omega)
/-- What was told. -/
structure SlF (T : List Nat) (W : Wd) (K : List It) : Prop where
  out : W.out = K.map (·.seq)
  len : K.length = T.length
  it : ∀ x ∈ K, ∃ i, i < T.length ∧ x = slIt T i
  ord : K.Pairwise fun x y => ltI x y = true
  hp : W.hp = []
theorem slF_of {T : List Nat} (hT : BT T) : ∃ K, SlF T (slC T 31) K := by
  obtain ⟨K, h⟩ := slC_sc hT 31
  have hp : (slC T 31).hp = [] := by
    rw [List.eq_nil_iff_forall_not_mem]
    intro y hy
    have h1 := h.lt y hy
    obtain ⟨i, hi, rfl⟩ := List.mem_map.1 (h.perm.mem_iff.1 (List.mem_append.2 (.inr hy)))
    have hi := List.mem_range.1 hi
    have := (hT.2 _ (List.getElem_mem hi)).2
    unfold slIt at h1
    simp only at h1
    rw [List.getD_eq_getElem?_getD, List.getElem?_eq_getElem hi] at h1
    simp only [Option.getD_some] at h1
    omega
  have hperm := h.perm
  rw [hp, List.append_nil] at hperm
  refine ⟨K, h.out, by have := hperm.length_eq; simpa using this, fun x hx => ?_, h.ord, hp⟩
  obtain ⟨i, hi, rfl⟩ := List.mem_map.1 (hperm.mem_iff.1 hx)
  exact ⟨i, List.mem_range.1 hi, rfl⟩
end Go.Proofs.YtjidcagklakjaaaGreat
/-
  The world's clock goes on.
-/
open Go Go.RowKit
set_option linter.unusedVariables false
namespace Go.Proofs.YtjidcagklakjaaaGreat
theorem wokeM_snoc : ∀ (l : List It) (W : Wd) (x : It), wokeM W (l ++ [x]) = (wokeM W l).setSt x.id.toNat 1
  | [], W, x => rfl
  | y :: t, W, x => wokeM_snoc t (W.setSt y.id.toNat 1) x
theorem wokeM_len : ∀ (l : List It) (W : Wd), (wokeM W l).gs.length = W.gs.length
  | [], W => rfl
  | y :: t, W => by rw [wokeM, wokeM_len t, setSt_len]
theorem wokeM_fits {D : Wa} : ∀ (l : List It) (W : Wd), D.fits W → D.fits (wokeM W l)
  | [], W, h => h
  | y :: t, W, h => wokeM_fits t _ (h.setG _ _)
theorem ids_snoc (l : List It) (i : Nat) (h : i < l.length) : intc ((l.take (i + 1)).map (·.id)) = intc ((l.take i).map (·.id)) ++ [.int .i64 (gI l i).id] := by
  rw [List.take_succ_eq_append_getElem h, List.map_append, gI_of h]
  unfold intc; rw [List.map_append]; rfl
set_option maxRecDepth 100000 in
set_option maxHeartbeats 8000000 in
theorem wtick_any {w0 w : World} {p : Nat} {T : List Value} {W : Wd} {D : Wa} {R : List Asr} (h : Own w0 w (wparts p W D T ++ R)) (hf : D.fits W) (hen : W.en = 0) (hl : W.hp.length ≤ 100000) (hc : W.clock ≤ 100000) (hid : ∀ x ∈ W.hp, 0 ≤ x.id ∧ x.id < (W.gs.length : Int)) :
    Calls Tryz.prog 18 #[.pointer (some ⟨p, 0, none⟩)] w fun r w' => ∃ ra rc D', r = .returned (.slice ra (tickM W).2.length rc) ∧ D'.fits (tickM W).1 ∧ Own w0 w' (RowGA 1 ra rc (tickM W).2.length (intc (tickM W).2) :: (wparts p (tickM W).1 D' T ++ R)) := by
  have et : tickM W = (wokeM { W with clock := W.clock + 1, hp := (wakes W.hp ((W.clock : Int) + 1)).2 } (wakes W.hp ((W.clock : Int) + 1)).1, (wakes W.hp ((W.clock : Int) + 1)).1.map (·.id)) := by
    unfold tickM; rw [if_pos hen]
  rw [et]
  obtain ⟨L, hL⟩ : ∃ L, L = (wakes W.hp ((W.clock : Int) + 1)).1 := ⟨_, rfl⟩
  obtain ⟨M, hM⟩ : ∃ M, M = (wakes W.hp ((W.clock : Int) + 1)).2 := ⟨_, rfl⟩
  have hperm := (wakes_perm _ W.hp ((W.clock : Int) + 1) (Nat.le_refl _)).1
  rw [← hL, ← hM] at hperm
  have hlen := hperm.length_eq
  rw [List.length_append] at hlen
  have hLl : L.length ≤ 100000 := by omega
  have hLid : ∀ x ∈ L, 0 ≤ x.id ∧ x.id < (W.gs.length : Int) := fun x hx => hid x (hperm.mem_iff.1 (List.mem_append.2 (.inl hx)))
  have p9 := (h.cel 0 rfl 9 _ rfl).1
  rw [hen] at p9
  have p7 := h.cel 0 rfl 7 _ rfl
  obtain ⟨p7, q7⟩ := p7
  have o1 : Own w0 (w.setCell ⟨p, 7, none⟩ (.int .u64 ((W.clock : Int) + 1))) (wparts p { W with clock := W.clock + 1 } D T ++ R) := h.setAt 0 rfl 7 _
  have HW := Lib.hid (fun (wx : World) (hx : Own w0 wx (wparts p { W with clock := W.clock + 1 } D T ++ R)) => wake_w hx ((W.clock : Int) + 1) hl)
  simp only at HW
  rw [← hL, ← hM] at HW
  rw [← hL, ← hM]
  have HF : Hid (D.fits { W with clock := W.clock + 1, hp := M }) := Lib.hid ⟨hf.f, hf.g, hf.c, hf.n, hf.l, hf.k⟩
  have HID := Lib.hid hLid
  have H1 := Lib.hid o1
  generalize hN : L.length = N at *
  have HN := Lib.hid hN
  obtain ⟨i0, hi0, hz0, hz1, hz2⟩ := info_parts info_int
  have Hi := Lib.hid hi0; clear hi0
  have Hz0 := Lib.hid hz0; clear hz0
  have Hz1 := Lib.hid hz1; clear hz1
  have Hz2 := Lib.hid hz2; clear hz2
  generalize hrr : (wokeM { W with clock := W.clock + 1, hp := M } L, L.map fun x => x.id) = rr
  have HRR := Lib.hid hrr
  clear h hf hen hid et hL hM hperm hlen hLid o1 hN hrr
  go_enter Tryz.func18, Tryz.ntmps18
  go_upto_region 5 with fail
  generalize w.setCell ⟨p, 7, none⟩ (.int .u64 ((W.clock : Int) + 1)) = w1 at *
  clear p7 q7 p9
  have x7 : w1.cell? ⟨p, 7, none⟩ = some (.int .u64 ((W.clock : Int) + 1)) := (H1.out.cel 0 rfl 7 _ rfl).1
  have HWX := Lib.hid (HW.out _ (H1.out.step (below_dN w1 1)))
  have HB : Hid (∀ wx, Below w1.heap.size w1 wx → wx.cell? ⟨p, 7, none⟩ = some (.int .u64 ((W.clock : Int) + 1))) := Lib.hid (fun wx hb => cell_below x7 hb)
  refine wp_region_lexK (fun wx => wx.cell? ⟨p, 7, none⟩ = some (.int .u64 ((W.clock : Int) + 1))) 10 0 (Array.replicate 10 false) #[true, true, true, true, true, true, true, true, true, true] (by kernel_rfl) (by kernel_rfl) ?_
  refine wpAnyK_seg 0 7 _ #[true, true, true, true, true, true, true, false, false, false] 3 (by kernel_rfl) noPanic_put (HB.out _ (below_dN w1 1)) (by kernel_rfl) ?_
  simp only [List.take_succ_cons, List.take_zero, List.drop_zero]
  repeat (first
    | (refine wpSegH_no (by rfl) ?_; simp only [Act.put, List.setIfInBounds_toArray, List.set_cons_zero, List.set_cons_succ])
    | (refine wpSegH_yes (by rfl) ?_; apply Exists.intro; apply And.intro; (· (intro wx hS; (try dsimp only at hS); go_simp; first | done | with_reducible rfl)); simp only [Act.put, List.setIfInBounds_toArray, List.set_cons_zero, List.set_cons_succ]))
  refine wpSegH_nil ?_
  refine wpAnyK_seg 9 1 _ #[true, true, true, true, true, true, true, false, false, true] 2 (by kernel_rfl) noPanic_put (HB.out _ (below_dN w1 1)) (by kernel_rfl) ?_
  simp only [List.take_succ_cons, List.take_zero, List.drop_succ_cons, List.drop_zero]
  repeat (first
    | (refine wpSegH_no (by rfl) ?_; simp only [Act.put, List.setIfInBounds_toArray, List.set_cons_zero, List.set_cons_succ])
    | (refine wpSegH_yes (by rfl) ?_; apply Exists.intro; apply And.intro; (· (intro wx hS; (try dsimp only at hS); go_simp; first | done | with_reducible rfl)); simp only [Act.put, List.setIfInBounds_toArray, List.set_cons_zero, List.set_cons_succ]))
  refine wpSegH_nil ?_
  refine wpAnyK_one 7 _ #[true, true, true, true, true, true, true, true, false, true] 1 (by kernel_rfl) (fun K hK => ?_)
  have HKK := Lib.hid hK
  clear hK
  simp only [List.drop_succ_cons, List.drop_zero]
  refine headH_mk (by rfl) ?_
  go_simp
  refine HWX.out.mono ?_
  rintro r w2 ⟨v5, sv', rfl, ho⟩
  obtain ⟨Fi, ⟨-, hit⟩, -⟩ := ho.head
  have x8 : w2.cell? ⟨p, 7, none⟩ = some (.int .u64 ((W.clock : Int) + 1)) := (ho.cel 1 rfl 7 _ rfl).1
  obtain ⟨a5, c5, hv5, hc5⟩ := hit.slice
  rw [HN.out] at hv5 hc5
  subst hv5
  refine HKK.out _ _ (x8) ?_
  clear HKK K
  refine wpAnyK_seg 8 1 _ #[true, true, true, true, true, true, true, true, true, true] 0 (by kernel_rfl) noPanic_put (x8) (by kernel_rfl) ?_
  simp only [List.take_succ_cons, List.take_zero, List.drop_succ_cons, List.drop_zero]
  repeat (first
    | (refine wpSegH_no (by rfl) ?_; simp only [Act.put, List.setIfInBounds_toArray, List.set_cons_zero, List.set_cons_succ])
    | (refine wpSegH_yes (by rfl) ?_; apply Exists.intro; apply And.intro; (· (intro wx hS; (try dsimp only at hS); go_simp; first | done | with_reducible rfl)); simp only [Act.put, List.setIfInBounds_toArray, List.set_cons_zero, List.set_cons_succ]))
  refine wpSegH_nil ?_
  refine wpAnyK_next ?_
  refine wpAnyK_done (by kernel_rfl) (NoPanic.normal ?_)
  have H2 : Hid (Own w0 w2 (wparts p { W with clock := W.clock + 1, hp := M } { D with sv := sv' } T ++ (RowGA 1 none 0 0 [] :: ItemsA (.slice a5 N c5) L :: R))) := Lib.hid (((ho.perm List.perm_middle.symm).rowNil0 1).perm List.perm_middle.symm)
  have HF2 : Hid (({ D with sv := sv' } : Wa).fits { W with clock := W.clock + 1, hp := M }) := Lib.hid ⟨HF.out.f, HF.out.g, HF.out.c, HF.out.n, HF.out.l, HF.out.k⟩
  obtain ⟨D2, hD2⟩ : ∃ D2 : Wa, D2 = { D with sv := sv' } := ⟨_, rfl⟩
  obtain ⟨W2, hW2⟩ : ∃ W2 : Wd, W2 = { W with clock := W.clock + 1, hp := M } := ⟨_, rfl⟩
  have hg2 : W2.gs.length = W.gs.length := by rw [hW2]
  rw [← hD2, ← hW2] at H2 HF2
  have HRR2 : Hid ((wokeM W2 L, L.map fun x => x.id) = rr) := Lib.hid (by rw [hW2]; exact HRR.out)
  clear HRR
  have HG2 := Lib.hid hg2
  clear ho hit x8 x7 HWX HW hD2 hW2 HF HB hg2
  go_wp2_with fail
  go_loopw [3, 27] (fun sv iv wr => ∃ i : Nat, ∃ ra rc, i ≤ N ∧ iv = .int .i64 i ∧ sv = .slice ra i rc ∧ Hid (Own w0 wr (wparts p (wokeM W2 (L.take i)) D2 T ++ (RowGA 1 ra rc i (intc ((L.take i).map (·.id))) :: ItemsA (.slice a5 N c5) L :: R)))) (fun _ iv _ => N - (intOf iv).toNat)
  case atStart => exact ⟨0, none, 0, by omega, rfl, rfl, H2⟩
  case round =>
    obtain ⟨i, ra, rc, hi, rfl, rfl, hr⟩ := hrel
    clear H2
    by_cases hlt : i < N
    · have hil : i < L.length := by rw [HN.out]; exact hlt
      have hli : (i : Int) < (N : Int) := by omega
      have hi0 : (0 : Int) ≤ (i : Int) := by omega
      obtain ⟨Fi, ⟨-, hit⟩, -⟩ := hr.out.fact 11 rfl
      obtain ⟨g5, cap5, hv5, hcap5⟩ := hit.form (by omega)
      rw [HN.out] at hv5
      simp only [Value.slice.injEq] at hv5
      obtain ⟨rfl, -, rfl⟩ := hv5
      obtain ⟨y0, y1, y2⟩ := hit.cell i hil
      have hidx := HID.out (gI L i) (by rw [gI_of hil]; exact List.getElem_mem _)
      have hsn := ids_snoc L i hil
      obtain ⟨ids, hids⟩ : ∃ ids, ids = intc ((L.take i).map (·.id)) := ⟨_, rfl⟩
      rw [← hids] at hsn hr
      clear hids
      have htk : L.take (i + 1) = L.take i ++ [gI L i] := by rw [List.take_succ_eq_append_getElem hil, gI_of hil]
      have hwk : wokeM W2 (L.take (i + 1)) = (wokeM W2 (L.take i)).setSt (gI L i).id.toNat 1 := by rw [htk, wokeM_snoc]
      have hgl : (wokeM W2 (L.take i)).gs.length = W2.gs.length := wokeM_len _ _
      have HWK := Lib.hid hwk
      have HSN := Lib.hid hsn
      have HFI := Lib.hid (wokeM_fits (L.take i) _ HF2.out)
      obtain ⟨W3, hW3⟩ : ∃ W3, W3 = wokeM W2 (L.take i) := ⟨_, rfl⟩
      rw [← hW3] at hr HWK HFI hgl
      generalize gI L i = x at *
      obtain ⟨xa, xs, xi⟩ := x
      simp only at y0 y1 y2 hidx HWK HSN
      obtain ⟨k, rfl⟩ : ∃ k : Nat, xi = (k : Int) := ⟨xi.toNat, by omega⟩
      have hk : k < W3.gs.length := by have := HG2.out; omega
      have oA := hr.out.step (below_alloc1 wr (.cells #[.int .u64 xa, .int .u64 xs, .int .i64 (k : Int)] 136))
      have hbx := CellsAt.new wr [.int .u64 xa, .int .u64 xs, .int .i64 (k : Int)] 136 rfl
      have HA := Lib.hid (hr.out.alloc [.int .u64 xa, .int .u64 xs, .int .i64 (k : Int)] 136 (b := wr.heap.size) rfl)
      clear hit hsn htk hwk hW3 hr oA hbx hil hgl
      go_upto_region 8 with fail
      generalize wr.alloc (.cells #[.int .u64 xa, .int .u64 xs, .int .i64 (k : Int)] 136) = wA at *
      generalize wr.heap.size = bx at *
      have oB : Own w0 wA (wparts p W3 D2 T ++ (CelA bx [.int .u64 xa, .int .u64 xs, .int .i64 (k : Int)] :: RowGA 1 ra rc i ids :: ItemsA (.slice (some ⟨g5, 0, none⟩) N c5) L :: R)) := HA.out.perm List.perm_middle.symm
      obtain ⟨s, cap, hs⟩ := HFI.out.sk_at hk
      obtain ⟨b, off, haa, st0, st1, -, -⟩ := all_at oB hk hs
      have p2 : wA.cell? ⟨p, 2, none⟩ = some (.slice (some ⟨b, off, none⟩) W3.gs.length D2.ac) := by rw [← haa]; exact (oB.cel 0 rfl 2 _ rfl).1
      obtain ⟨x2, -⟩ := oB.cel 10 rfl 2 _ rfl
      have HB9 : Hid (Own w0 ((wA.setCell ⟨b, off + k * 2, none⟩ (.int .i64 1)).drew) (wparts p (W3.setSt k 1) D2 T ++ (CelA bx [.int .u64 xa, .int .u64 xs, .int .i64 (k : Int)] :: RowGA 1 ra rc i ids :: ItemsA (.slice (some ⟨g5, 0, none⟩) N c5) L :: R))) := Lib.hid ((own_st oB HFI.out hk haa 1).step (below_drew1 _))
      have hkl : (k : Int) < (W3.gs.length : Int) := by omega
      have hk0 : (0 : Int) ≤ (k : Int) := by omega
      generalize W3.gs.length = G3 at *
      clear oB haa hs HA
      refine wp_region_lexK (fun wx => ∃ nq, wx = World.drewN (wA) nq) 8 1 (Array.replicate 9 false) #[true, true, true, true, true, true, true, true, false] (by kernel_rfl) (by kernel_rfl) ?_
      refine wpAnyK_seg 0 8 _ #[true, true, true, true, true, true, true, true, false] 0 (by kernel_rfl) noPanic_put (drew_q wA) (by kernel_rfl) ?_
      simp only [List.take_succ_cons, List.take_zero, List.drop_zero]
      repeat (first
        | (refine wpSegH_no (by rfl) ?_; simp only [Act.put, List.setIfInBounds_toArray, List.set_cons_zero, List.set_cons_succ])
        | (refine wpSegH_yes (by rfl) ?_; apply Exists.intro; apply And.intro; (· (rintro wx ⟨nq, rfl⟩; go_simp; first | done | with_reducible rfl)); simp only [Act.put, List.setIfInBounds_toArray, List.set_cons_zero, List.set_cons_succ]))
      refine wpSegH_nil ?_
      refine wpAnyK_next ?_
      refine wpAnyK_seq 8 (by kernel_rfl) ?_
      simp only [List.drop_succ_cons, List.drop_zero]
      go_wp2_with fail
      refine NoPanic.normal ?_
      have H9 := HB9
      clear HB9 st0 st1 p2 x2
      go_upto_region 9 with fail
      generalize (wA.setCell ⟨b, off + k * 2, none⟩ (.int .i64 1)).drew = wB at *
      obtain ⟨x2, -⟩ := H9.out.cel 10 rfl 2 _ rfl
      have HC := Lib.hid (H9.out.step (below_alloc1 wB (.cells #[.int .i64 (k : Int)] 3)))
      clear H9
      go_wp2_with (at_builtin; go_loud (refine wpList_append_rowG rfl _ _ 23 rfl 3 i0 _ Tryz.underlying23 Hi.out Hz0.out Hz1.out Hz2.out rfl (by decide) (by decide) (n := i) (m := 1) (cs := ids) (ds := [.int .i64 (k : Int)]) (by rfl) (by rfl) (HC.out.rowG 11 rfl) (CellsAt.new _ [.int .i64 (k : Int)] _ rfl) rfl (by simp [Value.oneCell']) (by omega) ?_))
      intro a9 c9 w9 k9 ch9 f9
      have o9 := Own.rowTurn (HC.out.pick 11 rfl) k9 ch9 (fun x hx => by simpa using f9 x hx)
      have HE : Hid (Own w0 w9 (wparts p (wokeM W2 (L.take (i + 1))) D2 T ++ (RowGA 1 a9 c9 (i + 1) (intc ((L.take (i + 1)).map (·.id))) :: ItemsA (.slice (some ⟨g5, 0, none⟩) N c5) L :: R))) := Lib.hid (by
        rw [HWK.out, HSN.out, Int.toNat_natCast]
        have o10 : Own w0 w9 (RowGA 1 a9 c9 (i + 1) (ids ++ [.int .i64 (k : Int)]) :: (wparts p (W3.setSt k 1) D2 T ++ (ItemsA (.slice (some ⟨g5, 0, none⟩) N c5) L :: R))) := (o9.pick 11 rfl).drop
        exact o10.perm List.perm_middle.symm)
      clear o9 k9 ch9 f9 HC HWK HSN
      go_wp2
      exact ⟨⟨i + 1, a9, c9, by omega, by go_num, rfl, HE⟩, by simp [intOf]; omega⟩
    · obtain rfl : i = N := by omega
      have HE : Hid (D2.fits rr.1 ∧ Own w0 wr (RowGA 1 ra rc rr.2.length (intc rr.2) :: (wparts p rr.1 D2 T ++ R)) ∧ rr.2.length = i) := Lib.hid (by
        have e : L.take i = L := by rw [← HN.out, List.take_length]
        rw [← HRR2.out]
        have h1 := hr.out
        rw [e] at h1
        refine ⟨wokeM_fits L _ HF2.out, ?_, by simp [HN.out]⟩
        have h2 := h1.perm List.perm_middle
        have h3 : Own w0 wr (ItemsA (.slice a5 i c5) L :: (RowGA 1 ra rc i (intc (L.map (·.id))) :: (wparts p (wokeM W2 L) D2 T ++ R))) := h2.perm (by
          refine (List.Perm.cons _ List.perm_middle).trans (List.Perm.swap _ _ _))
        have h4 := h3.drop
        rw [List.length_map, HN.out]
        exact h4)
      clear hr HRR2
      go_wp2
      go_ret
      exact ⟨ra, rc, D2, by rw [HE.out.2.2]; rfl, HE.out.1, HE.out.2.1⟩
theorem tick_w {w0 w : World} {p : Nat} {T : List Value} {W : Wd} {R : List Asr} {B : Nat} (h : Own w0 w (WldA p W T :: R)) (wf : WF B W) (hB : B ≤ 80000) :
    Calls Tryz.prog 18 #[.pointer (some ⟨p, 0, none⟩)] w fun r w' => ∃ ra rc, r = .returned (.slice ra (tickM W).2.length rc) ∧ Own w0 w' (RowGA 1 ra rc (tickM W).2.length (intc (tickM W).2) :: WldA p (tickM W).1 T :: R) := by
  obtain ⟨D, hf, ho⟩ := h.wld
  by_cases hen : W.en = 0
  · refine (wtick_any ho hf hen (by have := wf.hp.1; omega) (by have := wf.clock; omega) (fun x hx => (wf.hp.2.2.1 x hx).1)).mono (fun r w' hh => ?_)
    obtain ⟨ra, rc, D', h1, h2, h3⟩ := hh
    exact ⟨ra, rc, h1, Own.wldBack h2 h3⟩
  · have et : tickM W = (W, []) := by unfold tickM; rw [if_neg hen]
    rw [et]
    have p9 := (ho.cel 0 rfl 9 _ rfl).1
    have H := Lib.hid (Own.toWld hf ho)
    have hb : (W.en != 0) = true := by rw [bne_iff_ne]; exact hen
    generalize W.en = e at *
    clear h hf ho et
    go_enter Tryz.func18, Tryz.ntmps18
    go_wp2
    go_ret
    exact ⟨none, 0, rfl, Own.rowNil0 1 H.out⟩
end Go.Proofs.YtjidcagklakjaaaGreat
/-
  Nobody asleep: Sleepers answers with nothing.
-/
open Go Go.RowKit
set_option linter.unusedVariables false
namespace Go.Proofs.YtjidcagklakjaaaGreat
set_option maxRecDepth 100000 in
theorem len64_0 (w : World) : Calls Tryz.prog 172 #[.int .u64 0] w fun r w' => r = .returned (.int .i64 0) ∧ w' = w := by
  go_enter Tryz.func172, Tryz.ntmps172
  go_wp2
  go_ret
  refine ⟨?_, rfl⟩
  first
  | (decide; done)
  | (simp; done)
  | (kernel_rfl; done)
  | (trace_state; sorry)
set_option maxRecDepth 100000 in
theorem len_0 (w : World) : Calls Tryz.prog 128 #[.int .u64 0] w fun r w' => r = .returned (.int .i64 0) ∧ w' = w := by
  go_enter Tryz.func128, Tryz.ntmps128
  go_wp2_with fail
  refine (len64_0 w).mono ?_
  rintro r w1 ⟨rfl, rfl⟩
  go_wp2
  go_ret
  exact ⟨rfl, rfl⟩
set_option maxRecDepth 100000 in
theorem insert_0 (w : World) (f : Value) (a : Option Addr) (cap : Nat) : Calls Tryz.prog 163 #[.slice a 0 cap, .int .i64 0, .int .i64 0, f] w fun r w' => r = .returned (.tuple #[]) ∧ w' = w := by
  go_enter Tryz.func163, Tryz.ntmps163
  go_wp2_with fail
  go_loopw [8] (fun iv wr => iv = .int .i64 1 ∧ wr = w) (fun _ _ => 0)
  case atStart => exact ⟨rfl, rfl⟩
  case round =>
    obtain ⟨rfl, rfl⟩ := hrel
    go_wp2
    refine bodyPost_end (results_none rfl _ _ _) rfl ?_
    exact ⟨rfl, rfl⟩
set_option maxRecDepth 100000 in
theorem pdq_0 (w : World) (f : Value) (l : Value) (a : Option Addr) (cap : Nat) : Calls Tryz.prog 127 #[.slice a 0 cap, .int .i64 0, .int .i64 0, l, f] w fun r w' => r = .returned (.tuple #[]) ∧ w' = w := by
  go_enter Tryz.func127, Tryz.ntmps127
  go_wp2_with fail
  refine wp_loop_once ?_
  go_wp2_with fail
  refine (insert_0 w f a cap).mono ?_
  rintro r w1 ⟨rfl, rfl⟩
  go_wp2
  refine bodyPost_ret (v := .tuple #[]) (by simp [results]) rfl ?_
  exact ⟨rfl, rfl⟩
set_option maxRecDepth 100000 in
theorem sort_0 (w : World) (f : Value) (a : Option Addr) (cap : Nat) : Calls Tryz.prog 89 #[.slice a 0 cap, f] w fun r w' => r = .returned (.tuple #[]) ∧ w' = w := by
  go_enter Tryz.func89, Tryz.ntmps89
  go_wp2_with fail
  refine (len_0 w).mono ?_
  rintro r w1 ⟨rfl, rfl⟩
  go_wp2_with fail
  refine (pdq_0 _ f _ a cap).mono ?_
  rintro r w2 ⟨rfl, rfl⟩
  go_wp2
  refine bodyPost_end (results_none rfl _ _ _) rfl ?_
  exact ⟨rfl, rfl⟩
set_option maxRecDepth 100000 in
theorem clone_0 (w : World) (a : Option Addr) (cap : Nat) (h : a = none → cap = 0) : Calls Tryz.prog 88 #[.slice a 0 cap] w fun r w' => ∃ a' c', r = .returned (.slice a' 0 c') ∧ Below w.heap.size w w' := by
  cases a with
  | none =>
    obtain rfl := h rfl
    clear h
    have he : ∀ w : World, (binOp .eql 75 (.slice none 0 0) (.slice none 0 0)).run Tryz.prog w = .ok (.bool true) w := fun _ => rfl
    go_enter Tryz.func88, Tryz.ntmps88
    go_wp2
    go_ret
    exact ⟨none, 0, rfl, Below.refl _ _⟩
  | some ad =>
    clear h
    have he : ∀ w : World, (binOp .eql 75 (.slice (some ad) 0 cap) (.slice none 0 0)).run Tryz.prog w = .ok (.bool false) w := fun _ => rfl
    go_enter Tryz.func88, Tryz.ntmps88
    go_wp2
    go_ret
    exact ⟨_, _, rfl, below_alloc1 _ _⟩
set_option maxRecDepth 100000 in
theorem list_0 {w : World} {p : Nat} {a : Option Addr} {cap : Nat} (h : a = none → cap = 0) (hc : w.cell? ⟨p, 5, none⟩ = some (.slice a 0 cap)) : Calls Tryz.prog 61 #[.pointer (some ⟨p, 5, none⟩)] w fun r w' => ∃ a' c', r = .returned (.slice a' 0 c') ∧ Below w.heap.size w w' := by
  have HC := Lib.hid (clone_0 w a cap h)
  clear h
  go_enter Tryz.func61, Tryz.ntmps61
  go_wp2_with fail
  refine HC.out.mono ?_
  rintro r w1 ⟨a', c', rfl, hb⟩
  have HB := Lib.hid hb
  clear hb
  go_wp2_with fail
  refine (sort_0 w1 _ a' c').mono ?_
  rintro r w2 ⟨rfl, rfl⟩
  go_wp2
  go_ret
  exact ⟨_, _, rfl, HB.out⟩
/-- Nobody is asleep. -/
theorem sleepers_0 {w0 w : World} {p : Nat} {T : List Value} {W : Wd} {R : List Asr} (h : Own w0 w (WldA p W T :: R)) (h0 : W.hp = []) : Calls Tryz.prog 22 #[.pointer (some ⟨p, 0, none⟩)] w fun r w' => ∃ a' c', r = .returned (.slice a' 0 c') ∧ Below w.heap.size w w' := by
  obtain ⟨D, hf, ho⟩ := h.wld
  have hI : ItemsAt w D.sv W.hp := by
    obtain ⟨F, hF, _⟩ := ho.fact 8 (A := ItemsA D.sv W.hp) rfl
    exact hF.2
  have c5 := (ho.cel 0 rfl 5 _ rfl).1
  rw [h0] at hI
  obtain ⟨a, cap, ev, hr⟩ : ∃ a cap, D.sv = .slice a 0 cap ∧ (a = none → cap = 0) := by
    rcases hI.2 with ⟨e, _⟩ | ⟨g, cap, cur, e, e2⟩
    · exact ⟨none, 0, e, fun _ => rfl⟩
    · exact ⟨some ⟨g, 0, none⟩, cap, e, fun h => by cases h⟩
  rw [ev] at c5
  have HL := Lib.hid (list_0 hr c5)
  clear h h0 hf ho hI ev hr
  go_enter Tryz.func22, Tryz.ntmps22
  go_wp2_with fail
  refine HL.out.mono ?_
  rintro r w1 ⟨a', c', rfl, hb⟩
  have HB := Lib.hid hb
  clear hb
  go_wp2
  go_ret
  exact ⟨_, _, rfl, HB.out⟩
end Go.Proofs.YtjidcagklakjaaaGreat
/-
  Draws that keep boxes; a program in a box.
-/
open Go Go.RowKit
set_option linter.unusedVariables false
namespace Go.Proofs.YtjidcagklakjaaaGreat
theorem cells_of {w : World} {b : Nat} {cs : List Value} (h : Blk w b cs) : CellsAt w (some ⟨b, 0, none⟩) cs := fun j v hj => ⟨b, 0, rfl, by rw [Nat.zero_add]; exact (h j v hj).1⟩
theorem i4s_app (l m : List In4) : i4s (l ++ m) = i4s l ++ i4s m := by unfold i4s; rw [List.flatMap_append]
theorem Own.keep {w0 w : World} {As Bs : List Asr} (h : Own w0 w (As ++ Bs)) : Own w0 w As := (h.perm List.perm_append_comm).dropL
theorem Own.join {w0 w w' : World} {As : List Asr} {A : Asr} (h : Own w0 w As) (k : Own w w' [A]) : Own w0 w' (A :: As) := by
  obtain ⟨F, h1, h2⟩ := k.head
  exact h.add k.bel h1 h2
theorem DAt.tail {w0 w : World} {p : Nat} {T : List Value} {d : Dq} {W : Wd} {Z R : List Asr} (h : DAt w0 w p T d W [] (Z ++ R)) :
    ∃ S, Own w0 w (R ++ S) ∧ ∀ w' R', Own w0 w' (R' ++ S) → DAt w0 w' p T d W [] (Z ++ R') := by
  obtain ⟨D, ra, rc, hf, ho⟩ := h
  refine ⟨wparts p W D T ++ (CelA d.q (dcells p (d.g : Int) d.x d.th d.dr d.go ra ([] : List Int).length rc) :: RowGA 1 ra rc ([] : List Int).length (intc []) :: Z), ho.perm ?_, fun w' R' h' => ⟨D, ra, rc, hf, h'.perm ?_⟩⟩
  · have := (List.perm_append_comm (l₁ := wparts p W D T ++ (CelA d.q (dcells p (d.g : Int) d.x d.th d.dr d.go ra ([] : List Int).length rc) :: RowGA 1 ra rc ([] : List Int).length (intc []) :: Z)) (l₂ := R))
    simpa [List.append_assoc] using this
  · have := (List.perm_append_comm (l₁ := R') (l₂ := wparts p W D T ++ (CelA d.q (dcells p (d.g : Int) d.x d.th d.dr d.go ra ([] : List Int).length rc) :: RowGA 1 ra rc ([] : List Int).length (intc []) :: Z)))
    simpa [List.append_assoc] using this
end Go.Proofs.YtjidcagklakjaaaGreat
/-
  The law's awake: a world of one function, twice on.
-/
open Go Go.RowKit
set_option linter.unusedVariables false
namespace Go.Proofs.YtjidcagklakjaaaGreat
def awW : Wd := newM [[(20, 0, 0, 0), (10, 0, 0, 0)]] [] [] 0
def awW1 (v : Int) : Wd := (execM awW 0 v).1
theorem aw_ins : awW.ins 0 = some (20, 0, 0, 0) := rfl
theorem aw_wf : WF 0 awW := newM_wf ⟨by decide, by decide, by decide, by decide, fun k hk => by simp at hk, by decide, by decide⟩
theorem aw_ok : ExecOk awW 0 := aw_wf.execOk (by omega) (by decide)
theorem aw_1 (v : Int) : execM awW 0 v = ((execM awW 0 0).1, true, []) := rfl
theorem aw_ins1 : (awW1 0).ins 0 = some (10, 0, 0, 0) := rfl
theorem aw_ok1 : ExecOk (awW1 0) 0 := (aw_wf.exec (by omega) 0 0).1.execOk (by decide) (by decide)
theorem aw_2 (v : Int) : (execM (awW1 0) 0 v).2 = (false, []) ∧ (execM (awW1 0) 0 v).1.en = 1 ∧ (execM (awW1 0) 0 v).1.out = [0] ∧ statusM (execM (awW1 0) 0 v).1 0 = 4 := ⟨rfl, rfl, rfl, rfl⟩
set_option maxRecDepth 100000 in
set_option maxHeartbeats 4000000 in
theorem awake16_any (w : World) : Calls Tryz.prog 8 #[] w fun r w' => r = .returned (.bool true) ∧ Below w.heap.size w w' := by
  go_enter Tryz.func8, Tryz.ntmps8
  go_wp2_with fail
  have hp : ProgIn ((w.alloc (.cells #[.int .i64 20, .int .i64 0, .int .i64 0, .int .i64 0, .int .i64 10, .int .i64 0, .int .i64 0, .int .i64 0] 73)).alloc (.cells #[.slice (some ⟨w.heap.size, 0, none⟩) 2 2] 70)) (some ⟨w.heap.size + 1, 0, none⟩) [(some ⟨w.heap.size, 0, none⟩, 2)] [[(20, 0, 0, 0), (10, 0, 0, 0)]] none [] none 0 [] := by
    refine ⟨CellsAt.new _ [.slice (some ⟨w.heap.size, 0, none⟩) 2 2] _ (by simp), rfl, fun i r l hr hl => ?_, CellsAt.nil _ _, CellsAt.nil _ _, fun _ => rfl, by decide, by decide, by decide⟩
    cases i with
    | zero =>
      simp at hr hl
      subst hr hl
      exact ⟨(CellsAt.new w [.int .i64 20, .int .i64 0, .int .i64 0, .int .i64 0, .int .i64 10, .int .i64 0, .int .i64 0, .int .i64 0] _ rfl).below (below_alloc1 _ _), (fun h => by cases h), by decide⟩
    | succ i => simp at hr
  have hbw : Below w.heap.size w ((w.alloc (.cells #[.int .i64 20, .int .i64 0, .int .i64 0, .int .i64 0, .int .i64 10, .int .i64 0, .int .i64 0, .int .i64 0] 73)).alloc (.cells #[.slice (some ⟨w.heap.size, 0, none⟩) 2 2] 70)) := below_on (below_alloc1 _ _) (below_alloc1 _ _)
  refine (wnew_any _ _ 1 _ _ none 0 [] 0 none 0 [] hp (by decide)).mono ?_
  rintro r w3 ⟨b, D, rfl, hf, ho⟩
  clear hp
  generalize ((w.alloc (.cells #[.int .i64 20, .int .i64 0, .int .i64 0, .int .i64 0, .int .i64 10, .int .i64 0, .int .i64 0, .int .i64 0] 73)).alloc (.cells #[.slice (some ⟨w.heap.size, 0, none⟩) 2 2] 70)) = w2 at *
  have HB := Lib.hid hbw
  clear hbw
  have en : ∀ (args : Array Value) (w : World), (callFunc 31 args).run Tryz.prog w = .ok (.enter 31 args) w := fun _ _ => by kernel_rfl
  have HX : Hid (Calls Tryz.prog 16 #[.pointer (some ⟨b, 0, none⟩), .int .i64 0, .func (.func 31) #[] #[]] w3 fun r w' => ∃ a c D', r = .returned (.agg #[.bool true, .slice a 0 c]) ∧ D'.fits (awW1 0) ∧ Own w2 w' (wparts b (awW1 0) D' [] ++ [])) := Lib.hid (by
    refine (exec_all (Qd := fun _ _ => False) (Qp := fun _ _ => False) (R := []) (by rw [List.append_nil]; exact ho) hf 0 aw_ok en (fun h => absurd h (by show ¬ 1 ≤ askN awW ((awW.ins 0).getD (0, 0, 0, 0)); rw [aw_ins]; decide))).mono (fun r w' hh => ?_)
    rcases hh with ⟨v, R', D', ra, rc, hq, h1, h2, h3⟩ | ⟨D', ch, R', h1, h2, h3, -⟩
    · rcases hq with ⟨-, rfl⟩ | ⟨-, h⟩
      · exact ⟨ra, rc, D', h1, h2, h3.drop⟩
      · exact h.elim
    · exact h3.elim)
  have HY : Hid (∀ (wx : World) (D' : Wa), D'.fits (awW1 0) → Own w2 wx (wparts b (awW1 0) D' [] ++ []) → Calls Tryz.prog 16 #[.pointer (some ⟨b, 0, none⟩), .int .i64 0, .func (.func 31) #[] #[]] wx fun r w' => ∃ a c D', r = .returned (.agg #[.bool false, .slice a 0 c]) ∧ D'.fits (execM (awW1 0) 0 0).1 ∧ Own w2 w' (wparts b (execM (awW1 0) 0 0).1 D' [] ++ [])) := Lib.hid (fun wx D hf ho => by
    refine (exec_all (Qd := fun _ _ => False) (Qp := fun _ _ => False) (R := []) ho hf 0 aw_ok1 en (fun h => absurd h (by show ¬ 1 ≤ askN (awW1 0) (((awW1 0).ins 0).getD (0, 0, 0, 0)); rw [aw_ins1]; decide))).mono (fun r w' hh => ?_)
    rcases hh with ⟨v, R', D', ra, rc, hq, h1, h2, h3⟩ | ⟨D', ch, R', h1, h2, h3, -⟩
    · rcases hq with ⟨-, rfl⟩ | ⟨-, h⟩
      · exact ⟨ra, rc, D', h1, h2, h3.drop⟩
      · exact h.elim
    · exact h3.elim)
  obtain ⟨f1, f2, f3, f4⟩ := aw_2 0
  generalize (execM (awW1 0) 0 0).1 = X2 at *
  generalize awW1 0 = X1 at *
  clear hf ho en f1
  go_wp2_with fail
  refine HX.out.mono ?_
  rintro r w4 ⟨a4, c4, D4, rfl, hf4, ho4⟩
  have HZ := Lib.hid (HY.out _ _ hf4 ho4)
  clear hf4 ho4 HX HY
  go_wp2_with fail
  refine HZ.out.mono ?_
  rintro r w5 ⟨a5, c5, D5, rfl, hf5, ho5⟩
  clear HZ
  go_wp2_with fail
  have o6 : Own w2 ((w5.alloc (.cells #[.bool true, .slice a4 0 c4] 65)).alloc (.cells #[.bool false, .slice a5 0 c5] 65)) (CelA (w5.heap.size + 1) [.bool false, .slice a5 0 c5] :: CelA w5.heap.size [.bool true, .slice a4 0 c4] :: (wparts b X2 D5 [] ++ [])) := (ho5.alloc [.bool true, .slice a4 0 c4] 65 rfl).alloc [.bool false, .slice a5 0 c5] 65 (by simp)
  clear ho5
  generalize ((w5.alloc (.cells #[.bool true, .slice a4 0 c4] 65)).alloc (.cells #[.bool false, .slice a5 0 c5] 65)) = w6 at *
  generalize w5.heap.size + 1 = q1 at *
  generalize w5.heap.size = q0 at *
  have H6 := Lib.hid o6
  have HF5 := Lib.hid hf5
  have HE := Lib.hid (wend_any (p := b) (D := D5) (T := []) (Y := []) (W := X2) (o6.drop.drop))
  clear o6 hf5
  refine HE.out.mono ?_
  rintro r w7 ⟨rfl, k7, hw7⟩
  have H7 := Lib.hid (H6.out.q1 hw7)
  clear hw7 HE H6
  rw [f2]
  have HO := Lib.hid (wout_any (p := b) (D := D5) (T := []) (Y := []) (W := X2) H7.out.drop.drop (by rw [f3]; decide))
  rw [f3] at HO
  go_wp2_with fail
  refine HO.out.mono ?_
  rintro r w8 ⟨ao, co, rfl, hrow, -, hb8⟩
  obtain ⟨bo, oo, rfl, hco⟩ := hrow.cells 0 (.int .i64 0) rfl
  have hco0 : w8.cell? ⟨bo, oo, none⟩ = some (.int .i64 0) := hco
  clear hco
  have o8 := H7.out.step hb8
  have HS := Lib.hid (status_any (p := b) (D := D5) (T := []) (Y := []) (W := X2) o8.drop.drop HF5.out 0)
  rw [f4] at HS
  have z1 := (o8.cel 0 rfl 0 _ rfl).1
  have z0 := (o8.cel 1 rfl 0 _ rfl).1
  have HBEL := Lib.hid (below_on HB.out o8.bel)
  clear o8 H7 HO hrow hb8 HF5
  go_wp2_with fail
  refine HS.out.mono ?_
  rintro r w9 ⟨rfl, rfl⟩
  clear HS
  go_wp2
  go_ret
  exact ⟨rfl, HBEL.out⟩
end Go.Proofs.YtjidcagklakjaaaGreat
/-
  Slices of integers that came in: what a walk is told of one. No program is named here.
-/
open Go Go.RowKit
set_option linter.unusedVariables false
namespace Go.Proofs.YtjidcagklakjaaaGreat
/-- What the walk is told of a slice of integers that came in: it is nil; or it leads to a row of cap cells, the numbers zs. -/
def IsRow (k : IntKind) (w : World) (a : Option Addr) (len cap : Nat) (zs : List Int) : Prop :=
  (a = none ∧ len = 0 ∧ cap = 0 ∧ zs = []) ∨
  ∃ x, a = some x ∧ len ≤ cap ∧ cap ≤ maxLen ∧ zs.length = cap ∧ (∀ i, i < zs.length → w.cell? (x.add i) = some (.int k (zs.getD i 0))) ∧ ∀ n ∈ zs, (Lit.int k n).wf = true
/-- Numbers in memory, behind one another, from a on. -/
def Cells (k : IntKind) (w : World) (a : Option Addr) (zs : List Int) : Prop :=
  ∀ i (h : i < zs.length), ∃ b off, a = some ⟨b, off, none⟩ ∧ w.cell? ⟨b, off + i, none⟩ = some (.int k zs[i]) ∧ (Lit.int k zs[i]).wf = true
theorem IsRow.cells {k : IntKind} {w : World} {a : Option Addr} {len cap : Nat} {zs : List Int} (h : IsRow k w a len cap zs) :
    len ≤ cap ∧ cap ≤ maxLen ∧ (zs.take len).length = len ∧ Cells k w a (zs.take len) := by
  rcases h with ⟨rfl, rfl, rfl, rfl⟩ | ⟨x, rfl, hlc, hcm, hzl, hcell, hwf⟩
  · exact ⟨Nat.le_refl _, Nat.zero_le _, rfl, fun i h => by simp at h⟩
  · refine ⟨hlc, hcm, by simp; omega, fun i h => ?_⟩
    simp at h
    obtain ⟨b, off, rfl, hc⟩ := ints_at hcell (by omega)
    refine ⟨b, off, rfl, ?_, ?_⟩
    · rw [hc i (by omega), List.getElem_take, List.getD_eq_getElem?_getD, List.getElem?_eq_getElem (by omega)]; rfl
    · rw [List.getElem_take]; exact hwf _ (List.getElem_mem _)
theorem Cells.take {k : IntKind} {w : World} {a : Option Addr} {zs : List Int} (h : Cells k w a zs) (m : Nat) : Cells k w a (zs.take m) := fun i hi => by
  simp at hi
  obtain ⟨b, off, h1, h2, h3⟩ := h i (by omega)
  exact ⟨b, off, h1, by rw [List.getElem_take]; exact h2, by rw [List.getElem_take]; exact h3⟩
theorem Cells.below {k : IntKind} {w w' : World} {a : Option Addr} {zs : List Int} (h : Cells k w a zs) (hb : Below w.heap.size w w') : Cells k w' a zs := fun i hi => by
  obtain ⟨b, off, h1, h2, h3⟩ := h i hi
  exact ⟨b, off, h1, by rw [hb.cell (p := ⟨b, off + i, none⟩) (World.block_lt_of_cell? w _ h2)]; exact h2, h3⟩
end Go.Proofs.YtjidcagklakjaaaGreat
