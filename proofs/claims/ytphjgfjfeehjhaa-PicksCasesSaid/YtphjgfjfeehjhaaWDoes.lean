/-
  Channels: does of the law, call by call.
-/
import Derived.Test.YtphjgfjfeehjhaaWCh9
open Go Go.RowKit
set_option linter.unusedVariables false
namespace Go.Proofs.Ytphjgfjfeehjhaa
abbrev Rw := Nat × Option Addr × Nat × Nat × List Value
/-- Rows that are read alone, and may be shared. -/
def PoolR (rs : List Rw) : Asr where
  at_ w F := (∀ x ∈ F, x < w.heap.size) ∧ ∀ r ∈ rs, (∀ x ∈ blk r.2.1, x ∈ F) ∧ RowG r.1 w r.2.1 r.2.2.1 r.2.2.2.1 r.2.2.2.2
  lt := fun h => h.1
  chg := by
    rintro w w' F G ⟨h1, h2⟩ c hd
    exact ⟨fun x hx => Nat.lt_of_lt_of_le (h1 x hx) c.size, fun r hr => ⟨(h2 r hr).1, (h2 r hr).2.chg c (fun x hx => hd x ((h2 r hr).1 x hx))⟩⟩
def RefIn (rs : List Rw) (ba : Option Addr) (bc : Nat) (sa : Option Addr) (sc : Nat) (ra : Option Addr) (rc : Nat) (C : Ch) : Prop :=
  (1, ba, bc, C.buf.length, intc C.buf) ∈ rs ∧ (3, sa, sc, C.S.length, wtc C.S) ∈ rs ∧ (3, ra, rc, C.R.length, wtc C.R) ∈ rs
theorem Own.refGet {w0 w : World} {As : List Asr} {rs : List Rw} (h : Own w0 w As) (i : Nat) (hi : As[i]? = some (PoolR rs)) {ba : Option Addr} {bc : Nat} {sa : Option Addr} {sc : Nat} {ra : Option Addr} {rc : Nat} {C : Ch} (hr : RefIn rs ba bc sa sc ra rc C) : RefAt w ba bc sa sc ra rc C := by
  obtain ⟨F, ⟨_, h2⟩, _⟩ := h.fact i hi
  exact ⟨(h2 _ hr.1).2, (h2 _ hr.2.1).2, (h2 _ hr.2.2).2⟩
theorem Own.rAdd {w0 w w' : World} {As : List Asr} {rs : List Rw} (h : Own w0 w (PoolR rs :: As)) (hb : Below w.heap.size w w') {s : Nat} {a' : Option Addr} {c' n' : Nat} {cs : List Value}
    (ha : RowG s w' a' c' n' cs) (hx : ∀ x ∈ blk a', (∃ r ∈ rs, x ∈ blk r.2.1) ∨ w.heap.size ≤ x) : Own w0 w' (PoolR ((s, a', c', n', cs) :: rs) :: As) := by
  obtain ⟨h1, F, ⟨F1, F2, rfl, ⟨h2, h2'⟩, h3, h4⟩, h5⟩ := h
  have hs := h1.size
  have hs2 := hb.size
  refine ⟨below_on h1 hb, (F1 ++ (blk a').filter (fun x => decide (w.heap.size ≤ x))) ++ F2, ⟨_, F2, rfl, ⟨fun x hx => ?_, fun q hq => ?_⟩, fun x hx hc => ?_, h4.chg (Chg.of_below (F := []) hb) (fun _ _ => by simp)⟩, fun x hx => ?_⟩
  · rcases List.mem_append.1 hx with h | h
    · have := h2 x h; omega
    · exact ha.lt x (List.mem_filter.1 h).1
  · rcases List.mem_cons.1 hq with rfl | hq
    · refine ⟨fun x hx' => ?_, ha⟩
      rcases hx x hx' with ⟨r, hr, h⟩ | h
      · exact List.mem_append.2 (.inl ((h2' r hr).1 x h))
      · exact List.mem_append.2 (.inr (List.mem_filter.2 ⟨hx', by simpa using h⟩))
    · exact ⟨fun x hx => List.mem_append.2 (.inl ((h2' q hq).1 x hx)), (h2' q hq).2.below hb⟩
  · rcases List.mem_append.1 hx with h | h
    · exact h3 x h hc
    · have h6 : decide (w.heap.size ≤ x) = true := (List.mem_filter.1 h).2
      have h7 := h4.lt x hc
      have h8 := of_decide_eq_true h6
      omega
  · rcases List.mem_append.1 hx with h | h
    · rcases List.mem_append.1 h with h | h
      · exact h5 x (by simp [h])
      · have h6 : decide (w.heap.size ≤ x) = true := (List.mem_filter.1 h).2
        have h8 := of_decide_eq_true h6
        omega
    · exact h5 x (by simp [h])
/-- What a call on the document's channel leaves comes to the pool. -/
theorem Own.xAdd {w0 w w' : World} {As : List Asr} {rs : List Rw} (h : Own w0 w (PoolR rs :: As)) {ba : Option Addr} {bc : Nat} {sa : Option Addr} {sc : Nat} {ra : Option Addr} {rc : Nat} {C : Ch} {ba' : Option Addr} {bc' : Nat} {sa' : Option Addr} {sc' : Nat} {ra' : Option Addr} {rc' : Nat} {C' : Ch}
    (hr : RefIn rs ba bc sa sc ra rc C) (hx : XOut w w' (blk ba ++ (blk sa ++ blk ra)) ba' bc' sa' sc' ra' rc' C') : ∃ rs', Own w0 w' (PoolR rs' :: As) ∧ RefIn rs' ba' bc' sa' sc' ra' rc' C' ∧ ∀ r ∈ rs, r ∈ rs' := by
  obtain ⟨⟨h1, h2, h3⟩, h4, hb⟩ := hx
  have old : ∀ x, x ∈ blk ba ++ (blk sa ++ blk ra) → ∃ r ∈ rs, x ∈ blk r.2.1 := fun x hx => by
    simp only [List.mem_append] at hx
    rcases hx with hx | hx | hx
    · exact ⟨_, hr.1, hx⟩
    · exact ⟨_, hr.2.1, hx⟩
    · exact ⟨_, hr.2.2, hx⟩
  have hs := hb.size
  have own3 : Own w0 w' (PoolR ((3, ra', rc', C'.R.length, wtc C'.R) :: (3, sa', sc', C'.S.length, wtc C'.S) :: (1, ba', bc', C'.buf.length, intc C'.buf) :: rs) :: As) := by
    have key : ∀ (ws : List Rw), (∀ q ∈ ws, RowG q.1 w' q.2.1 q.2.2.1 q.2.2.2.1 q.2.2.2.2 ∧ ∀ x ∈ blk q.2.1, (∃ r ∈ rs, x ∈ blk r.2.1) ∨ w.heap.size ≤ x) → Own w0 w' (PoolR (ws ++ rs) :: As) := by
      intro ws hws
      obtain ⟨g1, G, ⟨G1, G2, rfl, ⟨g2, g2'⟩, g3, g4⟩, g5⟩ := h
      refine ⟨below_on g1 hb, (G1 ++ (ws.flatMap fun q => blk q.2.1).filter (fun x => decide (w.heap.size ≤ x))) ++ G2, ⟨_, G2, rfl, ⟨fun x hx => ?_, fun q hq => ?_⟩, fun x hx hc => ?_, g4.chg (Chg.of_below (F := []) hb) (fun _ _ => by simp)⟩, fun x hx => ?_⟩
      · rcases List.mem_append.1 hx with h | h
        · have := g2 x h; omega
        · obtain ⟨q, hq, hxq⟩ := List.mem_flatMap.1 (List.mem_filter.1 h).1
          exact (hws q hq).1.lt x hxq
      · rcases List.mem_append.1 hq with hq | hq
        · refine ⟨fun x hx' => ?_, (hws q hq).1⟩
          rcases (hws q hq).2 x hx' with ⟨r, hr, h⟩ | h
          · exact List.mem_append.2 (.inl ((g2' r hr).1 x h))
          · exact List.mem_append.2 (.inr (List.mem_filter.2 ⟨List.mem_flatMap.2 ⟨q, hq, hx'⟩, by simpa using h⟩))
        · exact ⟨fun x hx => List.mem_append.2 (.inl ((g2' q hq).1 x hx)), (g2' q hq).2.below hb⟩
      · rcases List.mem_append.1 hx with h | h
        · exact g3 x h hc
        · have h6 : decide (w.heap.size ≤ x) = true := (List.mem_filter.1 h).2
          have h7 := g4.lt x hc
          have h8 := of_decide_eq_true h6
          omega
      · rcases List.mem_append.1 hx with h | h
        · rcases List.mem_append.1 h with h | h
          · exact g5 x (by simp [h])
          · have h6 : decide (w.heap.size ≤ x) = true := (List.mem_filter.1 h).2
            have h8 := of_decide_eq_true h6
            have := g1.size
            omega
        · exact g5 x (by simp [h])
    refine key [(3, ra', rc', C'.R.length, wtc C'.R), (3, sa', sc', C'.S.length, wtc C'.S), (1, ba', bc', C'.buf.length, intc C'.buf)] (fun q hq => ?_)
    simp only [List.mem_cons, List.not_mem_nil, or_false] at hq
    rcases hq with rfl | rfl | rfl
    · exact ⟨h3, fun x hx => by rcases h4 x (by simp at hx ⊢; simp [hx]) with h | h; exact .inl (old x h); exact .inr h⟩
    · exact ⟨h2, fun x hx => by rcases h4 x (by simp at hx ⊢; simp [hx]) with h | h; exact .inl (old x h); exact .inr h⟩
    · exact ⟨h1, fun x hx => by rcases h4 x (by simp at hx ⊢; simp [hx]) with h | h; exact .inl (old x h); exact .inr h⟩
  exact ⟨_, own3, ⟨by simp, by simp, by simp⟩, fun r hr => by simp [hr]⟩
/-- What does leaves. -/
def DoesP (p N : Nat) (C : Ch) (rs : List Rw) (w0 : World) (R : List Asr) (r : Ending) (w' : World) : Prop :=
  ∃ C' rs' ba bc sa sc ra rc, r = .returned (.tuple #[xcv N C' ba bc sa sc ra rc, .bool true]) ∧ RefIn rs' ba bc sa sc ra rc C' ∧ (∀ q ∈ rs, q ∈ rs') ∧ C'.buf.length ≤ C.buf.length + 1 ∧ C'.S.length ≤ C.S.length + 1 ∧ C'.R.length ≤ C.R.length + 1 ∧ Own w0 w' (PoolR rs' :: ChanA p N C' :: R)
theorem mSend_len (N : Nat) (C : Ch) (v : Int) : (mSend N C v).1.buf.length ≤ C.buf.length + 1 ∧ (mSend N C v).1.S.length ≤ C.S.length + 1 ∧ (mSend N C v).1.R.length ≤ C.R.length + 1 := by
  obtain ⟨buf, S, R, cl⟩ := C
  unfold mSend
  simp only
  split
  · exact ⟨by simp, by simp, by simp⟩
  · cases R with
    | cons x t => simp; omega
    | nil =>
      simp only
      split <;> simp
theorem mRecv_len (C : Ch) : (mRecv C).1.buf.length ≤ C.buf.length + 1 ∧ (mRecv C).1.S.length ≤ C.S.length + 1 ∧ (mRecv C).1.R.length ≤ C.R.length + 1 := by
  obtain ⟨buf, S, R, cl⟩ := C
  cases S with
  | cons x t =>
    cases hb : buf ++ [x.2.2] with
    | nil => simp at hb
    | cons y b =>
      have e : mRecv ⟨buf, x :: t, R, cl⟩ = (⟨b, t, R, cl⟩, (y, true, x, true), 0) := by simp only [mRecv, hb]
      rw [e]
      have := congrArg List.length hb
      simp at this
      simp; omega
  | nil =>
    cases buf with
    | nil => exact ⟨by simp [mRecv], by simp [mRecv], by simp [mRecv]⟩
    | cons y b => exact ⟨by simp [mRecv]; omega, by simp [mRecv], by simp [mRecv]⟩
end Go.Proofs.Ytphjgfjfeehjhaa
