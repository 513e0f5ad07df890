/-
  What a log's bytes are: plain lemmas. No program is named here.
-/
import Derived.Test.YtnpmapmdeldnmaaWLog4
open Go Go.RowKit
set_option linter.unusedVariables false
namespace Go.Proofs.Ytnpmapmdeldnmaa
/-- A segment's body. -/
def bodyA (l : List Rec) : ByteArray := ⟨(bytesL l).toArray⟩
theorem bodyA_list (l : List Rec) : (bodyA l).data.toList = bytesL l := rfl
theorem bodyA_size (l : List Rec) : (bodyA l).size = (bytesL l).length := by rw [size_list, bodyA_list]
theorem bytesL_pos (l : List Rec) : l.length ≤ (bytesL l).length := by
  induction l with
  | nil => simp
  | cons r l ih => simp only [bytesL, List.flatMap_cons, List.length_append, List.length_cons] at *; have := putL_pos r.num; omega
theorem allR_body (l : List Rec) (hok : ∀ r ∈ l, Rec.ok r) : allR (bodyA l) = (l, (bodyA l).size) := by
  have hge := bytesL_pos l
  exact allF_back l ((bodyA l).size + 1) (bodyA l) 0 hok (by unfold from_; rw [bodyA_list]; simp) (by rw [bodyA_size]; omega) (Nat.zero_le _)
theorem whole_body (l : List Rec) (hok : ∀ r ∈ l, Rec.ok r) : whole (bodyA l) := by unfold whole; rw [allR_body l hok]
/-- Batches that may be a log's segments. -/
def Bat (bat : List (List Rec)) : Prop := ∀ x ∈ bat, x ≠ [] ∧ x.length ≤ 100 ∧ ∀ r ∈ x, Rec.ok r
/-- A log's bytes. -/
def logL (bat : List (List Rec)) : List UInt8 := rowF 0 (bat.map bodyA)
theorem Bat.small {bat : List (List Rec)} (h : Bat bat) : ∀ b ∈ bat.map bodyA, b.size ≤ 1100 := fun b hb => by
  rw [List.mem_map] at hb
  obtain ⟨x, hx, rfl⟩ := hb
  have h1 := bytesL_len x
  have h2 := (h x hx).2.1
  rw [bodyA_size]; omega
theorem Bat.len {bat : List (List Rec)} (h : Bat bat) : (logL bat).length ≤ 1128 * bat.length := by
  have := rowF_len (bat.map bodyA) 0 1100 h.small
  rw [List.length_map] at this
  exact this
theorem Bat.count {bat : List (List Rec)} (h : Bat bat) : bat.length ≤ bat.flatten.length := by
  induction bat with
  | nil => simp
  | cons x l ih =>
    have h1 := ih (fun y hy => h y (by simp [hy]))
    have h2 : 0 < x.length := List.length_pos_iff.2 (h x (by simp)).1
    rw [List.flatten_cons, List.length_append, List.length_cons]; omega
theorem logL_snoc (bat : List (List Rec)) (x : List Rec) : logL (bat ++ [x]) = logL bat ++ frameL bat.length (bytesL x) := by
  unfold logL; rw [List.map_append, List.map_singleton, rowF_snoc, List.length_map, Nat.zero_add, bodyA_list]
theorem seen_whole : ∀ (bat : List (List Rec)) (a q : Nat), Bat bat → ∀ x ∈ seen a q (bat.map bodyA), whole x.1
  | [], a, q, _, x, hx => by simp [seen] at hx
  | y :: l, a, q, h, x, hx => by
    rw [List.map_cons, seen, List.mem_cons] at hx
    rcases hx with rfl | hx
    · exact whole_body y (h y (by simp)).2.2
    · exact seen_whole l _ _ (fun z hz => h z (by simp [hz])) x hx
theorem seen_recs : ∀ (bat : List (List Rec)) (a q : Nat), Bat bat → recsOf (seen a q (bat.map bodyA)) = bat.flatten
  | [], a, q, _ => by simp [seen, recsOf]
  | y :: l, a, q, h => by
    rw [List.map_cons, seen, List.flatten_cons]
    have e : recsOf ((bodyA y, a + (frameL q (bodyA y).data.toList).length) :: seen (a + (frameL q (bodyA y).data.toList).length) (q + 1) (l.map bodyA)) = (allR (bodyA y)).1 ++ recsOf (seen (a + (frameL q (bodyA y).data.toList).length) (q + 1) (l.map bodyA)) := rfl
    rw [e, allR_body y (h y (by simp)).2.2, seen_recs l _ _ (fun z hz => h z (by simp [hz]))]
/-- What is read of a log, and of bytes behind it that are no segment. -/
theorem read_log (s : ByteArray) (bat : List (List Rec)) (more : List UInt8) (h : s.data.toList = logL bat ++ more) (hb : Bat bat) (hl : bat.length ≤ 1000000)
    (hst : ¬ ((openR s ((logL bat).length : Nat)).2.2.2 = 0 ∧ (openR s ((logL bat).length : Nat)).1 = bat.length)) :
    readR s = seen 0 0 (bat.map bodyA) ∧ recsOf (readR s) = bat.flatten ∧ lastEnd (readR s) = (logL bat).length ∧ (readR s).length = bat.length := by
  have hsz := congrArg List.length h
  rw [← size_list, List.length_append] at hsz
  have hmin : (bat.map bodyA).length ≤ (logL bat).length := by
    have aux : ∀ (m : List ByteArray) (q : Nat), m.length ≤ (rowF q m).length := fun m => by
      induction m with
      | nil => intro q; simp [rowF]
      | cons x m ih => intro q; have := ih (q + 1); rw [rowF, List.length_append, frameL_len, List.length_cons]; omega
    exact aux _ _
  have hs : scanR s 0 = seen 0 0 (bat.map bodyA) := by
    unfold scanR
    refine scan_row (bat.map bodyA) _ s 0 0 more (Nat.zero_le _) (by unfold from_; rw [List.drop_zero, h]; rfl) (by rw [List.length_map]; omega) (fun b hx => by have := hb.small b hx; omega) (by omega) ?_
    rw [Nat.zero_add, Nat.zero_add, List.length_map]
    exact hst
  have hr : readR s = seen 0 0 (bat.map bodyA) := readR_split s _ [] (by rw [hs, List.append_nil]) (seen_whole bat 0 0 hb) (.inl rfl)
  rw [hr]
  exact ⟨rfl, seen_recs bat 0 0 hb, seen_end0 _ _, by rw [seen_len, List.length_map]⟩
theorem read_log0 (s : ByteArray) (bat : List (List Rec)) (h : s.data.toList = logL bat) (hb : Bat bat) (hl : bat.length ≤ 1000000) :
    readR s = seen 0 0 (bat.map bodyA) ∧ recsOf (readR s) = bat.flatten ∧ lastEnd (readR s) = (logL bat).length ∧ (readR s).length = bat.length := by
  refine read_log s bat [] (by rw [h, List.append_nil]) hb hl ?_
  have hsz := congrArg List.length h
  rw [← size_list] at hsz
  rw [openR_end s _ hsz.symm]
  intro hc; simp at hc
/-- A store and a book whose log is made of batches. -/
structure LogOf (s : SSt) (b : BSt) (bat : List (List Rec)) : Prop where
  bs : s.bs = logL bat
  armed : s.armed = false
  room : s.room = 1048576
  safe : s.safe = s.bs.length
  next : b.next = bat.length
  sure : b.sure = bat.flatten.length
  bat : Bat bat
theorem LogOf.flush {s : SSt} {b : BSt} {bat : List (List Rec)} (h : LogOf s b bat) (hn : b.wait ≠ []) (hl : b.wait.length ≤ 100) (hok : ∀ r ∈ b.wait, Rec.ok r) : LogOf (s.flushed b) b.flushed (bat ++ [b.wait]) := by
  have e1 : s.flushed b = { s with bs := s.bs ++ frameL b.next (bytesL b.wait), safe := (s.bs ++ frameL b.next (bytesL b.wait)).length } := by unfold SSt.flushed; rw [if_neg hn]
  have e2 : b.flushed = { b with next := b.next + 1, sure := b.sure + b.wait.length, wait := [] } := by unfold BSt.flushed; rw [if_neg hn]
  rw [e1, e2]
  refine ⟨?_, h.armed, h.room, rfl, ?_, ?_, ?_⟩
  · rw [logL_snoc, h.bs, h.next]
  · rw [h.next]; simp
  · simp only; rw [h.sure]; simp
  · intro x hx
    rw [List.mem_append, List.mem_singleton] at hx
    rcases hx with hx | rfl
    · exact h.bat x hx
    · exact ⟨hn, hl, hok⟩
theorem LogOf.wait {s : SSt} {b b' : BSt} {bat : List (List Rec)} (h : LogOf s b bat) (h1 : b'.next = b.next) (h2 : b'.sure = b.sure) : LogOf s b' bat := ⟨h.bs, h.armed, h.room, h.safe, by rw [h1, h.next], by rw [h2, h.sure], h.bat⟩
/-- The batches behind an Add. -/
def batAfter (b : BSt) (bat : List (List Rec)) (r : Rec) : List (List Rec) := if b.wait.length + 1 < b.size then bat else bat ++ [b.wait ++ [r]]
theorem LogOf.add {s : SSt} {b : BSt} {bat : List (List Rec)} (h : LogOf s b bat) (r : Rec) (hr : Rec.ok r) (hl : b.wait.length + 1 ≤ 100) (hok : ∀ r ∈ b.wait, Rec.ok r) : LogOf (s.after b r) (b.after r) (batAfter b bat r) := by
  unfold SSt.after BSt.after batAfter
  by_cases hc : b.wait.length + 1 < b.size
  · rw [if_pos hc, if_pos hc, if_pos hc]; exact h.wait rfl rfl
  · rw [if_neg hc, if_neg hc, if_neg hc]
    refine (h.wait (b' := b.added r) rfl rfl).flush (by simp [BSt.added]) (by simp only [BSt.added, List.length_append, List.length_singleton]; exact hl) (fun x hx => ?_)
    simp only [BSt.added, List.mem_append, List.mem_singleton] at hx
    rcases hx with hx | rfl
    · exact hok x hx
    · exact hr
theorem LogOf.room2 {s : SSt} {b : BSt} {bat : List (List Rec)} (h : LogOf s b bat) (hl : bat.flatten.length ≤ 500) : s.bs.length + 20000 ≤ s.room ∧ s.bs.length ≤ 1048576 := by
  have h1 := h.bat.len
  have h2 := h.bat.count
  rw [h.bs, h.room]; omega
/-- The batches behind a Flush. -/
def batFlush (b : BSt) (bat : List (List Rec)) : List (List Rec) := if b.wait = [] then bat else bat ++ [b.wait]
theorem LogOf.flush2 {s : SSt} {b : BSt} {bat : List (List Rec)} (h : LogOf s b bat) (hl : b.wait.length ≤ 100) (hok : ∀ r ∈ b.wait, Rec.ok r) : LogOf (s.flushed b) b.flushed (batFlush b bat) := by
  unfold batFlush
  by_cases hn : b.wait = []
  · rw [if_pos hn]; unfold SSt.flushed BSt.flushed; rw [if_pos hn, if_pos hn]; exact h
  · rw [if_neg hn]; exact h.flush hn hl hok
theorem batFlush_flat (b : BSt) (bat : List (List Rec)) : (batFlush b bat).flatten = bat.flatten ++ b.wait := by
  unfold batFlush; split
  · rename_i h; rw [h, List.append_nil]
  · simp
theorem after_flat (b : BSt) (bat : List (List Rec)) (r : Rec) : (batAfter b bat r).flatten ++ (b.after r).wait = (bat.flatten ++ b.wait) ++ [r] := by
  unfold batAfter BSt.after
  by_cases hc : b.wait.length + 1 < b.size
  · rw [if_pos hc, if_pos hc]; simp [BSt.added]
  · rw [if_neg hc, if_neg hc]; unfold BSt.flushed; rw [if_neg (by simp [BSt.added])]; simp
theorem flushed_wait (b : BSt) : b.flushed.wait = [] := by unfold BSt.flushed; split <;> simp_all
theorem flushed_size (b : BSt) : b.flushed.size = b.size := by unfold BSt.flushed; split <;> rfl
theorem after_size (b : BSt) (r : Rec) : (b.after r).size = b.size := by unfold BSt.after; split; rfl; rw [flushed_size]; rfl
end Go.Proofs.Ytnpmapmdeldnmaa
