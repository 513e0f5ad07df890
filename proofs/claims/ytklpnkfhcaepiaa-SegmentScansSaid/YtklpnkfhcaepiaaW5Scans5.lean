/-
  The walk of what the law SegmentScans hands to Scan.
-/
import Derived.Test.YtklpnkfhcaepiaaW5Scans2
open Go Go.RowKit
set_option linter.unusedVariables false
namespace Go.Proofs.Ytklpnkfhcaepiaa.segmentScans
set_option maxRecDepth 100000 in
set_option maxHeartbeats 40000000 in
theorem see_any : SeeAny := by
  intro w0 W pg pe ps l m stop b e h hl hm hst
  obtain ⟨i0, hi, hz0, hz1, hz2⟩ := info_parts info_str
  have Hi := Lib.hid hi; clear hi
  have Hz0 := Lib.hid hz0; clear hz0
  have Hz1 := Lib.hid hz1; clear hz1
  have Hz2 := Lib.hid hz2; clear hz2
  obtain ⟨j0, ji, jz0, jz1, jz2⟩ := info_parts (info_int : (Try.prog.info? 3).map (fun i => (i.zero, i.size, i.bytes)) = some (some (.int .i64 0), 1, 8))
  have Ji := Lib.hid ji; clear ji
  have Jz0 := Lib.hid jz0; clear jz0
  have Jz1 := Lib.hid jz1; clear jz1
  have Jz2 := Lib.hid jz2; clear jz2
  have HT := Lib.hid h
  obtain ⟨v, u, hp⟩ := h
  obtain ⟨n, hn⟩ : ∃ n, l.length = n := ⟨_, rfl⟩
  obtain ⟨k, hk⟩ : ∃ k, m.length = k := ⟨_, rfl⟩
  rw [hn, hk] at hp
  rw [hn] at hl
  rw [hk] at hm
  have HP := Lib.hid hp
  obtain ⟨h1, h2, h3, h4, h5, h6, h7, h8, h9, h10, h11, h12, h13⟩ := hp
  obtain ⟨ag, cg, hv, hg1, hg2, _⟩ := StrsAt.of_own h3 hn.symm
  obtain ⟨ae, ce, hu, he1, he2, _⟩ := NatsAt.of_own h4 hk.symm
  rw [hn] at hv hg1
  rw [hk] at hu he1
  subst hv hu
  have hs13 := h13.size
  have lg := h1.lt (by simp)
  have le := h2.lt (by simp)
  have hlv := h3.lt
  obtain ⟨x1, x2⟩ := h1.at 0 (by simp)
  obtain ⟨y1, y2⟩ := h2.at 0 (by simp)
  simp only [List.getElem_cons_zero] at x1 y1
  have H3 := Lib.hid h3
  have HN := Lib.hid (And.intro hn hk); clear hn hk
  have HLV := Lib.hid hlv; clear hlv
  have h5' : ¬ pe = pg := fun e => h5 e.symm
  clear h1 h2 h3 h4 h6 h7 h8 h9 h10 h13
  have xa : ∀ o, (W.alloc o).cell? ⟨pg, 0, none⟩ = some (.slice ag n cg) := fun o => cell_below x1 (below_alloc1 _ _)
  have ya : ∀ o, (W.alloc o).cell? ⟨pe, 0, none⟩ = some (.slice ae k ce) := fun o => cell_below y1 (below_alloc1 _ _)
  have xb : ∀ o o', ((W.alloc o).alloc o').cell? ⟨pg, 0, none⟩ = some (.slice ag n cg) := fun o o' => cell_below (xa o) (below_alloc1 _ _)
  have yb : ∀ o o', ((W.alloc o).alloc o').cell? ⟨pe, 0, none⟩ = some (.slice ae k ce) := fun o o' => cell_below (ya o) (below_alloc1 _ _)
  go_enter Try.func20, Try.ntmps20
  by_cases hc : stop = (n : Int)
  · subst hc
    clear xa ya xb yb
    go_wp2
    go_ret
    exact .inr ⟨rfl, by rw [HN.out.1], HT.out⟩
  · have hne : ((n : Int) == stop) = false := by rw [beq_eq_false_iff_ne]; exact fun e => hc e.symm
    go_wp2_with fail
    go_region_law (first
      | (refine step_append_lies _ (by rfl) _ _ 38 (by rfl) w0.heap.size 9 i0 (.string ⟨#[]⟩) 1 16 Try.underlying38 Hi.out Hz0.out Hz1.out Hz2.out rfl (by decide) _ _ _ (by rfl) (owns_below H3.out (by repeat (first | exact Below.refl _ _ | refine Below.drew ?_ | refine Below.alloc ?_ (by simp) _))) ⟨_, 0, none⟩ 1 1 [.string b] (by rfl) (by rfl) (one_at (by first | exact Blk.mk _ [_] _ _ (by simp) | exact (Blk.mk _ [_] _ _ (by simp)).alloc _ | exact (Blk.mk _ [_] _ _ rfl) | exact (Blk.mk _ [_] _ _ rfl).alloc _)) (one_one _ rfl) (by omega) (by unfold maxLen; omega) (by omega) (by first | omega | (simp; omega)) _ rfl ?_
         intro g1 c1 w1 hown1 hgrow1 hg1' hgl1
         have ra := Pair.mid HP.out (by repeat (first | exact Below.refl _ _ | refine Below.drew ?_ | refine Below.alloc ?_ (by simp) _)) hgrow1
         obtain ⟨r1, r2, r3, r4⟩ := ra
         have s1 := (r2.at 0 (by simp)).1
         simp only [List.getElem_cons_zero] at s1
         have s1a := fun o => cell_below s1 (below_alloc1 w1 o)
         have HN1 := Lib.hid (fun (g : Nat) (x : Value) hq => grow_blk (g := g) (x := x) hgrow1 hq)
         have HA1 := Lib.hid (And.intro (keep_below (W := W) hgrow1 (by repeat (first | exact Below.refl _ _ | refine Below.drew ?_ | refine Below.alloc ?_ (by simp) _))) (And.intro hgrow1 (And.intro hown1 hg1')))
         have HR3 := Lib.hid r3
         clear hown1 hgrow1 hg1' hgl1 r1 r2 r3)
      | (refine step_append_lies _ (by rfl) _ _ 41 (by rfl) w0.heap.size 3 j0 (.int .i64 0) 1 8 Try.underlying41 Ji.out Jz0.out Jz1.out Jz2.out rfl (by decide) _ _ _ (by rfl) (owns_below HR3.out (by repeat (first | exact Below.refl _ _ | refine Below.drew ?_ | refine Below.alloc ?_ (by simp) _))) ⟨_, 0, none⟩ 1 1 [.int .i64 (e : Int)] (by rfl) (by rfl) (one_at (by first | exact Blk.mk _ [_] _ _ rfl | exact HN1.out _ _ (by repeat (first | exact Blk.mk _ [_] _ _ rfl | exact Blk.mk _ [_] _ _ (by simp) | refine Blk.alloc ?_ _ | refine Blk.below ?_ (below_drew1 _))) (fun hx => by have hz := (HLV.out _ hx).2; first | omega | (simp at hz; done) | (simp at hz; omega)))) (one_one _ rfl) (by omega) (by unfold maxLen; omega) (by omega) (by first | omega | (simp; omega)) _ rfl ?_
         intro g2 c2 w2 hown2 hgrow2 hg2' hgl2
         have qq := Pair.mid2 HP.out HA1.out.1 HA1.out.2.1 (by repeat (first | exact Below.refl _ _ | refine Below.drew ?_ | refine Below.alloc ?_ (by simp) _)) hgrow2
         obtain ⟨q1, q2⟩ := qq
         obtain ⟨t1, t2⟩ := q1.at 0 (by simp)
         obtain ⟨t3, t4⟩ := q2.at 0 (by simp)
         simp only [List.getElem_cons_zero] at t1 t3
         have TW := Lib.hid (Two.fin (l2 := l ++ [b]) (m2 := m ++ [e]) HP.out HA1.out.1 HA1.out.2.1 (by rw [strc_app]; exact HA1.out.2.2.1) HA1.out.2.2.2 (by rw [List.length_append, HN.out.1]; rfl) (by repeat (first | exact Below.refl _ _ | refine Below.drew ?_ | refine Below.alloc ?_ (by simp) _)) hgrow2 (by rw [i64c_app]; exact hown2) hg2' (by rw [List.length_append, HN.out.2]; rfl))
         clear hown2 hgrow2 hg2' hgl2 q1 q2))
    all_goals
      go_wp2
      go_ret
      exact .inl ⟨rfl, by rw [HN.out.1]; exact hc, TW.out⟩
end Go.Proofs.Ytklpnkfhcaepiaa.segmentScans
