/-
  LocalLost: nobody is lost, nobody is in two queues.
-/
import Derived.Test.YtmldfckeenahlaaW8Plays
import Derived.Test.YtmldfckeenahlaaWCnt8
import Derived.WideMake
open Go Go.RowKit
set_option linter.unusedVariables false
namespace Go.Proofs.Ytmldfckeenahlaa
def qn2 (d : Qd) : List Int := d.q.l ++ d.q.nx.toList
theorem qn2_count (a : Int) : ∀ ds : List Qd, (ds.flatMap qn2).count a = (alln ds).count a
  | [] => rfl
  | d :: t => by
    have h := qn2_count a t
    unfold alln at *
    simp only [List.flatMap_cons, List.count_append, h, qn2, qn]
    omega
theorem Inv8.full {ds : List Qd} {gl out : List Int} {nx : Nat} (h : Inv8 ds gl nx out) : (out ++ (ds.flatMap qn2 ++ gl)).Perm ((List.range nx).map fun n : Nat => (n : Int)) := by
  unfold Inv8 at h
  rw [List.perm_iff_count] at *
  intro a
  have h1 := h a
  have h2 := qn2_count a ds
  simp only [List.count_append] at *
  omega
theorem Inv8.nodup {ds : List Qd} {gl out : List Int} {nx : Nat} (h : Inv8 ds gl nx out) : (out ++ (ds.flatMap qn2 ++ gl)).Nodup :=
  h.full.nodup_iff.2 (List.pairwise_map.2 (List.nodup_range.imp (fun h hc => h (by omega))))
theorem take_flat (ds : List Qd) (k : Nat) (d : Qd) (h : ds[k]? = some d) : (ds.take (k + 1)).flatMap qn2 = (ds.take k).flatMap qn2 ++ qn2 d ∧ ds.flatMap qn2 = (ds.take k).flatMap qn2 ++ (qn2 d ++ (ds.drop (k + 1)).flatMap qn2) := by
  obtain ⟨hk, e⟩ := List.getElem?_eq_some_iff.1 h
  constructor
  · rw [List.take_add_one, h, List.flatMap_append]; simp
  · have h1 := List.take_append_drop k ds
    rw [List.drop_eq_getElem_cons hk, e] at h1
    have h2 := congrArg (List.flatMap qn2) h1
    rw [List.flatMap_append, List.flatMap_cons] at h2
    exact h2.symm
end Go.Proofs.Ytmldfckeenahlaa
namespace Go.Proofs.Ytmldfckeenahlaa.localLost
set_option maxRecDepth 100000 in
set_option maxHeartbeats 8000000 in
theorem walk (x0 x1 x2 x3 : Int) (a1 : Option Addr) (len1 cap1 : Nat) (l1 : List Ac3) (w : World) (w1' : IsActs3 w a1 len1 cap1 l1) :
    Calls Try.prog 4 #[.agg #[.int .i64 x0, .int .i64 x1, .int .i64 x2, .int .i64 x3], .slice a1 len1 cap1] w fun e w' => e = .returned (.bool true) ∧ Below w.heap.size w w' := by
  obtain ⟨hm, hlc, hcm, hat, -⟩ := w1'
  have hlm : len1 ≤ maxLen := Nat.le_trans hlc hcm
  unfold maxLen at hlm
  have Hat := Lib.hid hat; clear hat hlc hcm
  have Hm := Lib.hid hm; clear hm
  obtain ⟨ba, hba⟩ : ∃ ba, ba = w.heap.size := ⟨_, rfl⟩
  have hbA := below_alloc1 w (.cells #[.int .i64 x0, .int .i64 x1, .int .i64 x2, .int .i64 x3] 22)
  have hact := Blk.mk w [.int .i64 x0, .int .i64 x1, .int .i64 x2, .int .i64 x3] 22 ba hba
  have HACT := Lib.hid hact
  have HBA := Lib.hid hbA
  clear hact hbA
  go_enter Try.func4, Try.ntmps4
  go_upto_region 1 with fail
  rw [← hba]
  generalize w.alloc (.cells #[.int .i64 x0, .int .i64 x1, .int .i64 x2, .int .i64 x3] 22) = W at *
  clear hba
  go_wp2_with fail
  refine (awake8_any _).mono ?_
  rintro e w1 ⟨rfl, hb1⟩
  have q0 := cell_below (HACT.out 0 _ rfl).1 hb1
  have q1 := cell_below (HACT.out 1 _ rfl).1 hb1
  have q2 := cell_below (HACT.out 2 _ rfl).1 hb1
  have q3 := cell_below (HACT.out 3 _ rfl).1 hb1
  have B1 := Lib.hid (below_on HBA.out hb1)
  clear hb1 HACT HBA
  go_wp2_with fail
  refine (made_any w1 x0 x1 x2 x3).mono ?_
  rintro e w2 ⟨wb, b, rfl, hmk⟩
  obtain ⟨ds0, hst0⟩ := hmk.st
  have HST := Lib.hid hst0
  clear hmk hst0 q0 q1 q2 q3
  go_wp2_with fail
  go_loopw [6] (fun iv wr => ∃ i : Nat, i ≤ 60 ∧ i ≤ len1 ∧ iv = .int .i64 i ∧ Hid (∃ ds gl nx out, St8 w1 wr wb b ds gl nx out ∧ nx ≤ i)) (fun iv _ => 60 - (intOf iv).toNat)
  case atStart => exact ⟨0, by omega, by omega, rfl, Lib.hid ⟨ds0, [], 0, [], HST.out, by omega⟩⟩
  case round =>
    obtain ⟨i, hi6, hi, rfl, hr⟩ := hrel
    obtain ⟨ds, gl, nx, out, hst, hnx⟩ := hr.out
    have hbw := below_on B1.out hst.bel
    by_cases hlt : i < len1 ∧ i < 60
    · obtain ⟨hlt1, hlt2⟩ := hlt
      have hl1 : (i : Int) < (len1 : Int) := by omega
      have hl2 : (i : Int) < 60 := by omega
      obtain ⟨b1, o1, rfl, g0, g1, g2⟩ := (Hat.out.below hbw) i (by have := Hm.out; omega)
      obtain ⟨ac, hac⟩ : ∃ ac, ac = l1[i]'(by have := Hm.out; omega) := ⟨_, rfl⟩
      rw [← hac] at g0 g1 g2
      obtain ⟨kd, wh, n⟩ := ac
      simp only at g0 g1 g2
      have HS := Lib.hid hst
      clear hac hst hbw hr HST
      go_wp2_with fail
      refine (does_any w1 wr wb b ds gl nx out kd wh n HS.out (by omega)).mono ?_
      rintro e w4 ⟨ds', gl', nx', out', rfl, hst', hn1, hn2⟩
      have HS4 := Lib.hid hst'
      clear hst' HS g0 g1 g2
      go_wp2_with fail
      exact ⟨⟨i + 1, by omega, by omega, by go_num, Lib.hid ⟨ds', gl', nx', out', HS4.out, by omega⟩⟩, by simp [intOf]; omega⟩
    · have hcase : (i < len1 ∧ ¬ i < 60) ∨ ¬ i < len1 := by omega
      rcases hcase with ⟨h1, h2⟩ | h1
      all_goals
        obtain ⟨la, lc, xa, xc, rs, ya, yc, oa, oc, hO, hd4, hds, hyg, hI⟩ := hst
        unfold D8 at hO
        obtain ⟨d0, hd0⟩ : ∃ d, ds[0]? = some d := ⟨_, List.getElem?_eq_getElem (by omega)⟩
        obtain ⟨lb, lo, rfl, -⟩ := (hO.rowG 1 rfl).cells 0 _ (lptr_at hd0)
        have hnd := hI.nodup
        have hfu := hI.full
        have hrg : ∀ v, v ∈ out ++ (ds.flatMap qn2 ++ gl) → 0 ≤ v ∧ v < nx := fun v hv => by
          obtain ⟨n, hn, rfl⟩ := List.mem_map.1 (hfu.mem_iff.1 hv)
          have := List.mem_range.1 hn
          omega
        have hle : (out ++ (ds.flatMap qn2 ++ gl)).length = nx := by rw [hfu.length_eq]; simp
        have hle' := hle
        simp only [List.length_append] at hle'
        have HND := Lib.hid hnd
        have HFU := Lib.hid hfu
        have HRG := Lib.hid hrg
        have HLE := Lib.hid hle
        have HD4 := Lib.hid (And.intro hd4 hI)
        have hglb : gl.length ≤ 1000 := by omega
        have hol : out.length ≤ 1000 := by omega
        have hmm : (Instr.makeMap 31 none).run Try.prog wr = .ok (.map (some wr.heap.size)) (wr.alloc (.map #[] 0)) := run_makeMap_plain wr _
        have hO2 := hO.cntNew (r := wr.heap.size) rfl
        obtain ⟨r, hr0⟩ : ∃ r, r = wr.heap.size := ⟨_, rfl⟩
        rw [← hr0] at hO2 hmm
        have HO2 := Lib.hid hO2
        have HBW := Lib.hid hbw
        clear hr hd0 hnd hfu hrg hle hle' hd4 hI hds hyg hO hO2 hbw HST
        go_upto_region 10 with fail
        rw [← hr0]
        clear hmm hr0
        generalize wr.alloc (.map #[] 0) = wa at *
        obtain ⟨f5, -⟩ := HO2.out.cel 1 rfl 5 _ rfl
        go_wp2_with fail
        clear f5
        go_loopw [44] (fun iv wx => ∃ j : Nat, j ≤ out.length ∧ iv = .int .i64 j ∧ Hid (Own w1 wx (CntA r ([] ++ out.take j) :: CelA wb [.slice (some ⟨lb, lo, none⟩) 4 lc, .pointer (some ⟨b, 0, none⟩), .slice xa 4 xc, .slice ya gl.length yc, .int .i64 (nx : Int), .slice oa out.length oc] :: RowGA 1 (some ⟨lb, lo, none⟩) lc 4 (lptr ds) :: gloA b gl :: RowGA 3 xa xc 4 (xcs ds) :: PoolA rs :: RowA oa oc out :: locs ds))) (fun iv _ => out.length - (intOf iv).toNat)
        case atStart => exact ⟨0, by omega, rfl, Lib.hid (by rw [List.take_zero]; exact HO2.out)⟩
        case round =>
          obtain ⟨j, hj, rfl, hr⟩ := hrel
          by_cases hjl : j < out.length
          · have hjl' : (j : Int) < (out.length : Int) := by omega
            have hO := hr.out
            obtain ⟨b2, o2, e2, c2⟩ := (hO.row 6 rfl).ints j hjl
            have hv := HRG.out out[j] (List.mem_append.2 (.inl (List.getElem_mem hjl)))
            obtain ⟨hlk, w5, hup, hO5⟩ := hO.cnt out[j] (by omega) (nodup_next (M := []) HND.out j hjl) (by simp; omega)
            rw [take_next] at hO5
            have HO5 := Lib.hid hO5
            generalize out[j] = v at *
            cases e2
            clear hO hO5 hr hv
            go_wp2_with fail
            exact ⟨⟨j + 1, by omega, by go_num, HO5⟩, by simp [intOf]; omega⟩
          · obtain rfl : j = out.length := by omega
            have hO := hr.out
            rw [List.take_length, List.nil_append] at hO
            have HO3 := Lib.hid hO
            obtain ⟨f0, -⟩ := hO.cel 1 rfl 0 _ rfl
            clear hO hr HO2
            go_wp2_with fail
            clear f0
            go_loopw [58] (fun iv wx => ∃ k : Nat, k ≤ 4 ∧ iv = .int .i64 k ∧ Hid (Own w1 wx (CntA r (out ++ (ds.take k).flatMap qn2) :: CelA wb [.slice (some ⟨lb, lo, none⟩) 4 lc, .pointer (some ⟨b, 0, none⟩), .slice xa 4 xc, .slice ya gl.length yc, .int .i64 (nx : Int), .slice oa out.length oc] :: RowGA 1 (some ⟨lb, lo, none⟩) lc 4 (lptr ds) :: gloA b gl :: RowGA 3 xa xc 4 (xcs ds) :: PoolA rs :: RowA oa oc out :: locs ds))) (fun iv _ => 4 - (intOf iv).toNat)
            case atStart => exact ⟨0, by omega, rfl, Lib.hid (by rw [List.take_zero, List.flatMap_nil, List.append_nil]; exact HO3.out)⟩
            case round =>
              obtain ⟨k, hk, rfl, hr⟩ := hrel
              clear HO3
              by_cases hkl : k < 4
              · have hkl' : (k : Int) < 4 := by omega
                obtain ⟨d, hd⟩ : ∃ d, ds[k]? = some d := ⟨_, List.getElem?_eq_getElem (by have := HD4.out.1; omega)⟩
                obtain ⟨t1, t2⟩ := take_flat ds k d hd
                have hnd := HND.out
                have hrg := HRG.out
                have hle := HLE.out
                rw [t2] at hnd hrg hle
                obtain ⟨M, hM⟩ : ∃ M, M = out ++ (ds.take k).flatMap qn2 := ⟨_, rfl⟩
                obtain ⟨Z, hZ⟩ : ∃ Z, Z = (ds.drop (k + 1)).flatMap qn2 ++ gl := ⟨_, rfl⟩
                have eF : out ++ ((ds.take k).flatMap qn2 ++ (qn2 d ++ (ds.drop (k + 1)).flatMap qn2) ++ gl) = M ++ (d.q.l ++ (d.q.nx.toList ++ Z)) := by rw [hM, hZ]; simp [qn2]
                rw [eF] at hnd hrg hle
                have eN : out ++ (ds.take (k + 1)).flatMap qn2 = M ++ d.q.l ++ d.q.nx.toList := by rw [t1, hM]; simp [qn2]
                simp only [List.length_append] at hle
                have hO := hr.out
                rw [← hM] at hO
                have HN1 := Lib.hid hnd
                have HR1 := Lib.hid hrg
                have HEN := Lib.hid eN
                have HDK := Lib.hid hd
                obtain ⟨b2, o2, e2, f1⟩ := (hO.rowG 2 rfl).cells k _ (lptr_at hd)
                cases e2
                have hLo := loc_at8 hO.drop hd
                have hLi := llist_any wr d.p d.g d.N d.q hLo
                have HLi := Lib.hid hLi
                have HO4 := Lib.hid hO
                have hll : d.q.l.length ≤ 1000 := by omega
                have hMl : M.length + d.q.l.length + d.q.nx.toList.length ≤ 1000 := by omega
                clear hr t1 t2 hnd hrg hle hM hZ eF eN hd hO hLo hLi
                go_wp2_with fail
                refine HLi.out.mono ?_
                rintro e w4 ⟨bb, rfl, hbb, hrow, hB4⟩
                have hO5 := (HO4.out.newRow hB4 hrow (fun x hx => by simp [blk] at hx; omega)).pick 1 rfl
                have HO5 := Lib.hid hO5
                clear HLi hbb hrow hB4 hO5 f1
                go_wp2_with fail
                go_loopw [65] (fun iv wy => ∃ j : Nat, j ≤ d.q.l.length ∧ iv = .int .i64 j ∧ Hid (Own w1 wy (CntA r (M ++ d.q.l.take j) :: RowA (some ⟨bb, 0, none⟩) d.q.l.length d.q.l :: CelA wb [.slice (some ⟨lb, lo, none⟩) 4 lc, .pointer (some ⟨b, 0, none⟩), .slice xa 4 xc, .slice ya gl.length yc, .int .i64 (nx : Int), .slice oa out.length oc] :: RowGA 1 (some ⟨lb, lo, none⟩) lc 4 (lptr ds) :: gloA b gl :: RowGA 3 xa xc 4 (xcs ds) :: PoolA rs :: RowA oa oc out :: locs ds))) (fun iv _ => d.q.l.length - (intOf iv).toNat)
                case atStart => exact ⟨0, by omega, rfl, Lib.hid (by rw [List.take_zero, List.append_nil]; exact HO5.out)⟩
                case round =>
                  obtain ⟨j, hj, rfl, hr⟩ := hrel
                  by_cases hjl : j < d.q.l.length
                  · have hjl' : (j : Int) < (d.q.l.length : Int) := by omega
                    have hO := hr.out
                    obtain ⟨b2, o2, e2, c2⟩ := (hO.row 1 rfl).ints j hjl
                    have hv := HR1.out d.q.l[j] (List.mem_append.2 (.inr (List.mem_append.2 (.inl (List.getElem_mem hjl)))))
                    obtain ⟨hlk, w5, hup, hO5⟩ := hO.cnt d.q.l[j] (by omega) (nodup_next HN1.out j hjl) (by simp; omega)
                    rw [take_next] at hO5
                    have HO6 := Lib.hid hO5
                    generalize d.q.l[j] = v at *
                    cases e2
                    rw [Nat.zero_add] at c2
                    clear hO hO5 hr hv HO5
                    go_wp2_with fail
                    exact ⟨⟨j + 1, by omega, by go_num, HO6⟩, by simp [intOf]; omega⟩
                  · obtain rfl : j = d.q.l.length := by omega
                    have hO := hr.out
                    rw [List.take_length] at hO
                    have hO := (hO.pick 1 rfl).drop
                    have hN := lnext_any wr d.p d.g d.N d.q (loc_at8 hO.drop HDK.out)
                    have HN := Lib.hid hN
                    have HO6 := Lib.hid hO
                    clear hr HO5 HO4
                    go_wp2_with fail
                    refine HN.out.mono ?_
                    rintro e w6 ⟨rfl, rfl⟩
                    cases hq : d.q.nx with
                    | none =>
                      have hnum : d.q.num = -1 := by unfold LQ.num; rw [hq]; rfl
                      rw [hnum]
                      have hen := HEN.out
                      rw [hq, Option.toList_none, List.append_nil] at hen
                      clear hN hnum HN
                      have HO7 := HO6
                      rw [← hen] at HO7
                      clear hO hq
                      go_wp2_with fail
                      exact ⟨⟨k + 1, by omega, by go_num, HO7⟩, by simp [intOf]; omega⟩
                    | some v =>
                      have hnum : d.q.num = v := by unfold LQ.num; rw [hq]; rfl
                      rw [hnum] at hN ⊢
                      have hen := HEN.out
                      rw [hq, Option.toList_some] at hen
                      have hnd := HN1.out
                      rw [hq, Option.toList_some, ← List.append_assoc] at hnd
                      have hv := HR1.out v (List.mem_append.2 (.inr (List.mem_append.2 (.inr (List.mem_append.2 (.inl (by rw [hq]; simp)))))))
                      obtain ⟨hlk, w7, hup, hO7⟩ := hO.cnt v (by omega) (by have := nodup_next (l := [v]) hnd 0 (by simp); simpa using this) (by simp; omega)
                      rw [← hen] at hO7
                      have HO7 := Lib.hid hO7
                      have HN := Lib.hid hN
                      have hne : (v == -1) = false := by rw [beq_eq_false_iff_ne]; omega
                      clear hN hO hO7 hq hnd hen hnum hv
                      go_wp2_with fail
                      refine HN.out.mono ?_
                      rintro e w6 ⟨rfl, rfl⟩
                      go_wp2_with fail
                      exact ⟨⟨k + 1, by omega, by go_num, HO7⟩, by simp [intOf]; omega⟩
              · obtain rfl : k = 4 := by omega
                have hO := hr.out
                rw [show ds.take 4 = ds from by rw [← HD4.out.1, List.take_length]] at hO
                obtain ⟨F, hG, -⟩ := hO.fact 3 rfl
                have hGl := glist_any wr b gl F hG (by omega)
                have HGl := Lib.hid hGl
                have HO4 := Lib.hid hO
                obtain ⟨f1, -⟩ := hO.cel 1 rfl 1 _ rfl
                clear hr hO hG hGl
                go_wp2_with fail
                refine HGl.out.mono ?_
                rintro e w4 ⟨a', c', rfl, hrow, hbb, hB4⟩
                have hO5 := (HO4.out.newRow hB4 hrow hbb).pick 1 rfl
                have HO5 := Lib.hid hO5
                clear HGl hbb hrow hB4 hO5 f1 HO4
                go_wp2_with fail
                go_loopw [89] (fun iv wy => ∃ j : Nat, j ≤ gl.length ∧ iv = .int .i64 j ∧ Hid (Own w1 wy (CntA r ((out ++ ds.flatMap qn2) ++ gl.take j) :: RowA a' c' gl :: CelA wb [.slice (some ⟨lb, lo, none⟩) 4 lc, .pointer (some ⟨b, 0, none⟩), .slice xa 4 xc, .slice ya gl.length yc, .int .i64 (nx : Int), .slice oa out.length oc] :: RowGA 1 (some ⟨lb, lo, none⟩) lc 4 (lptr ds) :: gloA b gl :: RowGA 3 xa xc 4 (xcs ds) :: PoolA rs :: RowA oa oc out :: locs ds))) (fun iv _ => gl.length - (intOf iv).toNat)
                case atStart => exact ⟨0, by omega, rfl, Lib.hid (by rw [List.take_zero, List.append_nil]; exact HO5.out)⟩
                case round =>
                  obtain ⟨j, hj, rfl, hr⟩ := hrel
                  by_cases hjl : j < gl.length
                  · have hjl' : (j : Int) < (gl.length : Int) := by omega
                    have hO := hr.out
                    obtain ⟨b2, o2, e2, c2⟩ := (hO.row 1 rfl).ints j hjl
                    have hv := HRG.out gl[j] (List.mem_append.2 (.inr (List.mem_append.2 (.inr (List.getElem_mem hjl)))))
                    have hln := HLE.out
                    simp only [List.length_append] at hln
                    obtain ⟨hlk, w5, hup, hO5⟩ := hO.cnt gl[j] (by omega) (nodup_next (rest := []) (by have := HND.out; simpa using this) j hjl) (by simp only [List.length_append, List.length_take]; omega)
                    rw [take_next] at hO5
                    have HO6 := Lib.hid hO5
                    generalize gl[j] = v at *
                    cases e2
                    clear hO hO5 hr hv HO5 hln
                    go_wp2_with fail
                    exact ⟨⟨j + 1, by omega, by go_num, HO6⟩, by simp [intOf]; omega⟩
                  · obtain rfl : j = gl.length := by omega
                    have hO := hr.out
                    rw [List.take_length, List.append_assoc] at hO
                    have hO := (hO.pick 1 rfl).drop
                    obtain ⟨f4, -⟩ := hO.cel 1 rfl 4 _ rfl
                    have HO6 := Lib.hid hO
                    clear hr hO HO5
                    go_wp2_with fail
                    go_loopw [102] (fun iv wz => ∃ v : Nat, v ≤ nx ∧ iv = .int .i64 v ∧ wz = wr) (fun iv _ => nx - (intOf iv).toNat)
                    case atStart => exact ⟨0, by omega, rfl, rfl⟩
                    case round =>
                      obtain ⟨v, hv, rfl, rfl⟩ := hrel
                      by_cases hvl : v < nx
                      · have hvl' : (v : Int) < (nx : Int) := by omega
                        have hg := HO6.out.cntGet (v : Int) (by omega) (HFU.out.mem_iff.2 (List.mem_map_of_mem (f := fun n : Nat => (n : Int)) (List.mem_range.2 hvl)))
                        go_wp2_with fail
                        exact ⟨⟨v + 1, by omega, by go_num, trivial⟩, by simp [intOf]; omega⟩
                      · have hvl' : ¬ ((v : Int) < (nx : Int)) := by omega
                        go_upto_region 37 with fail
                        have hO := HO6.out.step (below_drew1 wr)
                        have hcl := hO.cntLen 3
                        rw [HLE.out] at hcl
                        have HC := Lib.hid (And.intro hcl (hO.cel 1 rfl 4 _ rfl).1)
                        have HB := Lib.hid (below_on B1.out hO.1)
                        clear hO hcl f4 HO6
                        refine wp_region_lexH (fun wx => (Builtin.len_ #[31] 3 #[.map (some r)]).run Try.prog wx = .ok (.int .i64 (nx : Int)) wx ∧ wx.cell? ⟨wb, 4, none⟩ = some (.int .i64 (nx : Int))) 8 (Array.replicate 8 false) (by kernel_rfl) (by kernel_rfl) ?_
                        refine wpAnyH_seg 0 8 _ #[true, true, true, true, true, true, true, true] 0 (by kernel_rfl) noPanic_put (HC.out) (by kernel_rfl) ?_
                        simp only [List.take_succ_cons, List.take_zero, List.drop_zero]
                        repeat (first
                          | (refine wpSegH_no (by rfl) ?_; simp only [Act.put, List.setIfInBounds_toArray, List.set_cons_zero, List.set_cons_succ])
                          | (refine wpSegH_yes (by rfl) ?_; apply Exists.intro; apply And.intro; (· (intro wx hS; (try dsimp only at hS); go_simp; first | done | with_reducible rfl)); simp only [Act.put, List.setIfInBounds_toArray, List.set_cons_zero, List.set_cons_succ]))
                        refine wpSegH_nil ?_
                        refine wpAnyH_done (by kernel_rfl) (NoPanic.normal ?_) _
                        go_wp2_with fail
                        go_ret
                        exact ⟨rfl, HB.out⟩
end Go.Proofs.Ytmldfckeenahlaa.localLost
