/-
  The walks of a book's Add.
-/
import Derived.Test.YtnpmapmdeldnmaaWLog2
import Derived.Deep.RegionWith
import Derived.Deep.AppendLies
import Derived.BigQuiet
import Derived.Deep.QuietTactic
open Go Go.RowKit
set_option linter.unusedVariables false
namespace Go.Proofs.Ytnpmapmdeldnmaa
theorem pair_news {w : World} {B : Nat} {u v : Value} {t : TypeId} (h : w.heap[B]? = some (.cells #[u, v] t (0, 0))) : ∀ j x, [u, v][j]? = some x → w.cell? ((⟨B, 0, none⟩ : Addr).add j) = some x := fun j x hj => World.news_of_block (cs := #[u, v]) h j x hj
def BSt.added (b : BSt) (r : Rec) : BSt := { b with wait := b.wait ++ [r] }
theorem Log.push {w0 w2 w1 : World} {p pb k cap cp g : Nat} {a : Option Addr} {s : SSt} {b : BSt} {F G O : List Nat} {r : Rec} (h1 : StoreAt w2 p s F) (h2 : BookAt w2 pb p b G) (h3 : ∀ x ∈ G, x ∉ F) (h4 : ∀ x ∈ F, w0.heap.size ≤ x) (h5 : ∀ x ∈ G, w0.heap.size ≤ x) (h6 : Below w0.heap.size w0 w2)
    (hG : G = pb :: O) (hpO : pb ∉ O) (hO : O = (Value.ownBlock (.slice a k cap)).toList) (hblk : Blk w2 pb (b.cells p (.slice a k cap))) (hk : k = b.wait.length) (hk2 : k + 1 ≤ 100) (hr : Rec.ok r)
    (c1 : Chg O w2 w1) (hown1 : w1.ownsRow 0 38 2 (.slice (some ⟨g, 0, none⟩) (k + 1) cp) (k + 1) (recCells b.wait ++ [.int .i64 r.1, .int .u64 (r.2 : Int)])) (hg : (Value.ownBlock (.slice a k cap)) = some g ∨ g = w2.heap.size + 1) :
    LogTo w0 w2 (w1.setCell ⟨pb, 4, none⟩ (.slice (some ⟨g, 0, none⟩) (k + 1) cp)) p pb s (b.added r) (F ++ G) := by
  obtain ⟨o1, o2, o3, o4, o5, o6⟩ := h2.1
  have hpG : pb ∈ G := by rw [hG]; simp
  have hpl := h2.lt pb hpG
  have hgG : g ∈ G ∨ w2.heap.size ≤ g := by
    rcases hg with hg | hg
    · left; rw [hG, hO, hg]; simp
    · right; omega
  have hgp : g ≠ pb := by
    rcases hg with hg | hg
    · intro e; subst e; exact hpO (by rw [hO, hg]; simp)
    · omega
  have c3 : Chg G w2 (w1.setCell ⟨pb, 4, none⟩ (.slice (some ⟨g, 0, none⟩) (k + 1) cp)) := (c1.mono (fun x hx => by rw [hG]; simp [hx])).setCell _ (.inl hpG)
  refine ⟨F ++ [pb, g], ?_, c3.mono (fun x hx => by simp [hx]), fun x hx => by
    simp at hx
    rcases hx with hx | rfl | rfl
    · exact .inl (by simp [hx])
    · exact .inl (by simp [hpG])
    · rcases hgG with hy | hy
      · exact .inl (by simp [hy])
      · exact .inr hy⟩
  refine ⟨F, [pb, g], h1.chg c3 (fun x hx hy => h3 x hy hx), ⟨⟨o1, o2, o3, o4, ?_, ?_⟩, .slice (some ⟨g, 0, none⟩) (k + 1) cp, by simp [Value.ownBlock], by simpa [Value.ownBlock] using hgp, ?_, ?_⟩, fun x hx => ?_, h4, fun x hx => ?_, Chg.below h6 c3 h5, rfl⟩
  · simp only [BSt.added, List.length_append, List.length_singleton]; omega
  · intro x hx
    simp only [BSt.added, List.mem_append, List.mem_singleton] at hx
    rcases hx with hx | rfl
    · exact o6 x hx
    · exact hr
  · have := (hblk.chg c1 hpO).set 4 (.slice (some ⟨g, 0, none⟩) (k + 1) cp)
    exact this
  · have hl : (b.added r).wait.length = k + 1 := by simp only [BSt.added, List.length_append, List.length_singleton]; omega
    have hc : recCells (b.added r).wait = recCells b.wait ++ [.int .i64 r.1, .int .u64 (r.2 : Int)] := by simp only [BSt.added]; exact recCells_app _ _
    rw [hl, hc]
    exact owns_chg hown1 ((Chg.refl [pb] w1).setCell _ (.inl (by simp))) (fun y hy => by simp [Value.ownBlock] at hy; simp; omega)
  · simp at hx
    rcases hx with rfl | rfl
    · exact h3 x hpG
    · rcases hgG with hy | hy
      · exact h3 x hy
      · intro hF; have := h1.lt x hF; omega
  · simp at hx
    rcases hx with rfl | rfl
    · exact h5 x hpG
    · rcases hgG with hy | hy
      · exact h5 x hy
      · exact Nat.le_trans h6.size hy
/-- The store and the book behind an Add. -/
def SSt.after (s : SSt) (b : BSt) (r : Rec) : SSt := if b.wait.length + 1 < b.size then s else s.flushed (b.added r)
def BSt.after (b : BSt) (r : Rec) : BSt := if b.wait.length + 1 < b.size then b.added r else (b.added r).flushed
set_option maxRecDepth 100000 in
set_option maxHeartbeats 2000000 in
theorem add_anyK {w0 w : World} {p pb : Nat} {s : SSt} {b : BSt} {K : List Nat} (h : LogK w0 w p pb s b K) (r : Rec) (hr : Rec.ok r) (hl : b.wait.length + 1 ≤ 100) (ha : s.armed = false) (hroom : s.bs.length + 30 + 11 * (b.wait.length + 1) ≤ s.room) (hr47 : s.room ≤ 140737488355328) (hnx : b.next + 1 ≤ 1099511627776) (hsu : b.sure + (b.wait.length + 1) ≤ 1099511627776) :
    Calls Try.prog 11 #[.pointer (some ⟨pb, 0, none⟩), .agg #[.int .i64 r.1, .int .u64 (r.2 : Int)]] w fun e w' => e = .returned (.int .i64 0) ∧ LogTo w0 w w' p pb (s.after b r) (b.after r) K := by
  obtain ⟨i0, hi, hz0, hz1, hz2⟩ := info_parts info_rec
  have Hi := Lib.hid hi; clear hi
  have Hz0 := Lib.hid hz0; clear hz0
  have Hz1 := Lib.hid hz1; clear hz1
  have Hz2 := Lib.hid hz2; clear hz2
  have hck := checkV_ok hr
  obtain ⟨rk, rn⟩ := r
  simp only at hck ⊢
  have HR := Lib.hid hr; clear hr
  have HC := Lib.hid hck; clear hck
  have HL := Lib.hid h; clear h
  obtain ⟨q, hq⟩ : ∃ q, q = w.heap.size := ⟨_, rfl⟩
  go_enter Try.func11, Try.ntmps11
  go_wp2_with fail
  refine (check_any rk rn _).mono ?_
  rintro e w2 ⟨rfl, hb2⟩
  rw [HC.out]
  have q0 := cell_below (by rw [World.cell?_alloc_at _ _ _ _ rfl]; rfl : (w.alloc (.cells #[.int .i64 rk, .int .u64 (rn : Int)] 38)).cell? ⟨w.heap.size, 0, none⟩ = some (.int .i64 rk)) hb2
  have q1 := cell_below (by rw [World.cell?_alloc_at _ _ _ _ rfl]; rfl : (w.alloc (.cells #[.int .i64 rk, .int .u64 (rn : Int)] 38)).cell? ⟨w.heap.size, 1, none⟩ = some (.int .u64 (rn : Int))) hb2
  obtain ⟨F, G, y1, y2, h3, h4, h5, h6, hK⟩ := HL.out
  have HKK := Lib.hid hK; clear hK
  have hlt0 := y2.lt
  have bw := below_on (below_alloc1 w (.cells #[.int .i64 rk, .int .u64 (rn : Int)] 38)) hb2
  have h1 := y1.chg (Chg.of_below (F := []) bw) (fun _ _ => by simp)
  have h2 := y2.chg (Chg.of_below (F := []) bw) (fun _ _ => by simp)
  have BW := Lib.hid bw
  have hsz2 := hb2.size
  simp at hsz2
  rw [← hq] at q0 q1 hsz2 hlt0 ⊢
  have B6 := Lib.hid (below_on h6 bw); clear hb2 y2 y1 bw h6 HL
  obtain ⟨a, cap, hG, hne, hblk, hown, hat, hok⟩ := h2.open
  obtain ⟨⟨g0, g1, g2, g3, g4⟩, f0, f1, f2, f3, f4⟩ := b.at hblk
  obtain ⟨k, hk⟩ : ∃ k, k = b.wait.length := ⟨_, rfl⟩
  rw [← hk] at g4 hl hown hne hG hsu hblk hroom
  have Hk := Lib.hid hk; clear hk
  obtain ⟨O, hO⟩ : ∃ O, O = (Value.ownBlock (.slice a k cap)).toList := ⟨_, rfl⟩
  have hGO : G = pb :: O := by rw [hG, hO]
  have hqO : q ∉ O := fun hx => by have := hlt0 q (by rw [hGO]; simp [hx]); omega
  have hpO : pb ∉ O := by
    rw [hO]; intro hx
    cases hv : Value.ownBlock (.slice a k cap) with
    | none => rw [hv] at hx; simp at hx
    | some g => rw [hv] at hx; simp at hx; subst hx; exact hne hv
  have hqp : q ≠ pb := fun e => by have := hlt0 pb (by rw [hGO]; simp); omega
  have HS : Hid (∀ w', Chg O w2 w' → w'.cell? ⟨q, 0, none⟩ = some (.int .i64 rk) ∧ w'.cell? ⟨q, 1, none⟩ = some (.int .u64 (rn : Int)) ∧ w'.cell? ⟨pb, 4, none⟩ = some (.slice a k cap) ∧ w'.frozen? ⟨pb, 4, none⟩ = false ∧ Chg O w2 w') := Lib.hid fun w' c =>
    ⟨cell_chg q0 c hqO, cell_chg q1 c hqO, cell_chg g4 c hpO, by
      have hlt := World.block_lt_of_cell? w2 _ g4
      rw [World.frozen?_of_block (a := ⟨pb, 4, none⟩) (c.block pb hlt hpO)]; exact f4, c⟩
  have HG := Lib.hid hGO; clear hGO hG
  have H1 := Lib.hid h1; clear h1
  have H2 := Lib.hid h2; clear h2
  have H3 := Lib.hid h3; clear h3
  have H4 := Lib.hid h4; clear h4
  have H5 := Lib.hid h5; clear h5
  have HB := Lib.hid hblk; clear hblk
  have HA := Lib.hid hat; clear hat
  have HK := Lib.hid hok; clear hok
  subst hq
  go_wp2_with fail
  have x4 : ∀ o, (w2.alloc o).cell? ⟨pb, 4, none⟩ = some (.slice a k cap) := fun o => cell_below g4 (below_alloc1 _ _)
  have x0 : ∀ o, (w2.alloc o).cell? ⟨w.heap.size, 0, none⟩ = some (.int .i64 rk) := fun o => cell_below q0 (below_alloc1 _ _)
  have x1 : ∀ o, (w2.alloc o).cell? ⟨w.heap.size, 1, none⟩ = some (.int .u64 (rn : Int)) := fun o => cell_below q1 (below_alloc1 _ _)
  go_region_law (first | (refine step_append_lies _ (by rfl) _ _ _ (by rfl) 0 38 i0 _ 2 16 Try.underlying29 Hi.out Hz0.out Hz1.out Hz2.out rfl (by omega) _ _ _ (by rfl) ((hown.alloc _).drew) ⟨w2.heap.size, 0, none⟩ 1 1 _ (by rfl) (by rfl) (World.news_of_block (cs := #[_, _]) (t := 38) (fr := (0, 0)) (heap_alloc_new w2 _)) (by simp [Value.oneCell']) (by omega) (by unfold maxLen; omega) (by omega) (by simp) (w2.heap.size + 1) (by simp) ?_; intro g cp w1 hown1 hgrow hg hgl; have c1 : Chg O w2 w1 := (Chg.of_below (below_alloc1 _ _)).drew.grown hgrow (fun x hx => .inl (by rw [hO, hx]; simp)); obtain ⟨s0, s1, s2, s3, _⟩ := HS.out w1 c1))
  all_goals
    have L3 := Log.push (r := (rk, rn)) H1.out H2.out H3.out H4.out H5.out B6.out HG.out hpO hO HB.out Hk.out (by omega) HR.out c1 hown1 hg
    have L3' := Lib.hid L3
    obtain ⟨K3, ⟨F3, G3, u1, u2, _⟩, _⟩ := L3
    obtain ⟨a3, cap3, _, _, hblk3, _⟩ := u2.open
    obtain ⟨⟨_, z1, _, _, z4⟩, _⟩ := BSt.at _ hblk3
    have hlen : (b.added (rk, rn)).wait.length = k + 1 := by simp only [BSt.added, List.length_append, List.length_singleton]; have := Hk.out; omega
    rw [hlen] at z4
    have hsz : (b.added (rk, rn)).size = b.size := rfl
    rw [hsz] at z1
    obtain ⟨o1, o2, o3, o4, o5, o6⟩ := HK.out
    have HLN := Lib.hid hlen; clear hlen hsz u1 u2 hblk3 o3 o4 o5 o6
    clear c1 hown1 hgrow hg hgl s0 s1 s2 s3 x0 x1 x4 q0 q1 g0 g1 g2 g3 g4 f0 f1 f2 f3 f4 hown hO hpO hqO hne hlt0 H1 H2 H3 H4 H5 HG HB HA B6 HS
    generalize w1.setCell ⟨pb, 4, none⟩ (.slice (some ⟨g, 0, none⟩) (k + 1) cp) = W3 at *
    by_cases hlt : k + 1 < b.size
    · have ea : s.after b (rk, rn) = s ∧ b.after (rk, rn) = b.added (rk, rn) := by
        unfold SSt.after BSt.after; rw [← Hk.out, if_pos hlt, if_pos hlt]; exact ⟨rfl, rfl⟩
      have EA := Lib.hid ea; clear ea
      go_wp2_with fail
      go_quiet (fail)
      go_wp2
      go_ret
      refine ⟨rfl, ?_⟩
      rw [EA.out.1, EA.out.2]
      obtain ⟨K3, k1, k2, k3⟩ := L3'.out
      refine ⟨K3, k1.step (below_drewN (Below.refl _ _) _), ?_, fun x hx => ?_⟩
      · rw [HKK.out]
        exact (((Chg.of_below BW.out : Chg (F ++ G) w w2).trans k2 (fun x hx => .inl hx))).drewN _
      · rcases k3 x hx with g | g
        · left; rw [HKK.out]; exact g
        · right; have := BW.out.size; omega
    · have ea : s.after b (rk, rn) = s.flushed (b.added (rk, rn)) ∧ b.after (rk, rn) = (b.added (rk, rn)).flushed := by
        unfold SSt.after BSt.after; rw [← Hk.out, if_neg hlt, if_neg hlt]; exact ⟨rfl, rfl⟩
      have EA := Lib.hid ea; clear ea
      go_wp2_with fail
      go_quiet (fail)
      go_wp2_with fail
      obtain ⟨K3, k1, k2, k3⟩ := L3'.out
      have K2 := Lib.hid k2; clear k2
      have K3' := Lib.hid k3; clear k3
      refine (flush_someK (k1.step (below_drewN (Below.refl _ _) _)) (by intro e; have := HLN.out; rw [e] at this; simp at this) (by rw [HLN.out]; omega) ha (by rw [HLN.out]; exact hroom) hr47 hnx (by rw [HLN.out]; exact hsu)).mono ?_
      rintro e w9 ⟨rfl, h9⟩
      have H9 := Lib.hid h9; clear h9
      go_wp2
      go_ret
      refine ⟨rfl, ?_⟩
      rw [EA.out.1, EA.out.2]
      obtain ⟨K4, j1, j2, j3⟩ := H9.out
      have c0 : Chg K w W3 := by rw [HKK.out]; exact (Chg.of_below BW.out : Chg (F ++ G) w w2).trans K2.out (fun x hx => .inl hx)
      have hsw := c0.size
      have hk3 : ∀ x ∈ K3, x ∈ K ∨ w.heap.size ≤ x := fun x hx => by
        rcases K3'.out x hx with g | g
        · left; rw [HKK.out]; exact g
        · right; have := BW.out.size; omega
      refine ⟨K4, j1, (c0.drewN _).trans j2 hk3, fun x hx => ?_⟩
      rcases j3 x hx with g | g
      · exact hk3 x g
      · right; have : W3.heap.size ≤ x := g; omega
theorem flush_some {w0 w : World} {p pb : Nat} {s : SSt} {b : BSt} (h : Log w0 w p pb s b) (hn : b.wait ≠ []) (hl : b.wait.length ≤ 100) (ha : s.armed = false) (hroom : s.bs.length + 30 + 11 * b.wait.length ≤ s.room) (hr47 : s.room ≤ 140737488355328) (hnx : b.next + 1 ≤ 1099511627776) (hsu : b.sure + b.wait.length ≤ 1099511627776) :
    Calls Try.prog 12 #[.pointer (some ⟨pb, 0, none⟩)] w fun e w' => e = .returned (.int .i64 0) ∧ Log w0 w' p pb (s.flushed b) b.flushed := by
  obtain ⟨K, hK⟩ := h.k
  exact (flush_someK hK hn hl ha hroom hr47 hnx hsu).mono fun e w' ⟨h1, h2⟩ => ⟨h1, h2.log⟩
theorem add_any {w0 w : World} {p pb : Nat} {s : SSt} {b : BSt} (h : Log w0 w p pb s b) (r : Rec) (hr : Rec.ok r) (hl : b.wait.length + 1 ≤ 100) (ha : s.armed = false) (hroom : s.bs.length + 30 + 11 * (b.wait.length + 1) ≤ s.room) (hr47 : s.room ≤ 140737488355328) (hnx : b.next + 1 ≤ 1099511627776) (hsu : b.sure + (b.wait.length + 1) ≤ 1099511627776) :
    Calls Try.prog 11 #[.pointer (some ⟨pb, 0, none⟩), .agg #[.int .i64 r.1, .int .u64 (r.2 : Int)]] w fun e w' => e = .returned (.int .i64 0) ∧ Log w0 w' p pb (s.after b r) (b.after r) := by
  obtain ⟨K, hK⟩ := h.k
  exact (add_anyK hK r hr hl ha hroom hr47 hnx hsu).mono fun e w' ⟨h1, h2⟩ => ⟨h1, h2.log⟩
set_option maxRecDepth 100000 in
set_option maxHeartbeats 1000000 in
theorem add_bad {w0 w : World} {p pb : Nat} {s : SSt} {b : BSt} (h : Log w0 w p pb s b) (rk rn e : Int) (he : checkV rk rn = e) (hne : e ≠ 0) :
    Calls Try.prog 11 #[.pointer (some ⟨pb, 0, none⟩), .agg #[.int .i64 rk, .int .u64 rn]] w fun r w' => r = .returned (.int .i64 e) ∧ Below w.heap.size w w' := by
  have HE := Lib.hid he; clear he
  have hn : (e != 0) = true := by rw [bne_iff_ne]; exact hne
  go_enter Try.func11, Try.ntmps11
  go_wp2_with fail
  refine (check_any rk rn _).mono ?_
  rintro r w2 ⟨rfl, hb2⟩
  rw [HE.out]
  have B2 := Lib.hid (below_on (below_alloc1 _ _) hb2); clear hb2 hne
  go_wp2
  go_ret
  exact ⟨rfl, B2.out⟩
end Go.Proofs.Ytnpmapmdeldnmaa
