/-
  A book beside its store; the walks of its calls.
-/
import Derived.Test.YtnpmapmdeldnmaaWLog1
import Derived.Test.YtnpmapmdeldnmaaWStore5
import Derived.Deep.DrawnRows
open Go Go.RowKit
set_option linter.unusedVariables false
namespace Go.Proofs.Ytnpmapmdeldnmaa
/-- A book. -/
structure BSt where
  size : Nat
  next : Nat
  sure : Nat
  wait : List Rec
def BSt.ok (b : BSt) : Prop := 1 ≤ b.size ∧ b.size ≤ 400 ∧ b.next ≤ 1099511627776 ∧ b.sure ≤ 1099511627776 ∧ b.wait.length ≤ 400 ∧ ∀ r ∈ b.wait, Rec.ok r
def BSt.cells (b : BSt) (p : Nat) (v : Value) : List Value := [.pointer (some ⟨p, 0, none⟩), .int .i64 (b.size : Int), .int .u64 (b.next : Int), .int .i64 (b.sure : Int), v]
def BookAt (w : World) (pb p : Nat) (b : BSt) (G : List Nat) : Prop :=
  b.ok ∧ ∃ v, G = pb :: v.ownBlock.toList ∧ v.ownBlock ≠ some pb ∧ Blk w pb (b.cells p v) ∧ w.ownsRow 0 38 2 v b.wait.length (recCells b.wait)
theorem BookAt.chg {w w' : World} {pb p : Nat} {b : BSt} {G F : List Nat} (h : BookAt w pb p b G) (c : Chg F w w') (hd : ∀ x ∈ G, x ∉ F) : BookAt w' pb p b G := by
  obtain ⟨h0, v, rfl, h2, h3, h4⟩ := h
  exact ⟨h0, v, rfl, h2, h3.chg c (hd pb (by simp)), owns_chg h4 c (fun g hg => hd g (by simp [hg]))⟩
theorem BookAt.lt {w : World} {pb p : Nat} {b : BSt} {G : List Nat} (h : BookAt w pb p b G) : ∀ x ∈ G, x < w.heap.size := by
  obtain ⟨h0, v, rfl, h2, h3, h4⟩ := h
  intro x hx
  simp at hx
  rcases hx with rfl | hx
  · exact h3.lt (by simp [BSt.cells])
  · exact owns_lt h4 x hx
theorem BookAt.open {w : World} {pb p : Nat} {b : BSt} {G : List Nat} (h : BookAt w pb p b G) : ∃ a cap, G = pb :: (Value.ownBlock (.slice a b.wait.length cap)).toList ∧ Value.ownBlock (.slice a b.wait.length cap) ≠ some pb ∧
    Blk w pb (b.cells p (.slice a b.wait.length cap)) ∧ w.ownsRow 0 38 2 (.slice a b.wait.length cap) b.wait.length (recCells b.wait) ∧ RecsAt w a b.wait ∧ b.ok := by
  obtain ⟨h0, v, rfl, h2, h3, h4⟩ := h
  obtain ⟨a, cap, rfl, _, _, h5⟩ := RecsAt.of_own h4
  exact ⟨a, cap, rfl, h2, h3, h4, h5, h0⟩
theorem BSt.at (b : BSt) {w : World} {p pb : Nat} {v : Value} (h : Blk w pb (b.cells p v)) :
    (w.cell? ⟨pb, 0, none⟩ = some (.pointer (some ⟨p, 0, none⟩)) ∧ w.cell? ⟨pb, 1, none⟩ = some (.int .i64 (b.size : Int)) ∧ w.cell? ⟨pb, 2, none⟩ = some (.int .u64 (b.next : Int)) ∧ w.cell? ⟨pb, 3, none⟩ = some (.int .i64 (b.sure : Int)) ∧ w.cell? ⟨pb, 4, none⟩ = some v) ∧
    (w.frozen? ⟨pb, 0, none⟩ = false ∧ w.frozen? ⟨pb, 1, none⟩ = false ∧ w.frozen? ⟨pb, 2, none⟩ = false ∧ w.frozen? ⟨pb, 3, none⟩ = false ∧ w.frozen? ⟨pb, 4, none⟩ = false) :=
  ⟨⟨(h 0 _ rfl).1, (h 1 _ rfl).1, (h 2 _ rfl).1, (h 3 _ rfl).1, (h 4 _ rfl).1⟩, (h 0 _ rfl).2, (h 1 _ rfl).2, (h 2 _ rfl).2, (h 3 _ rfl).2, (h 4 _ rfl).2⟩
/-- A store and its book, all of them made behind w0. -/
def Log (w0 w : World) (p pb : Nat) (s : SSt) (b : BSt) : Prop :=
  ∃ F G, StoreAt w p s F ∧ BookAt w pb p b G ∧ (∀ x ∈ G, x ∉ F) ∧ (∀ x ∈ F, w0.heap.size ≤ x) ∧ (∀ x ∈ G, w0.heap.size ≤ x) ∧ Below w0.heap.size w0 w
/-- .. and which blocks are theirs. -/
def LogK (w0 w : World) (p pb : Nat) (s : SSt) (b : BSt) (K : List Nat) : Prop :=
  ∃ F G, StoreAt w p s F ∧ BookAt w pb p b G ∧ (∀ x ∈ G, x ∉ F) ∧ (∀ x ∈ F, w0.heap.size ≤ x) ∧ (∀ x ∈ G, w0.heap.size ≤ x) ∧ Below w0.heap.size w0 w ∧ K = F ++ G
theorem LogK.log {w0 w : World} {p pb : Nat} {s : SSt} {b : BSt} {K : List Nat} (h : LogK w0 w p pb s b K) : Log w0 w p pb s b := by
  obtain ⟨F, G, h1, h2, h3, h4, h5, h6, _⟩ := h; exact ⟨F, G, h1, h2, h3, h4, h5, h6⟩
theorem Log.k {w0 w : World} {p pb : Nat} {s : SSt} {b : BSt} (h : Log w0 w p pb s b) : ∃ K, LogK w0 w p pb s b K := by
  obtain ⟨F, G, h1, h2, h3, h4, h5, h6⟩ := h; exact ⟨F ++ G, F, G, h1, h2, h3, h4, h5, h6, rfl⟩
theorem LogK.step {w0 w w' : World} {p pb : Nat} {s : SSt} {b : BSt} {K : List Nat} (h : LogK w0 w p pb s b K) (hb : Below w.heap.size w w') : LogK w0 w' p pb s b K := by
  obtain ⟨F, G, h1, h2, h3, h4, h5, h6, h7⟩ := h
  exact ⟨F, G, h1.chg (Chg.of_below (F := []) hb) (fun _ _ => by simp), h2.chg (Chg.of_below (F := []) hb) (fun _ _ => by simp), h3, h4, h5, below_on h6 hb, h7⟩
theorem LogK.lt {w0 w : World} {p pb : Nat} {s : SSt} {b : BSt} {K : List Nat} (h : LogK w0 w p pb s b K) : ∀ x ∈ K, x < w.heap.size := by
  obtain ⟨F, G, h1, h2, h3, h4, h5, h6, rfl⟩ := h
  intro x hx
  rw [List.mem_append] at hx
  rcases hx with hx | hx
  · exact h1.lt x hx
  · exact h2.lt x hx
/-- What a call leaves that changes the log alone. -/
def LogTo (w0 w w' : World) (p pb : Nat) (s : SSt) (b : BSt) (K : List Nat) : Prop := ∃ K', LogK w0 w' p pb s b K' ∧ Chg K w w' ∧ ∀ x ∈ K', x ∈ K ∨ w.heap.size ≤ x
theorem Log.step {w0 w w' : World} {p pb : Nat} {s : SSt} {b : BSt} (h : Log w0 w p pb s b) (hb : Below w.heap.size w w') : Log w0 w' p pb s b := by
  obtain ⟨F, G, h1, h2, h3, h4, h5, h6⟩ := h
  exact ⟨F, G, h1.chg (Chg.of_below (F := []) hb) (fun _ _ => by simp), h2.chg (Chg.of_below (F := []) hb) (fun _ _ => by simp), h3, h4, h5, below_on h6 hb⟩
theorem Log.bel {w0 w : World} {p pb : Nat} {s : SSt} {b : BSt} (h : Log w0 w p pb s b) : Below w0.heap.size w0 w := by obtain ⟨F, G, h1, h2, h3, h4, h5, h6⟩ := h; exact h6
theorem Log.bok {w0 w : World} {p pb : Nat} {s : SSt} {b : BSt} (h : Log w0 w p pb s b) : b.ok := by obtain ⟨F, G, h1, h2, h3, h4, h5, h6⟩ := h; exact h2.1
theorem Log.sok {w0 w : World} {p pb : Nat} {s : SSt} {b : BSt} (h : Log w0 w p pb s b) : s.ok := by obtain ⟨F, G, h1, h2, h3, h4, h5, h6⟩ := h; exact h1.1
theorem Log.append {w0 w w' : World} {p pb : Nat} {s s' : SSt} {b : BSt} {F : List Nat} {G : List Nat} (h1 : StoreAt w p s F) (h2 : BookAt w pb p b G) (h3 : ∀ x ∈ G, x ∉ F) (h4 : ∀ x ∈ F, w0.heap.size ≤ x) (h5 : ∀ x ∈ G, w0.heap.size ≤ x) (h6 : Below w0.heap.size w0 w)
    (c : Chg F w w') (hx : ∃ F', StoreAt w' p s' F' ∧ ∀ x ∈ F', x ∈ F ∨ w.heap.size ≤ x) : Log w0 w' p pb s' b := by
  obtain ⟨F', g1, g2⟩ := hx
  refine ⟨F', G, g1, h2.chg c h3, fun x hx hF => ?_, fun x hx => ?_, h5, Chg.below h6 c h4⟩
  · rcases g2 x hF with g | g
    · exact h3 x hx g
    · have := h2.lt x hx; omega
  · rcases g2 x hx with g | g
    · exact h4 x g
    · exact Nat.le_trans h6.size g
set_option maxRecDepth 100000 in
set_option maxHeartbeats 1000000 in
theorem lsure_any {w0 w : World} {p pb : Nat} {s : SSt} {b : BSt} (h : Log w0 w p pb s b) :
    Calls Try.prog 8 #[.pointer (some ⟨pb, 0, none⟩)] w fun e w' => e = .returned (.int .i64 (b.sure : Int)) ∧ w = w' := by
  obtain ⟨F, G, h1, h2, h3, h4, h5, h6⟩ := h
  obtain ⟨a, cap, _, _, hblk, _⟩ := h2.open
  obtain ⟨⟨g0, g1, g2, g3, g4⟩, _⟩ := b.at hblk
  clear h1 h2 h3 h4 h5 h6 hblk
  go_enter Try.func8, Try.ntmps8
  go_wp2
  go_ret
  exact ⟨rfl, rfl⟩
set_option maxRecDepth 100000 in
set_option maxHeartbeats 1000000 in
theorem lwait_any {w0 w : World} {p pb : Nat} {s : SSt} {b : BSt} (h : Log w0 w p pb s b) :
    Calls Try.prog 9 #[.pointer (some ⟨pb, 0, none⟩)] w fun e w' => e = .returned (.int .i64 (b.wait.length : Int)) ∧ w = w' := by
  obtain ⟨F, G, h1, h2, h3, h4, h5, h6⟩ := h
  obtain ⟨a, cap, _, _, hblk, _⟩ := h2.open
  obtain ⟨⟨g0, g1, g2, g3, g4⟩, _⟩ := b.at hblk
  clear h1 h2 h3 h4 h5 h6 hblk
  go_enter Try.func9, Try.ntmps9
  go_wp2
  go_ret
  exact ⟨rfl, rfl⟩
theorem free_append (s : SSt) (t : List UInt8) (h : s.armed = false) (hr : s.bs.length + t.length ≤ s.room) : s.append t = { s with bs := s.bs ++ t } ∧ s.appendE t = 0 := by
  have hm : s.may = true := by simp [SSt.may, h]
  have hc : s.call = s := by simp [SSt.call, h]
  exact ⟨by simp [SSt.append, hm, hr, hc], by simp [SSt.appendE, hm, hr]⟩
theorem free_sync (s : SSt) (h : s.armed = false) : s.sync = { s with safe := s.bs.length } ∧ s.syncE = 0 := by
  have hm : s.may = true := by simp [SSt.may, h]
  have hc : s.call = s := by simp [SSt.call, h]
  exact ⟨by simp [SSt.sync, hm, hc], by simp [SSt.syncE, hm]⟩
/-- The store behind a flush; the book. -/
def SSt.flushed (s : SSt) (b : BSt) : SSt := if b.wait = [] then s else { s with bs := s.bs ++ frameL b.next (bytesL b.wait), safe := (s.bs ++ frameL b.next (bytesL b.wait)).length }
def BSt.flushed (b : BSt) : BSt := if b.wait = [] then b else { b with next := b.next + 1, sure := b.sure + b.wait.length, wait := [] }
set_option maxRecDepth 100000 in
set_option maxHeartbeats 1000000 in
theorem flush_nil {w0 w : World} {p pb : Nat} {s : SSt} {b : BSt} (h : Log w0 w p pb s b) (hn : b.wait = []) :
    Calls Try.prog 12 #[.pointer (some ⟨pb, 0, none⟩)] w fun e w' => e = .returned (.int .i64 0) ∧ w = w' := by
  obtain ⟨F, G, h1, h2, h3, h4, h5, h6⟩ := h
  obtain ⟨a, cap, _, _, hblk, _⟩ := h2.open
  obtain ⟨⟨g0, g1, g2, g3, g4⟩, _⟩ := b.at hblk
  rw [hn] at g4
  clear h1 h2 h3 h4 h5 h6 hblk
  go_enter Try.func12, Try.ntmps12
  go_wp2
  go_ret
  exact ⟨rfl, rfl⟩
set_option maxRecDepth 100000 in
set_option maxHeartbeats 2000000 in
theorem flush_someK {w0 w : World} {p pb : Nat} {s : SSt} {b : BSt} {K : List Nat} (h : LogK w0 w p pb s b K) (hn : b.wait ≠ []) (hl : b.wait.length ≤ 100) (ha : s.armed = false) (hroom : s.bs.length + 30 + 11 * b.wait.length ≤ s.room) (hr47 : s.room ≤ 140737488355328) (hnx : b.next + 1 ≤ 1099511627776) (hsu : b.sure + b.wait.length ≤ 1099511627776) :
    Calls Try.prog 12 #[.pointer (some ⟨pb, 0, none⟩)] w fun e w' => e = .returned (.int .i64 0) ∧ LogTo w0 w w' p pb (s.flushed b) b.flushed K := by
  have es : s.flushed b = { s with bs := s.bs ++ frameL b.next (bytesL b.wait), safe := (s.bs ++ frameL b.next (bytesL b.wait)).length } := by unfold SSt.flushed; rw [if_neg hn]
  have eb : b.flushed = { b with next := b.next + 1, sure := b.sure + b.wait.length, wait := [] } := by unfold BSt.flushed; rw [if_neg hn]
  have ES := Lib.hid es; clear es
  have EB := Lib.hid eb; clear eb
  obtain ⟨F, G, h1, h2, h3, h4, h5, h6, hK⟩ := h
  have HKK := Lib.hid hK; clear hK
  obtain ⟨a, cap, hG, hne, hblk, hown, hat, hok⟩ := h2.open
  obtain ⟨⟨g0, g1, g2, g3, g4⟩, f0, f1, f2, f3, f4⟩ := b.at hblk
  have hpos : 0 < b.wait.length := List.length_pos_iff.2 hn
  have hbl := bytesL_len b.wait
  have hok2 : ∀ r ∈ b.wait, Rec.ok r := hok.2.2.2.2.2
  have hs47 := h1.1.2.2.2.2
  have hsr := h1.1.2.1
  obtain ⟨k, hk⟩ : ∃ k, k = b.wait.length := ⟨_, rfl⟩
  rw [← hk] at g4 hpos hbl hl hroom
  have Hk := Lib.hid hk; clear hk
  have Hok := Lib.hid hok2; clear hok2 hn
  have HA := Lib.hid hat; clear hat
  have HB := Lib.hid hblk; clear hblk
  have HG := Lib.hid hG; clear hG hown hne hok
  have H1 := Lib.hid h1; clear h1
  have H2 := Lib.hid h2; clear h2
  have H3 := Lib.hid h3; clear h3
  have H4 := Lib.hid h4; clear h4
  have H5 := Lib.hid h5; clear h5
  have H6 := Lib.hid h6; clear h6
  have C2 := Lib.hid g2
  have C4 := Lib.hid g4
  obtain ⟨nx, hnx2⟩ : ∃ nx, nx = b.next := ⟨_, rfl⟩
  rw [← hnx2] at g2 C2 hnx
  have Hnx := Lib.hid hnx2; clear hnx2
  obtain ⟨T, hT⟩ : ∃ T, T = ByteArray.mk (bytesL b.wait).toArray := ⟨_, rfl⟩
  have hTs : T.size ≤ 1100 := by rw [hT, size_list]; show (bytesL b.wait).length ≤ 1100; omega
  have hTl : T.data.toList = bytesL b.wait := by rw [hT]
  have HT := Lib.hid hT; clear hT
  have HTl := Lib.hid hTl; clear hTl
  go_enter Try.func12, Try.ntmps12
  go_wp2_with fail
  go_region_held3 (fun w' => w'.cell? ⟨pb, 2, none⟩ = some (.int .u64 (nx : Int)) ∧ w'.cell? ⟨pb, 4, none⟩ = some (.slice a k cap) ∧ Below w.heap.size w w')
    ((refine st2_of C2 C4 ?_; repeat (first | exact Below.refl _ _ | exact st2_b (by assumption) | refine below_on ?_ hb5 | refine below_on ?_ hb6 | refine Below.drew ?_)))
    (first
      | (go_at_call 21; rw [Hk.out]; refine (bytes_any a cap b.wait _ (by have := Hk.out; omega) Hok.out (HA.out.below (st2_b (by assumption)))).mono ?_; rw [← Hk.out]; rintro e w5 ⟨rfl, hb5⟩; rw [← HT.out])
      | (go_at_call 20; refine (frame_any nx T _ (by omega) (by omega)).mono ?_; rintro e w6 ⟨rfl, hb6⟩))
  all_goals
    have bl : Below w.heap.size w w6 := st2_b (by assumption)
    have p0 := cell_below g0 bl
    have S6 := Lib.hid (H1.out.chg (Chg.of_below (F := []) bl) (fun _ _ => by simp))
    have K6 := Lib.hid (H2.out.chg (Chg.of_below (F := []) bl) (fun _ _ => by simp))
    have B6 := Lib.hid (below_on H6.out bl)
    have C6 : Hid (Chg K w w6) := Lib.hid (Chg.of_below bl)
    have hs6 := bl.size
    rw [HTl.out]
    obtain ⟨FR, hFR⟩ : ∃ FR, FR = ByteArray.mk (frameL nx (bytesL b.wait)).toArray := ⟨_, rfl⟩
    rw [← hFR]
    have hFRl : FR.data.toList = frameL nx (bytesL b.wait) := by rw [hFR]
    have hFRs : FR.size ≤ 28 + 11 * k := by rw [size_list, hFRl, frameL_len]; have := putL_len nx; have := putL_len (bytesL b.wait).length; omega
    obtain ⟨fa1, fa2⟩ := free_append s FR.data.toList ha (by rw [← size_list]; omega)
    have FA := Lib.hid (And.intro fa1 fa2); clear fa1 fa2 hFR
    have HFR := Lib.hid hFRl; clear hFRl
    clear bl hb5 hb6 g0 g1 g2 g3 g4 f0 f1 f2 f3 f4
    go_wp2_with fail
    refine (sapp_any p s F FR _ S6.out (by omega)).mono ?_
    rintro e w7 ⟨rfl, c7, F7, s7, n7⟩
    rw [FA.out.2]
    rw [FA.out.1] at s7
    have k7 := K6.out.chg c7 H3.out
    obtain ⟨a7, cap7, _, _, hblk7, _⟩ := k7.open
    obtain ⟨⟨q0, _⟩, _⟩ := b.at hblk7
    clear k7 hblk7
    have k7 := K6.out.chg c7 H3.out
    have d7 : ∀ x ∈ G, x ∉ F7 := fun x hx hF => by
      rcases n7 x hF with g | g
      · exact H3.out x hx g
      · have := K6.out.lt x hx; omega
    have e7 : ∀ x ∈ F7, w0.heap.size ≤ x := fun x hx => by
      rcases n7 x hx with g | g
      · exact H4.out x g
      · exact Nat.le_trans B6.out.size g
    have m7 := Chg.below B6.out c7 H4.out
    have J7 := Lib.hid H5.out
    have N7 : Hid (∀ x ∈ F7, x ∈ K ∨ w.heap.size ≤ x) := Lib.hid (fun x hx => by
      rcases n7 x hx with g | g
      · left; rw [HKK.out]; simp [g]
      · right; omega)
    have C7 : Hid (Chg K w w7) := Lib.hid (C6.out.trans c7 (fun x hx => by left; rw [HKK.out]; simp [hx]))
    clear c7 n7 p0 S6 K6 B6 H1 H2 H3 H4 H5 H6 HG HB HA C2 C4 C6
    obtain ⟨fs1, fs2⟩ := free_sync { s with bs := s.bs ++ FR.data.toList } ha
    have FS := Lib.hid (And.intro fs1 fs2); clear fs1 fs2
    have S7 := Lib.hid s7; clear s7
    have K7 := Lib.hid k7; clear k7
    have D7 := Lib.hid d7; clear d7
    have E7 := Lib.hid e7; clear e7
    have M7 := Lib.hid m7; clear m7
    go_wp2_with fail
    refine (sync_any p _ F7 _ S7.out).mono ?_
    rintro e w8 ⟨rfl, s8, c8⟩
    rw [FS.out.2]
    rw [FS.out.1] at s8
    have k8 := K7.out.chg c8 D7.out
    obtain ⟨a8, cap8, hG8, hne8, hblk8, hown8, hat8, hok8⟩ := k8.open
    obtain ⟨⟨r0, r1, r2, r3, r4⟩, t0, t1, t2, t3, t4⟩ := b.at hblk8
    rw [← Hnx.out] at r2
    rw [← Hk.out] at r4
    obtain ⟨su, hsu2⟩ : ∃ su, su = b.sure := ⟨_, rfl⟩
    rw [← hsu2] at r3 hsu
    rw [← Hk.out] at hsu
    have HSU := Lib.hid hsu2; clear hsu2
    have S8 := Lib.hid s8; clear s8
    have M8 := Lib.hid (Chg.below M7.out c8 E7.out)
    have C8 : Hid (Chg K w w8) := Lib.hid (C7.out.trans c8 N7.out); clear c8
    have HG8 := Lib.hid hG8; clear hG8
    have HB8 := Lib.hid hblk8; clear hblk8
    have HOK := Lib.hid hok8; clear hok8 k8 hown8 hat8 hne8
    clear q0 S7 K7 M7 FA
    go_wp2_with fail
    go_region
    go_wp2
    go_ret
    refine ⟨rfl, ?_⟩
    have c9 : Chg [pb] w8 (((w8.setCell ⟨pb, 2, none⟩ (.int .u64 ((nx : Int) + 1))).setCell ⟨pb, 3, none⟩ (.int .i64 ((su : Int) + (k : Int)))).setCell ⟨pb, 4, none⟩ (.slice none 0 0)).drew :=
      ((((Chg.refl _ _).setCell _ (.inl (by simp))).setCell _ (.inl (by simp))).setCell _ (.inl (by simp))).drew
    have hblk9 := (((HB8.out.set 2 (.int .u64 ((nx : Int) + 1))).set 3 (.int .i64 ((su : Int) + (k : Int)))).set 4 (.slice none 0 0)).below (below_drew1 _)
    have hpG : pb ∈ G := by rw [HG8.out]; simp
    have hpF : pb ∉ F7 := D7.out pb hpG
    have hpw : w0.heap.size ≤ pb := J7.out pb hpG
    obtain ⟨o1, o2, o3, o4, o5, o6⟩ := HOK.out
    have s8' := S8.out
    rw [HFR.out, Hnx.out] at s8'
    rw [ES.out, EB.out]
    have hpK : pb ∈ K := by rw [HKK.out]; simp [hpG]
    refine ⟨F7 ++ [pb], ?_, C8.out.trans c9 (fun x hx => by simp at hx; subst hx; exact .inl hpK), fun x hx => by
      rw [List.mem_append, List.mem_singleton] at hx
      rcases hx with hx | rfl
      · exact N7.out x hx
      · exact .inl hpK⟩
    refine ⟨F7, [pb], s8'.chg c9 (fun x hx => by simp; intro e; subst e; exact hpF hx), ⟨⟨o1, o2, by rw [← Hnx.out]; exact hnx, ?_, by simp, fun r hr => by simp at hr⟩, .slice none 0 0, by simp [Value.ownBlock], by simp [Value.ownBlock], ?_, World.ownsRow_nil _ _ _ _⟩, fun x hx => ?_, E7.out, fun x hx => ?_, ?_, rfl⟩
    · show b.sure + b.wait.length ≤ _
      rw [← HSU.out, ← Hk.out]; exact hsu
    · have e1 : (((b.cells p (.slice a8 b.wait.length cap8)).set 2 (.int .u64 ((nx : Int) + 1))).set 3 (.int .i64 ((su : Int) + (k : Int)))).set 4 (.slice none 0 0) = BSt.cells { b with next := b.next + 1, sure := b.sure + b.wait.length, wait := [] } p (.slice none 0 0) := by
        rw [Hnx.out, HSU.out, Hk.out]; simp [BSt.cells]
      rw [e1] at hblk9
      exact hblk9
    · simp at hx; subst hx; exact hpF
    · simp at hx; subst hx; exact hpw
    · exact Chg.below M8.out c9 (fun x hx => by simp at hx; subst hx; exact hpw)
theorem LogTo.log {w0 w w' : World} {p pb : Nat} {s : SSt} {b : BSt} {K : List Nat} (h : LogTo w0 w w' p pb s b K) : Log w0 w' p pb s b := by obtain ⟨K', h1, _⟩ := h; exact h1.log
end Go.Proofs.Ytnpmapmdeldnmaa
