/-
  What a frame's instructions do.
-/
import Derived.Test.YtfllplfpeibocaaWFr2
open Go Go.RowKit
set_option linter.unusedVariables false
namespace Go.Proofs.Ytfllplfpeibocaa
theorem run_lookup_hit {P : Program} {w : World} {mty kt et : TypeId} {r c : Nat} {n : Int} {es : List MapEntry} {i : Nat} {v : Value} (hm : P.underlying mty = some (.map kt et)) (hk : P.underlying kt = some (.int .i64)) (hb : MapAt w r es c)
    (hf : Instr.findNow (.int .i64) (.int .i64 n) es 0 = some (some (i, v))) : (Instr.lookup mty (.map (some r)) (.int .i64 n) true).run P w = .ok (.tuple #[v, .bool true]) w := by
  have hc : ∀ b, (Instr.checkKey b 10000 kt (.int .i64 n)).run P w = .ok () w := fun b => MapKept.run_checkKey (k := .int .i64 n) hk (by simp [MapKept.IsKey]) b 9999
  have hb' : w.heap[r]? = some (.map es.toArray c) := hb
  simp [Instr.lookup, run_underlying hm, MapKept.run_getObj_map hb', hc, MapKept.run_findKey hk hf, Result.andThen]
theorem run_lookup_miss {P : Program} {w : World} {mty kt et : TypeId} {r c : Nat} {n : Int} {es : List MapEntry} {z : Value} (hm : P.underlying mty = some (.map kt et)) (hk : P.underlying kt = some (.int .i64)) (hb : MapAt w r es c)
    (hz : (zeroValue et).run P w = .ok z w) (hf : Instr.findNow (.int .i64) (.int .i64 n) es 0 = some none) : (Instr.lookup mty (.map (some r)) (.int .i64 n) true).run P w = .ok (.tuple #[z, .bool false]) w := by
  have hc : ∀ b, (Instr.checkKey b 10000 kt (.int .i64 n)).run P w = .ok () w := fun b => MapKept.run_checkKey (k := .int .i64 n) hk (by simp [MapKept.IsKey]) b 9999
  have hb' : w.heap[r]? = some (.map es.toArray c) := hb
  simp [Instr.lookup, run_underlying hm, MapKept.run_getObj_map hb', hc, MapKept.run_findKey hk hf, hz, Result.andThen]
theorem enters_const (args : Array Value) (w : World) : (callFunc 16 args).run Try.prog w = .ok (.enter 16 args) w := by kernel_rfl
theorem enters_add (args : Array Value) (w : World) : (callFunc 18 args).run Try.prog w = .ok (.enter 18 args) w := by kernel_rfl
theorem below_drewN1 (w : World) (k : Nat) : Below w.heap.size w (w.drewN k) := ⟨rfl, rfl, rfl, Nat.le_refl _, fun _ _ => rfl⟩
set_option maxRecDepth 100000 in
set_option maxHeartbeats 2000000 in
theorem constant_any (g o a n cap : Nat) (z : List Int) (b c : Int) (w : World) (ha : a < 8) (h : StkAt w g n cap z) (ho : o + 11 ≤ n * 11) :
    Calls Try.prog 16 #[.pointer (some ⟨g, o, none⟩), .agg #[.int .i64 1, .int .i64 a, .int .i64 b, .int .i64 c]] w fun e w' => e = .returned (.tuple #[]) ∧ Chg [g] w w' ∧ StkAt w' g n cap (z.set (o + 2 + a) b) := by
  have a0 : (0 : Int) ≤ (a : Int) := by omega
  have a8 : (a : Int) < 8 := by omega
  obtain ⟨x, -, h1, h2⟩ := h.cell (o + 2 + a) (by omega)
  have h1' : ∀ q, (w.alloc q).cell? ⟨g, o + 2 + a, none⟩ = some (.int .i64 x) := fun q => cell_below h1 (below_alloc1 w q)
  have h2' : ∀ q, (w.alloc q).frozen? ⟨g, o + 2 + a, none⟩ = false := fun q => by rw [(below_alloc1 w q).frozen (p := ⟨g, o + 2 + a, none⟩) h.lt]; exact h2
  have H := Lib.hid h
  have hlt := h.lt
  have hw : w.heap.size ≠ g := by omega
  clear h h1 h2
  go_enter Try.func16, Try.ntmps16
  go_wp2_with fail
  go_region
  go_wp2_with fail
  go_end0
  refine ⟨rfl, ?_, ?_⟩
  · exact (((Chg.refl _ _).setCell _ (.inl (by simp))).trans (Chg.of_below (F := []) (below_alloc1 _ _)) (by simp)).drew
  · exact ((H.out.set _ _).below (below_alloc1 _ _)).below (below_drew1 _)
set_option maxRecDepth 100000 in
set_option maxHeartbeats 2000000 in
theorem pure_any (g o n cap fk i : Nat) (z z' : List Int) (op a b c at0 : Int) (w : World) (h : StkAt w g n cap z) (hz : z[o + 1]? = some at0) (hat : 0 ≤ at0 ∧ at0 < 1000)
    (hf : Instr.findNow (.int .i64) (.int .i64 op) tableEs 0 = some (some (i, .func (.func fk) #[] #[]))) (eg : ∀ args w, (callFunc fk args).run Try.prog w = .ok (.enter fk args) w)
    (hcal : ∀ w', StkAt w' g n cap (z.set (o + 1) (at0 + 1)) → Calls Try.prog fk #[.pointer (some ⟨g, o, none⟩), .agg #[.int .i64 op, .int .i64 a, .int .i64 b, .int .i64 c]] w' fun e w'' => e = .returned (.tuple #[]) ∧ Chg [g] w' w'' ∧ StkAt w'' g n cap z') :
    Calls Try.prog 10 #[.pointer (some ⟨g, o, none⟩), .agg #[.int .i64 op, .int .i64 a, .int .i64 b, .int .i64 c]] w fun e w' => e = .returned (.bool true) ∧ Chg [g] w w' ∧ StkAt w' g n cap z' := by
  have HF := Lib.hid hf
  have HC := Lib.hid hcal
  clear hf hcal
  have H := Lib.hid h
  have hlt := h.lt
  have hw : w.heap.size ≠ g := by omega
  have HZ := Lib.hid hz
  clear h hz
  go_enter Try.func10, Try.ntmps10
  go_wp2_with fail
  have hx0 : Blk (w.alloc (Obj.cells #[Value.int IntKind.i64 op, Value.int IntKind.i64 a, Value.int IntKind.i64 b, Value.int IntKind.i64 c] 38)) w.heap.size [Value.int IntKind.i64 op, Value.int IntKind.i64 a, Value.int IntKind.i64 b, Value.int IntKind.i64 c] := Blk.mk w _ _ _ rfl
  have hB := below_alloc1 w (Obj.cells #[Value.int IntKind.i64 op, Value.int IntKind.i64 a, Value.int IntKind.i64 b, Value.int IntKind.i64 c] 38)
  generalize w.alloc (Obj.cells #[Value.int IntKind.i64 op, Value.int IntKind.i64 a, Value.int IntKind.i64 b, Value.int IntKind.i64 c] 38) = W0 at *
  have hxl := hx0.lt (by simp)
  obtain ⟨bx, hbx⟩ : ∃ bx, w.heap.size = bx := ⟨_, rfl⟩
  rw [hbx] at hx0 hB hxl hlt hw ⊢
  have HS := Lib.hid hbx
  clear hbx
  have HX := Lib.hid hx0
  have HB := Lib.hid hB
  clear hx0 hB
  have hld : ∀ w', Below W0.heap.size W0 w' → w'.cell? ⟨bx, 0, none⟩ = some (.int .i64 op) := fun w' hb => ((HX.out.below hb) 0 _ rfl).1
  have HL := Lib.hid hld
  clear hld
  go_region_held3 (fun w' => w'.cell? ⟨bx, 0, none⟩ = some (.int .i64 op) ∧ Below W0.heap.size W0 w') (first | exact ⟨HL.out _ (below_drew1 _), below_drew1 _⟩ | assumption | (have hq := below_on (below_drew1 W0) hb; exact ⟨HL.out _ hq, hq⟩)) ((go_at_call 14; refine (alone_any _).mono ?_; rintro e w1 ⟨rfl, hm, hb⟩; have hl : (Instr.lookup 46 (.map (some W0.heap.size)) (.int .i64 op) true).run Try.prog w1 = .ok (.tuple #[.func (.func fk) #[] #[], .bool true]) w1 := run_lookup_hit (n := op) Try.underlying46 Try.underlying36 hm HF.out))
  have bel : Below bx w w1 := HB.out.trans ((below_on (below_drew1 W0) hb).mono (by omega))
  have c1 : Chg [g] w w1 := Chg.of_below (by rw [HS.out]; exact bel)
  have h1 := H.out.chg (Chg.of_below (F := []) (by rw [HS.out]; exact bel)) (by simp)
  obtain ⟨y1, y2⟩ := h1.at HZ.out
  have hx1 : Blk w1 bx _ := HX.out.below (below_on (below_drew1 W0) hb)
  have x0 := (hx1 0 _ rfl).1
  have x1 := (hx1 1 _ rfl).1
  have x2 := (hx1 2 _ rfl).1
  have x3 := (hx1 3 _ rfl).1
  have hbg : (bx == g) = false := by simp; exact hw
  have H1 := Lib.hid h1
  have C1 := Lib.hid c1
  clear hl hm hb bel c1 h1 hx1 HL HB HX
  go_wp2_with fail
  refine (HC.out _ (H1.out.set _ _)).mono ?_
  rintro e w2 ⟨rfl, k1, k2⟩
  have K1 := Lib.hid k1
  have K2 := Lib.hid k2
  clear k1 k2
  go_wp2_with fail
  go_ret
  exact ⟨rfl, ((C1.out.setCell _ (.inl (by simp))).trans K1.out (fun x hx => .inl hx)), K2.out⟩
theorem pure_const (g o a n cap : Nat) (z : List Int) (b at0 : Int) (w : World) (ha : a < 8) (h : StkAt w g n cap z) (ho : o + 11 ≤ n * 11) (hz : z[o + 1]? = some at0) (hat : 0 ≤ at0 ∧ at0 < 1000) :
    Calls Try.prog 10 #[.pointer (some ⟨g, o, none⟩), .agg #[.int .i64 1, .int .i64 a, .int .i64 b, .int .i64 0]] w fun e w' => e = .returned (.bool true) ∧ Chg [g] w w' ∧ StkAt w' g n cap ((z.set (o + 1) (at0 + 1)).set (o + 2 + a) b) :=
  pure_any g o n cap _ 1 z _ 1 a b 0 at0 w h hz hat (by rfl) enters_const (fun w' h' => constant_any g o a n cap _ b 0 w' ha h' ho)
set_option maxRecDepth 100000 in
set_option maxHeartbeats 2000000 in
theorem add_any (g n cap : Nat) (z : List Int) (x y : Int) (w : World) (h : StkAt w g n cap z) (hn : 1 ≤ n) (hx : z[2]? = some x) (hy : z[3]? = some y) (bx : 0 ≤ x ∧ x ≤ 1000) (bY : 0 ≤ y ∧ y ≤ 1000) :
    Calls Try.prog 18 #[.pointer (some ⟨g, 0, none⟩), .agg #[.int .i64 3, .int .i64 2, .int .i64 0, .int .i64 1]] w fun e w' => e = .returned (.tuple #[]) ∧ Chg [g] w w' ∧ StkAt w' g n cap (z.set 4 (x + y)) := by
  obtain ⟨v, -, h1, h2⟩ := h.cell 4 (by omega)
  obtain ⟨h3, -⟩ := h.at hx
  obtain ⟨h4, -⟩ := h.at hy
  have h1' : ∀ q, (w.alloc q).cell? ⟨g, 4, none⟩ = some (.int .i64 v) := fun q => cell_below h1 (below_alloc1 w q)
  have h2' : ∀ q, (w.alloc q).frozen? ⟨g, 4, none⟩ = false := fun q => by rw [(below_alloc1 w q).frozen (p := ⟨g, 4, none⟩) h.lt]; exact h2
  have h3' : ∀ q, (w.alloc q).cell? ⟨g, 2, none⟩ = some (.int .i64 x) := fun q => cell_below h3 (below_alloc1 w q)
  have h4' : ∀ q, (w.alloc q).cell? ⟨g, 3, none⟩ = some (.int .i64 y) := fun q => cell_below h4 (below_alloc1 w q)
  have H := Lib.hid h
  have hlt := h.lt
  have hw : w.heap.size ≠ g := by omega
  clear h h1 h2 h3 h4 hx hy
  go_enter Try.func18, Try.ntmps18
  go_wp2_with fail
  go_region
  go_wp2_with fail
  go_end0
  refine ⟨rfl, ?_, ?_⟩
  · exact (((Chg.refl _ _).setCell _ (.inl (by simp))).trans (Chg.of_below (F := []) (below_alloc1 _ _)) (by simp)).drew
  · exact ((H.out.set _ _).below (below_alloc1 _ _)).below (below_drew1 _)
theorem pure_add (g n cap : Nat) (z : List Int) (x y at0 : Int) (w : World) (h : StkAt w g n cap z) (hn : 1 ≤ n) (hx : z[2]? = some x) (hy : z[3]? = some y) (bx : 0 ≤ x ∧ x ≤ 1000) (bY : 0 ≤ y ∧ y ≤ 1000) (hz : z[1]? = some at0) (hat : 0 ≤ at0 ∧ at0 < 1000) :
    Calls Try.prog 10 #[.pointer (some ⟨g, 0, none⟩), .agg #[.int .i64 3, .int .i64 2, .int .i64 0, .int .i64 1]] w fun e w' => e = .returned (.bool true) ∧ Chg [g] w w' ∧ StkAt w' g n cap ((z.set 1 (at0 + 1)).set 4 (x + y)) :=
  pure_any g 0 n cap _ 3 z _ 3 2 0 1 at0 w h hz hat (by rfl) enters_add (fun w' h' => add_any g n cap _ x y w' h' hn (by rw [List.getElem?_set_ne (by decide)]; exact hx) (by rw [List.getElem?_set_ne (by decide)]; exact hy) bx bY)
theorem zero_func (w : World) : (zeroValue 44).run Try.prog w = .ok .nilFunc w := by kernel_rfl
set_option maxRecDepth 100000 in
set_option maxHeartbeats 2000000 in
theorem pure_yield (v : Value) (w : World) : Calls Try.prog 10 #[v, .agg #[.int .i64 12, .int .i64 0, .int .i64 0, .int .i64 0]] w fun e w' => e = .returned (.bool false) ∧ Below w.heap.size w w' := by
  go_enter Try.func10, Try.ntmps10
  go_wp2_with fail
  have hx0 : Blk (w.alloc (Obj.cells #[Value.int IntKind.i64 12, Value.int IntKind.i64 0, Value.int IntKind.i64 0, Value.int IntKind.i64 0] 38)) w.heap.size [Value.int IntKind.i64 12, Value.int IntKind.i64 0, Value.int IntKind.i64 0, Value.int IntKind.i64 0] := Blk.mk w _ _ _ rfl
  have hB := below_alloc1 w (Obj.cells #[Value.int IntKind.i64 12, Value.int IntKind.i64 0, Value.int IntKind.i64 0, Value.int IntKind.i64 0] 38)
  generalize w.alloc (Obj.cells #[Value.int IntKind.i64 12, Value.int IntKind.i64 0, Value.int IntKind.i64 0, Value.int IntKind.i64 0] 38) = W0 at *
  have hsz := hB.size
  obtain ⟨bx, hbx⟩ : ∃ bx, w.heap.size = bx := ⟨_, rfl⟩
  rw [hbx] at hx0 hB hsz ⊢
  have HS := Lib.hid hbx
  have HX := Lib.hid hx0
  have HB := Lib.hid hB
  clear hbx hx0 hB
  have hld : ∀ w', Below W0.heap.size W0 w' → w'.cell? ⟨bx, 0, none⟩ = some (.int .i64 12) := fun w' hb => ((HX.out.below hb) 0 _ rfl).1
  have HL := Lib.hid hld
  clear hld
  go_region_held3 (fun w' => w'.cell? ⟨bx, 0, none⟩ = some (.int .i64 12) ∧ Below W0.heap.size W0 w') (first | exact ⟨HL.out _ (below_drew1 _), below_drew1 _⟩ | assumption | (have hq := below_on (below_drew1 W0) hb; exact ⟨HL.out _ hq, hq⟩)) ((go_at_call 14; refine (alone_any _).mono ?_; rintro e w1 ⟨rfl, hm, hb⟩; have hl : (Instr.lookup 46 (.map (some W0.heap.size)) (.int .i64 12) true).run Try.prog w1 = .ok (.tuple #[.nilFunc, .bool false]) w1 := run_lookup_miss (n := 12) Try.underlying46 Try.underlying36 hm (zero_func _) (by rfl)))
  go_wp2_with fail
  go_ret
  exact ⟨rfl, by rw [HS.out]; exact HB.out.trans ((below_on (below_drew1 W0) hb).mono hsz)⟩
end Go.Proofs.Ytfllplfpeibocaa
