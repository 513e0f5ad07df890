/-
  Texts put together: Base, Frame, IRow, IRow2, Sep, Pool, RowG, RowG2, WCh1, WCh2, WCh3, WCh4, WCh5, WCh6, WCh7, WCh8, PkF, CodeF, HeapF, WHp1.
-/
import Derived.WalkKit
import Derived.ProofKit
import Derived.Below
import Derived.WalkSpells
import Derived.WalkLawsBesides
import Derived.IntWalk
import Derived.Lib.Hide
import Derived.LoopTactic
import Derived.Deep.RegionWith
import Derived.Deep.MidRow
import Derived.Laws.IdiomCopy
import Derived.Laws.NewBlocks
import Derived.Laws.AppendOwn
import Derived.Lib.ConvBytes
import Derived.Lib.AppendStr
import Derived.ArgAppend
import Derived.Test.YtphfaekpckbepaaGreatRows
import Derived.Deep.QuietTactic
import Derived.BigQuiet
import Derived.WalkSmall
import Derived.Deep.DeepCutAuto
import Derived.RegionTactic
import Derived.Deep.RegionHeld3
import Derived.Deep.RegionLaw
import Init.Data.List.Perm
import Init.Omega
import Derived.Deep.AppendLies
set_option maxRecDepth 100000
set_option maxHeartbeats 16000000
set_option linter.unusedSimpArgs false
set_option linter.unusedVariables false
open Go Go.RowKit
set_option linter.unusedVariables false
namespace Go.Proofs.YtphfaekpckbepaaGreat
theorem ret_int {k:IntKind} {a b:Int} (h:a = b):Ending.returned (.int k a) = .returned (.int k b):=by rw [h]
theorem ret_bool {a b:Bool} (h:a = b):Ending.returned (.bool a) = .returned (.bool b):=by rw [h]

theorem below_on {a b c:World} (h:Below a.heap.size a b) (k:Below b.heap.size b c):Below a.heap.size a c:=h.trans (k.mono h.size)


def Blk (w:World) (b:Nat) (cs:List Value):Prop:=∀ j v,cs[j]? = some v → w.cell? ⟨b,j,none⟩ = some v ∧ w.frozen? ⟨b,j,none⟩ = false
theorem Blk.at {w:World} {b:Nat} {cs:List Value} (h:Blk w b cs) (j:Nat) (hj:j < cs.length):w.cell? ⟨b,j,none⟩ = some cs[j] ∧ w.frozen? ⟨b,j,none⟩ = false:=h j _ (List.getElem?_eq_getElem hj)
theorem Blk.range {w:World} {b:Nat} {cs:List Value} (h:Blk w b cs):w.rangeAt b 0 cs:=fun j v hj=>by rw [Nat.zero_add];exact (h j v hj).1
theorem Blk.there {w:World} {b:Nat} {cs:List Value} (h:Blk w b cs) (n:Nat) (hn:n ≤ cs.length):w.there b 0 n:=fun j hj=>by
 rw [Nat.zero_add]
 obtain ⟨h1,h2⟩:=h.at j (by omega)
 exact ⟨by rw [h1];rfl,h2⟩
theorem Blk.new (w:World) (cs:Array Value) (t:TypeId):Blk (w.alloc (.cells cs t)) w.heap.size cs.toList:=fun j v hj=>by
 refine ⟨?_,World.frozen?_alloc_at _ _ _ _ rfl⟩
 rw [World.cell?_alloc_at _ _ _ _ rfl];simpa using hj
theorem Blk.mk (w:World) (l:List Value) (t:TypeId) (b:Nat) (hb:b = w.heap.size):Blk (w.alloc (.cells l.toArray t)) b l:=by subst hb;exact Blk.new w l.toArray t
theorem Blk.lt {w:World} {b:Nat} {cs:List Value} (h:Blk w b cs) (h0:0 < cs.length):b < w.heap.size:=World.block_lt_of_cell? w _ (h.at 0 h0).1
theorem Blk.below {w w':World} {b:Nat} {cs:List Value} (h:Blk w b cs) (hb:Below w.heap.size w w'):Blk w' b cs:=fun j v hj=>by
 obtain ⟨h1,h2⟩:=h j v hj
 have hlt:=World.block_lt_of_cell? w _ h1
 exact ⟨by rw [hb.cell (p:=⟨b,j,none⟩) hlt];exact h1,by rw [hb.frozen (p:=⟨b,j,none⟩) hlt];exact h2⟩
theorem Blk.set {w:World} {b:Nat} {cs:List Value} (h:Blk w b cs) (k:Nat) (v:Value):Blk (w.setCell ⟨b,k,none⟩ v) b (cs.set k v):=fun j u hj=>by
 by_cases e:j = k
 ·subst e
  have hlt:j < cs.length:=by
   have:=(List.getElem?_eq_some_iff.1 hj).1
   simpa using this
  rw [List.getElem?_set_self hlt] at hj
  obtain rfl:v = u:=by simpa using hj
  obtain ⟨h1,h2⟩:=h.at j hlt
  exact ⟨World.cell?_setCell_same' _ _ _ (by rw [h1];rfl),by rw [World.frozen?_setCell];exact h2⟩
 ·rw [List.getElem?_set_ne (by omega)] at hj
  obtain ⟨h1,h2⟩:=h j u hj
  exact ⟨by rw [World.cell?_setCell_other _ _ _ _ (by simp;first | done | omega)];exact h1,by rw [World.frozen?_setCell];exact h2⟩
theorem Blk.setFar {w:World} {b c k:Nat} {cs:List Value} {v:Value} (h:Blk w b cs) (hne:b ≠ c):Blk (w.setCell ⟨c,k,none⟩ v) b cs:=fun j u hj=>by
 obtain ⟨h1,h2⟩:=h j u hj
 exact ⟨by rw [World.cell?_setCell_other _ _ _ _ (by simp;first | done | omega)];exact h1,by rw [World.frozen?_setCell];exact h2⟩
theorem Blk.setCells {w:World} {b:Nat} {cs vs:List Value} (h:Blk w b cs) (hl:vs.length = cs.length):Blk (w.setCells b 0 vs) b vs:=fun j v hj=>by
 have hlt:=(List.getElem?_eq_some_iff.1 hj).1
 have h1:=World.rangeAt_setCells_same w b 0 vs (h.there vs.length (by omega)) j v hj
 rw [Nat.zero_add] at h1
 exact ⟨h1,by rw [World.frozen?_setCells];exact (h.at j (by omega)).2⟩
theorem Blk.alloc {w:World} {b:Nat} {cs:List Value} (h:Blk w b cs) (o:Obj):Blk (w.alloc o) b cs:=h.below ((Below.refl _ _).alloc (Nat.le_refl _) _)
theorem below_setCells {B:Nat} {w0 w:World} (h:Below B w0 w) (b:Nat) (hb:B ≤ b):∀ (vs:List Value) (o:Nat),Below B w0 (w.setCells b o vs):=fun vs=>by
 induction vs generalizing w with
 | nil=>intro o;exact h
 | cons v vs ih=>intro o;rw [World.setCells];exact ih (h.setCell hb _) (o + 1)
theorem take_set_succ {α:Type}:∀ (l:List α) (k:Nat) (c:α),k < l.length → (l.set k c).take (k + 1) = l.take k ++ [c]
 | [],k,c,h=>by simp at h
 | x :: l,0,c,_=>by simp
 | x :: l,k + 1,c,h=>by
  simp only [List.set_cons_succ,List.take_succ_cons,List.cons_append]
  rw [take_set_succ l k c (by simpa using h)]
theorem results_cell {P:Program} {fn:Func} {p:Tmp} {ty:TypeId} {v:Value} {w w':World} (h:fn.results = #[.cell p ty]) (tmps:Array Value) (a:Addr) (hp:tmps.getD p undef = .pointer (some a))
  (hl:(loadVar ty a).run P w = .ok v w'):(results fn tmps).run P w = .ok v w':=by
 have hp':tmps[p]?.getD undef = .pointer (some a):=by simpa using hp
 simp [results,h,hp',asAddr,hl]
theorem cell_below {w w':World} {b o:Nat} {v:Value} (h:w.cell? ⟨b,o,none⟩ = some v) (hb:Below w.heap.size w w'):w'.cell? ⟨b,o,none⟩ = some v:=by
 rw [hb.cell (p:=⟨b,o,none⟩) (World.block_lt_of_cell? w _ h)];exact h
theorem below_alloc1 (w:World) (o:Obj):Below w.heap.size w (w.alloc o):=(Below.refl _ _).alloc (Nat.le_refl _) _
theorem below_drew1 (w:World):Below w.heap.size w w.drew:=(Below.refl _ _).drew
def Bytes (w:World) (b:Nat) (cs:List UInt8):Prop :=
 (∀ i (h:i < cs.length),w.cell? ⟨b,i,none⟩ = some (.int .u8 (cs[i].toNat:Int))) ∧ (∀ i,i < cs.length → w.frozen? ⟨b,i,none⟩ = false)
theorem Bytes.set {w:World} {b:Nat} {cs:List UInt8} (h:Bytes w b cs) (k:Nat) (hk:k < cs.length) (c:UInt8) (v:Int) (hv:v = (c.toNat:Int)) :
  Bytes (w.setCell ⟨b,k,none⟩ (.int .u8 v)) b (cs.set k c):=by
 subst hv
 refine ⟨fun i hi=>?_,fun i hi=>?_⟩
 ·simp at hi
  by_cases e:i = k
  ·subst e
   rw [World.cell?_setCell_same' _ _ _ (by rw [h.1 i hk];rfl)]
   simp
  ·rw [World.cell?_setCell_other _ _ _ _ (by simp;first | done | omega),h.1 i hi,List.getElem_set_ne (by omega)]
 ·simp at hi
  rw [World.frozen?_setCell];exact h.2 i hi
theorem Bytes.fresh (w:World) (t:TypeId) (n:Nat):Bytes (w.alloc (.cells (List.replicate n (Value.int .u8 0)).toArray t)) w.heap.size (List.replicate n 0):=by
 refine ⟨fun i hi=>?_,fun i hi=>?_⟩
 ·simp at hi
  rw [World.cell?_alloc_mark];simp [hi]
 ·rw [World.frozen?_alloc_mark];simp

theorem conv_back {P:Program} {w:World} {g n cap:Nat} {cs:List UInt8} (h:Bytes w g cs) (hn:cs.length = n) (src dst e:TypeId) (hs:P.underlying src = some (.slice e)) (he:P.underlying e = some (.int .u8)) (hd:P.underlying dst = some .string) :
  (convert src dst (.slice (some ⟨g,0,none⟩) n cap)).run P w = .ok (.string ⟨cs.toArray⟩) w:=by
 subst hn
 exact run_convert_bytes_back (P:=P) w src dst e ⟨g,0,none⟩ cap cs hs he hd (fun j hj=>by
  have:=h.1 j hj
  by_cases h0:j = 0
  ·subst h0;exact this
  ·simpa [Addr.add,h0] using this)
theorem slice_head {P:Program} {t:TypeId} {s:Nat} (w:World) (ht:P.underlying t = some (.slice (P.elem t))) (hs:∀ w,(sizeOf (P.elem t)).run P w = .ok s w) (a:Option Addr) (len cap m:Nat) (hm:m ≤ cap) :
  (Instr.slice t (.slice a len cap) none (some (.int .i64 (m:Int))) none).run P w = .ok (.slice a m cap) w:=by
 rw [run_slice_h (P:=P) (t:=t) (ht:=ht) (kh:=.i64) (h:=(m:Int)) (h0:=by omega) (h2:=by omega),hs]
 have:a.map (fun x:Addr=>x.add 0) = a:=by cases a <;> simp [Addr.add]
 simp [Result.andThen,sliced,this]
def StrsAt (w:World) (a:Option Addr) (l:List ByteArray):Prop :=
 ∀ i (h:i < l.length),∃ b off,a = some ⟨b,off,none⟩ ∧ w.cell? ⟨b,off + i,none⟩ = some (.string l[i])
theorem StrsAt.below {w w':World} {a:Option Addr} {l:List ByteArray} (h:StrsAt w a l) (hb:Below w.heap.size w w'):StrsAt w' a l:=fun i hi=>by
 obtain ⟨b,off,h1,h2⟩:=h i hi
 have hlt:b < w.heap.size:=World.block_lt_of_cell? w _ h2
 exact ⟨b,off,h1,by rw [hb.cell (p:=⟨b,off + i,none⟩) hlt];exact h2⟩
structure Chg (F:List Nat) (w w':World):Prop where
 os:w'.os = w.os
 tape:w'.tape = w.tape
 output:w'.output = w.output
 size:w.heap.size ≤ w'.heap.size
 block:∀ k,k < w.heap.size → k ∉ F → w'.heap[k]? = w.heap[k]?
theorem Chg.refl (F:List Nat) (w:World):Chg F w w:=⟨rfl,rfl,rfl,Nat.le_refl _,fun _ _ _=>rfl⟩
theorem Chg.trans {F G:List Nat} {a b c:World} (h:Chg F a b) (k:Chg G b c) (hg:∀ x ∈ G,x ∈ F ∨ a.heap.size ≤ x):Chg F a c :=
 ⟨k.os.trans h.os,k.tape.trans h.tape,k.output.trans h.output,Nat.le_trans h.size k.size,fun x hx hn=>by
  rw [k.block x (Nat.lt_of_lt_of_le hx h.size) (fun hG=>by rcases hg x hG with h1 | h1;exact hn h1;omega)]
  exact h.block x hx hn⟩
theorem Chg.mono {F G:List Nat} {a b:World} (h:Chg F a b) (hs:∀ x ∈ F,x ∈ G):Chg G a b:=⟨h.os,h.tape,h.output,h.size,fun k hk hn=>h.block k hk (fun hF=>hn (hs k hF))⟩
theorem Chg.of_below {F:List Nat} {w w':World} (h:Below w.heap.size w w'):Chg F w w':=⟨h.os,h.tape,h.output,h.size,fun k hk _=>h.block k hk⟩
theorem Chg.to_below {F:List Nat} {w w':World} {B:Nat} (h:Chg F w w') (hF:∀ x ∈ F,B ≤ x) (hB:B ≤ w.heap.size):Below B w w' :=
 ⟨h.os,h.tape,h.output,h.size,fun k hk=>h.block k (by omega) (fun hx=>by have:=hF k hx;omega)⟩
theorem Chg.below {F:List Nat} {w0 w w':World} (h0:Below w0.heap.size w0 w) (h:Chg F w w') (hF:∀ x ∈ F,w0.heap.size ≤ x):Below w0.heap.size w0 w':=h0.trans (h.to_below hF h0.size)
theorem Chg.to_below0 {w w':World} (h:Chg [] w w'):Below w.heap.size w w':=h.to_below (fun _ hx=>by simp at hx) (Nat.le_refl _)
theorem Chg.setCell {F:List Nat} {w w':World} (h:Chg F w w') {b k:Nat} (v:Value) (hb:b ∈ F ∨ w.heap.size ≤ b):Chg F w (w'.setCell ⟨b,k,none⟩ v) :=
 ⟨h.os,h.tape,h.output,by rw [World.size_setCell];exact h.size,fun x hx hn=>by
  rw [Below.heap_setCell _ _ _ _ (fun e=>by
   subst e
   rcases hb with hb | hb
   ·exact hn hb
   ·omega)]
  exact h.block x hx hn⟩
theorem Chg.setCells {F:List Nat} {w w':World} (h:Chg F w w') {b:Nat}:∀ (vs:List Value) (o:Nat),(b ∈ F ∨ w.heap.size ≤ b) → Chg F w (w'.setCells b o vs):=fun vs=>by
 induction vs generalizing w' with
 | nil=>intro o _;exact h
 | cons v vs ih=>intro o hb;rw [World.setCells];exact ih (h.setCell v hb) (o + 1) hb
theorem Chg.drewN {F:List Nat} {w w':World} (h:Chg F w w') (n:Nat):Chg F w (w'.drewN n):=⟨h.os,h.tape,h.output,h.size,h.block⟩
theorem Chg.drew {F:List Nat} {w w':World} (h:Chg F w w'):Chg F w w'.drew:=⟨h.os,h.tape,h.output,h.size,h.block⟩
theorem cell_of_heap {w w':World} {b k:Nat} (h:w'.heap[b]? = w.heap[b]?):w'.cell? ⟨b,k,none⟩ = w.cell? ⟨b,k,none⟩:=World.cell?_of_block (a:=⟨b,k,none⟩) h
theorem Blk.chg {F:List Nat} {w w':World} {b:Nat} {cs:List Value} (h:Blk w b cs) (c:Chg F w w') (hb:b ∉ F):Blk w' b cs:=fun j v hj=>by
 obtain ⟨h1,h2⟩:=h j v hj
 have hlt:=World.block_lt_of_cell? w _ h1
 have hk:=c.block b hlt hb
 exact ⟨by rw [cell_of_heap hk];exact h1,by rw [World.frozen?_of_block (a:=⟨b,j,none⟩) hk];exact h2⟩
theorem cell_chg {F:List Nat} {w w':World} {b k:Nat} {v:Value} (h:w.cell? ⟨b,k,none⟩ = some v) (c:Chg F w w') (hb:b ∉ F):w'.cell? ⟨b,k,none⟩ = some v:=by
 rw [cell_of_heap (c.block b (World.block_lt_of_cell? w _ h) hb)];exact h
theorem owns_chg {F:List Nat} {w w':World} {base n size:Nat} {e:TypeId} {v:Value} {xs:List Value} (h:w.ownsRow base e size v n xs) (c:Chg F w w') (hb:∀ g,v.ownBlock = some g → g ∉ F):w'.ownsRow base e size v n xs:=by
 refine ⟨h.1,?_⟩
 rcases h.2 with hn | ⟨g,cap,cur,rfl,hbg,hg,rest⟩
 ·exact .inl hn
 ·refine .inr ⟨g,cap,cur,rfl,hbg,?_,rest⟩
  rw [c.block g (Array.getElem?_eq_some_iff.1 hg).1 (hb g rfl)];exact hg
theorem owns_lt {w:World} {base n size:Nat} {e:TypeId} {v:Value} {xs:List Value} (h:w.ownsRow base e size v n xs) (g:Nat) (hg:v.ownBlock = some g):g < w.heap.size:=(h.lt g hg).2
theorem grownBy_chg {w w':World} {row:Option Nat} (h:w.grownBy w' row):Chg row.toList w w':=⟨h.os,h.tape,h.output,h.size,fun k hk hn=>h.block k hk (fun e=>hn (by rw [← e];simp))⟩
def intc (l:List Int):List Value:=l.map fun n=>.int .i64 n
theorem intc_len (l:List Int):(intc l).length = l.length:=by unfold intc;rw [List.length_map]
theorem intc_app (l m:List Int):intc (l ++ m) = intc l ++ intc m:=by unfold intc;rw [List.map_append]
theorem intc_at (l:List Int) (i:Nat) (h:i < l.length):(intc l)[i]? = some (.int .i64 l[i]):=by unfold intc;rw [List.getElem?_map,List.getElem?_eq_getElem h];rfl
theorem intc_get (l:List Int) (i:Nat):(intc l)[i]? = l[i]?.map (fun n=>Value.int .i64 n):=by unfold intc;rw [List.getElem?_map]
theorem intc_one (l:List Int):∀ v ∈ intc l,v.oneCell' = true:=fun v hv=>by
 unfold intc at hv;simp only [List.mem_map] at hv;obtain ⟨b,_,rfl⟩:=hv;rfl
def blk (a:Option Addr):List Nat:=(a.map (·.block)).toList
def RowAt (w:World) (a:Option Addr) (cap:Nat) (l:List Int):Prop :=
 l.length ≤ cap ∧ cap ≤ maxLen ∧ ((a = none ∧ cap = 0) ∨ ∃ b off,a = some ⟨b,off,none⟩ ∧ b < w.heap.size ∧
  (∀ j,j < cap → (w.cell? ⟨b,off + j,none⟩).isSome = true ∧ w.frozen? ⟨b,off + j,none⟩ = false) ∧ ∀ j v,(intc l)[j]? = some v → w.cell? ⟨b,off + j,none⟩ = some v)
theorem RowAt.nil (w:World):RowAt w none 0 []:=⟨by simp,by simp,.inl ⟨rfl,rfl⟩⟩
theorem RowAt.lt {w:World} {a:Option Addr} {cap:Nat} {l:List Int} (h:RowAt w a cap l):∀ x ∈ blk a,x < w.heap.size:=by
 rcases h.2.2 with ⟨rfl,_⟩ | ⟨b,off,rfl,hb,_⟩
 ·intro x hx;simp [blk] at hx
 ·intro x hx;simp [blk] at hx;subst hx;exact hb
theorem RowAt.chg {F:List Nat} {w w':World} {a:Option Addr} {cap:Nat} {l:List Int} (h:RowAt w a cap l) (c:Chg F w w') (hd:∀ x ∈ blk a,x ∉ F):RowAt w' a cap l:=by
 refine ⟨h.1,h.2.1,?_⟩
 rcases h.2.2 with h0 | ⟨b,off,rfl,hb,h1,h2⟩
 ·exact .inl h0
 ·have hk:=c.block b hb (hd b (by simp [blk]))
  refine .inr ⟨b,off,rfl,Nat.lt_of_lt_of_le hb c.size,fun j hj=>?_,fun j v hj=>?_⟩
  ·rw [cell_of_heap hk,World.frozen?_of_block (a:=⟨b,off + j,none⟩) hk];exact h1 j hj
  ·rw [cell_of_heap hk];exact h2 j v hj
theorem RowAt.below {w w':World} {a:Option Addr} {cap:Nat} {l:List Int} (h:RowAt w a cap l) (hb:Below w.heap.size w w'):RowAt w' a cap l :=
 h.chg (Chg.of_below (F:=[]) hb) (fun _ _=>by simp)
def IntsAt (w:World) (a:Option Addr) (l:List Int):Prop:=∀ i (h:i < l.length),∃ b off,a = some ⟨b,off,none⟩ ∧ w.cell? ⟨b,off + i,none⟩ = some (.int .i64 l[i])
theorem IntsAt.below {w w':World} {a:Option Addr} {l:List Int} (h:IntsAt w a l) (hb:Below w.heap.size w w'):IntsAt w' a l:=fun i hi=>by
 obtain ⟨b,off,h1,h2⟩:=h i hi
 exact ⟨b,off,h1,cell_below h2 hb⟩
theorem RowAt.ints {w:World} {a:Option Addr} {cap:Nat} {l:List Int} (h:RowAt w a cap l):IntsAt w a l:=fun i hi=>by
 rcases h.2.2 with ⟨rfl,h0⟩ | ⟨b,off,rfl,hb,h1,h2⟩
 ·have:=h.1;omega
 ·exact ⟨b,off,rfl,h2 i _ (intc_at l i hi)⟩
theorem RowAt.take {w:World} {a:Option Addr} {cap:Nat} {l:List Int} (h:RowAt w a cap l) (m:Nat):RowAt w a cap (l.take m):=by
 refine ⟨by have:=h.1;rw [List.length_take];omega,h.2.1,?_⟩
 rcases h.2.2 with h0 | ⟨b,off,rfl,hb,h1,h2⟩
 ·exact .inl h0
 ·refine .inr ⟨b,off,rfl,hb,h1,fun j v hj=>h2 j v ?_⟩
  rw [intc_get,List.getElem?_take] at hj
  split at hj
  ·rw [intc_get];exact hj
  ·simp at hj
theorem slice_from {P:Program} {t:TypeId} (ht:P.underlying t = some (.slice (P.elem t))) (hs:∀ w,(sizeOf (P.elem t)).run P w = .ok 1 w) {w0:World} {a:Option Addr} {cap:Nat} {l:List Int} (h:RowAt w0 a cap l) (m:Nat) (hm:m ≤ l.length) :
  ∃ a',(∀ w,(Instr.slice t (.slice a l.length cap) (some (.int .i64 (m:Int))) none none).run P w = .ok (.slice a' (l.length - m) (cap - m)) w) ∧ RowAt w0 a' (cap - m) (l.drop m) ∧ blk a' = blk a:=by
 have hl:=h.1
 rcases h.2.2 with ⟨rfl,rfl⟩ | ⟨b,off,rfl,hb,h1,h2⟩
 ·have:l = []:=List.length_eq_zero_iff.1 (by omega)
  subst this
  obtain rfl:m = 0:=by simpa using hm
  refine ⟨none,fun w=>?_,by simpa using RowAt.nil w0,rfl⟩
  rw [run_slice_l (P:=P) (t:=t) (ht:=ht) (kl:=.i64) (l:=((0:Nat):Int)) (h0:=by omega) (h1:=by simp),hs]
  simp [Result.andThen,sliced]
 ·by_cases hc:cap = m
  ·refine ⟨some ⟨b,off,none⟩,fun w=>?_,⟨by rw [List.length_drop];omega,by have:=h.2.1;omega,.inr ⟨b,off,rfl,hb,fun j hj=>by omega,fun j v hj=>?_⟩⟩,rfl⟩
   ·rw [run_slice_l (P:=P) (t:=t) (ht:=ht) (kl:=.i64) (l:=(m:Int)) (h0:=by omega) (h1:=by omega),hs]
    simp [Result.andThen,sliced,hc]
   ·have:l.drop m = []:=List.drop_of_length_le (by omega)
    rw [this] at hj;simp [intc] at hj
  ·refine ⟨some ⟨b,off + m,none⟩,fun w=>?_,⟨by rw [List.length_drop];omega,by have:=h.2.1;omega,.inr ⟨b,off + m,rfl,hb,fun j hj=>?_,fun j v hj=>?_⟩⟩,rfl⟩
   ·rw [run_slice_l (P:=P) (t:=t) (ht:=ht) (kl:=.i64) (l:=(m:Int)) (h0:=by omega) (h1:=by omega),hs]
    by_cases hm0:m = 0
    ·subst hm0;simp [Result.andThen,sliced,hc,Addr.add]
    ·simp [Result.andThen,sliced,hc,Addr.add,hm0]
   ·have:=h1 (m + j) (by omega)
    rwa [← Nat.add_assoc] at this
   ·have:=h2 (m + j) v (by rw [intc_get] at hj ⊢;rw [List.getElem?_drop] at hj;exact hj)
    rwa [← Nat.add_assoc] at this
theorem RowAt.of_own {w:World} {base n:Nat} {e:TypeId} {v:Value} {l:List Int} (h:w.ownsRow base e 1 v n (intc l)):∃ a cap,v = .slice a l.length cap ∧ RowAt w a cap l ∧ n = l.length ∧ ∀ x ∈ blk a,base ≤ x:=by
 have hx:l.length = n:=by have:=h.1;rw [intc_len] at this;omega
 subst hx
 rcases h.2 with ⟨rfl,h0⟩ | ⟨g,cap,cur,rfl,hb,hg,h1,h2,h3,h4⟩
 ·exact ⟨none,0,by rw [h0],⟨by omega,by simp,.inl ⟨rfl,rfl⟩⟩,rfl,fun x hx=>by simp [blk] at hx⟩
 ·have hlt:g < w.heap.size:=(Array.getElem?_eq_some_iff.1 hg).1
  refine ⟨_,cap,rfl,⟨h1,h2,.inr ⟨g,0,rfl,hlt,fun j hj=>⟨?_,?_⟩,fun j v hj=>?_⟩⟩,rfl,fun x hx=>by simp [blk] at hx;subst hx;exact hb⟩
  ·rw [Nat.zero_add,cell_of_row w g j cur e (0,0) hg,Array.getElem?_eq_getElem (by omega)];rfl
  ·rw [Nat.zero_add];exact frozen_of_row w g j cur e hg
  ·rw [Nat.zero_add,cell_of_row w g j cur e (0,0) hg]
   rw [← h4,List.getElem?_take] at hj
   split at hj
   ·simpa using hj
   ·cases hj
theorem RowAt.new (w:World) (l:List Int) (t:TypeId) (hl:l.length ≤ maxLen) {b:Nat} (hb:b = w.heap.size):RowAt (w.alloc (.cells (intc l).toArray t)) (some ⟨b,0,none⟩) l.length l:=by
 subst hb
 have hB:=Blk.new w (intc l).toArray t
 refine ⟨Nat.le_refl _,hl,.inr ⟨_,0,rfl,by simp,fun j hj=>?_,fun j v hj=>?_⟩⟩
 ·rw [Nat.zero_add]
  obtain ⟨h1,h2⟩:=hB j _ (intc_at l j hj)
  exact ⟨by rw [h1];rfl,h2⟩
 ·rw [Nat.zero_add];exact (hB j v hj).1
theorem append_row {P:Program} {w:World} (t ty e:TypeId) (i:TypeInfo) (z:Value) (ht:P.underlying t = some (.slice e)) (hi:P.info? e = some i) (hz:i.zero = some z) (hsize:i.size = 1) (hby:i.bytes = 8) (hzs:z.cells.size = 1)
  {a b:Option Addr} {cap c:Nat} {l m:List Int} (ha:RowAt w a cap l) (hb:IntsAt w b m) (h47:l.length + m.length ≤ 1000000000) :
  ∃ a' cap' w',(Builtin.append_ #[t,t] ty #[.slice a l.length cap,.slice b m.length c]).run P w = .ok (.slice a' (l.length + m.length) cap') w' ∧ RowAt w' a' cap' (l ++ m) ∧ Chg (blk a) w w' ∧ ∀ x ∈ blk a',x ∈ blk a ∨ w.heap.size ≤ x:=by
 cases b with
 | none =>
  have:m = []:=by
   rcases Nat.eq_zero_or_pos m.length with h | h
   ·exact List.length_eq_zero_iff.1 h
   ·obtain ⟨_,_,h1,_⟩:=hb 0 h;cases h1
  subst this
  have hl:=ha.1
  refine ⟨a,cap,w,?_,by simpa using ha,Chg.refl _ _,fun x hx=>.inl hx⟩
  cases a <;> simp [Builtin.append_,run_underlying ht,sizeOf,typeInfo,hi,Builtin.lenOf,Builtin.firstCells,storeCells,hl]
 | some ad =>
  have hnews:∀ j u,(intc m)[j]? = some u → w.cell? (ad.add j) = some u:=fun j u hj=>by
   have hlt:j < m.length:=by rw [← intc_len m];exact (List.getElem?_eq_some_iff.1 hj).1
   obtain ⟨b,off,h1,h2⟩:=hb j hlt
   cases h1
   rw [intc_at m j hlt] at hj
   rw [Addr.add_lit,h2];exact hj
  rcases ha.2.2 with ⟨rfl,h0⟩ | ⟨b,off,rfl,hbl,h1,h2⟩
  ·have hl0:l = []:=List.length_eq_zero_iff.1 (by have:=ha.1;omega)
   subst hl0
   subst h0
   obtain ⟨v',w',hr,r1,r2,_⟩:=run_append_own (P:=P) w w.heap.size t ty e i z 1 8 ht hi hz hsize hby hzs (by omega) (.slice none 0 0) 0 [] (World.ownsRow_nil _ _ _ _) ad m.length c (intc m) (by rw [intc_len];omega) hnews (intc_one m) (by simp at h47;unfold maxLen;omega) (by simp at h47;omega) (Nat.le_refl _)
   simp only [List.nil_append] at r1
   obtain ⟨a',cap',rfl,hrow,hn,hbase⟩:=RowAt.of_own r1
   refine ⟨a',cap',w',?_,by simpa using hrow,grownBy_chg r2 |>.mono (by simp [Value.ownBlock,blk]),fun x hx=>.inr (hbase x hx)⟩
   simpa using hr
  ·by_cases hroom:l.length + m.length ≤ cap
   ·have hr:=run_append_room_cells (P:=P) w t ty e i ht hi b off l.length cap ad m.length c (intc m) (by rw [intc_len,hsize];omega) hnews (intc_one m) hroom
     (fun j hj=>by rw [intc_len] at hj;rw [hsize,Nat.mul_one];have:=(h1 (l.length + j) (by omega)).1;rwa [← Nat.add_assoc] at this)
     (fun j hj=>by rw [intc_len] at hj;rw [hsize,Nat.mul_one];have:=(h1 (l.length + j) (by omega)).2;rwa [← Nat.add_assoc] at this)
    rw [hsize,Nat.mul_one] at hr
    have hin:=World.cell?_setCells_in b (intc m) (off + l.length) w (fun j hj=>by rw [intc_len] at hj;have:=(h1 (l.length + j) (by omega)).1;rwa [← Nat.add_assoc] at this)
    refine ⟨_,cap,_,hr,⟨by rw [List.length_append];exact hroom,ha.2.1,.inr ⟨b,off,rfl,Nat.lt_of_lt_of_le hbl ((Chg.refl [b] w).setCells (intc m) (off + l.length) (.inl (by simp))).size,fun j hj=>⟨?_,?_⟩,fun j v hj=>?_⟩⟩,(Chg.refl _ _).setCells _ _ (.inl (by simp [blk])),fun x hx=>.inl hx⟩
    ·by_cases hj2:l.length ≤ j ∧ j < l.length + m.length
     ·have:=hin (j - l.length) (by rw [intc_len];omega)
      rw [show off + l.length + (j - l.length) = off + j by omega] at this
      rw [this];rfl
     ·rw [World.cell?_setCells_out b (intc m) _ w _ (fun _ _=>by rw [intc_len];simp only;omega)]
      exact (h1 j hj).1
    ·rw [World.frozen?_setCells];exact (h1 j hj).2
    ·rw [intc_app] at hj
     by_cases hj2:j < l.length
     ·rw [List.getElem?_append_left (by rw [intc_len];exact hj2)] at hj
      rw [World.cell?_setCells_out b (intc m) _ w _ (fun _ _=>by rw [intc_len];simp only;omega)]
      exact h2 j v hj
     ·rw [List.getElem?_append_right (by rw [intc_len];omega),intc_len] at hj
      have hlt:j - l.length < (intc m).length:=(List.getElem?_eq_some_iff.1 hj).1
      have:=hin (j - l.length) hlt
      rw [show off + l.length + (j - l.length) = off + j by omega] at this
      rw [this]
      rw [List.getElem?_eq_getElem hlt] at hj
      exact hj
   ·obtain ⟨v',w',hr,r1,r2⟩:=run_append_arg_grows (P:=P) w t ty e i z 1 8 ht hi hz hsize hby hzs (by omega) ⟨b,off,none⟩ l.length cap (intc l) (by rw [intc_len];omega) (fun j u hj=>by rw [Addr.add_lit];exact h2 j u hj) ad m.length c (intc m) (by rw [intc_len];omega) hnews (by omega) (by unfold maxLen;omega) (by omega)
    rw [← intc_app] at r1
    obtain ⟨a',cap',rfl,hrow,hn,hbase⟩:=RowAt.of_own r1
    rw [List.length_append] at hr
    exact ⟨a',cap',w',hr,hrow,(grownBy_chg r2).mono (by simp),fun x hx=>.inr (hbase x hx)⟩
theorem wpList_append_row {P:Program} {w:World} {ops:Array Oper} {rest:List Oper} {o:Oper} {ac:Act} {Q:Exit → Act → World → Prop} (hgd:o.guard = none) (sl x:Operand) (t:TypeId)
  (ho:o.op = .call { callee:=.builtin .append,args:=#[sl,x],argTypes:=#[t,t] }) (e:TypeId) (i:TypeInfo) (z:Value) (ht:P.underlying t = some (.slice e)) (hi:P.info? e = some i) (hz:i.zero = some z) (hsize:i.size = 1) (hby:i.bytes = 8) (hzs:z.cells.size = 1)
  {a b:Option Addr} {cap c n k:Nat} {l m:List Int} (hs:ac.eval sl = .slice a n cap) (hx:ac.eval x = .slice b k c) (hn:n = l.length) (hk:k = m.length) (ha:RowAt w a cap l) (hb:IntsAt w b m) (h47:l.length + m.length ≤ 1000000000)
  (h:∀ a' cap' w',RowAt w' a' cap' (l ++ m) → Chg (blk a) w w' → (∀ x ∈ blk a',x ∈ blk a ∨ w.heap.size ≤ x) → wpList P ops Q rest (ac.put o.dst (.slice a' (n + k) cap')) w'):wpList P ops Q (o :: rest) ac w:=by
 subst hn hk
 refine wpList_plain hgd fun K hK=>?_
 obtain ⟨a',cap',w',hr,h2,h3,h4⟩:=append_row (P:=P) (w:=w) t o.type e i z ht hi hz hsize hby hzs ha (c:=c) hb h47
 unfold Oper.wp execOp
 simp only [ho,resolve,invoke,builtin,Sem.run_bind,Sem.run_pure,Result.andThen_ok,List.map_toArray,List.map_cons,List.map_nil,hs,hx,hr]
 exact hK _ _ (h a' cap' w' h2 h3 h4)
theorem made_ints (n:Nat):(madeCells #[Value.int .i64 0] (n * 1)).toList = intc (List.replicate n 0):=by
 rw [Nat.mul_one,toList_madeCells_one];simp [intc]
theorem info_int:(Tryz.prog.info? 3).map (fun i=>(i.zero,i.size,i.bytes)) = some (some (.int .i64 0),1,8):=by kernel_rfl
theorem RowAt.one (w:World) (x:Int) (t:TypeId) {b:Nat} (hb:b = w.heap.size):RowAt (w.alloc (.cells #[.int .i64 x] t)) (some ⟨b,0,none⟩) 1 [x]:=RowAt.new w [x] t (by simp [maxLen]) hb
theorem RowAt.empty (w:World) (t:TypeId) {b:Nat} (hb:b = w.heap.size):RowAt (w.alloc (.cells #[] t)) (some ⟨b,0,none⟩) 0 []:=RowAt.new w [] t (by simp [maxLen]) hb
theorem below_alloc2 (w:World) (o1 o2:Obj):Below w.heap.size w ((w.alloc o1).alloc o2):=(below_alloc1 _ _).alloc (by simp) _
theorem size_int:∀ w,(sizeOf (Tryz.prog.elem 22)).run Tryz.prog w = .ok 1 w:=by
 obtain ⟨i0,hi,hz0,hz1,hz2⟩:=info_parts info_int
 intro w
 have e:Tryz.prog.elem 22 = 3:=by kernel_rfl
 rw [e];simp [sizeOf,typeInfo,hi,hz1]
theorem under_ints:Tryz.prog.underlying 22 = some (.slice (Tryz.prog.elem 22)):=by
 have e:Tryz.prog.elem 22 = 3:=by kernel_rfl
 rw [e];exact Tryz.underlying22
theorem step_append_row {P:Program} {w:World} {ops:Array Oper} {o:Oper} {ac:Act} {K:Act → World → Prop} {Q:Exit → Act → World → Prop} {E:Prop} (hgd:o.guard = none) (sl x:Operand) (t:TypeId)
  (ho:o.op = .call { callee:=.builtin .append,args:=#[sl,x],argTypes:=#[t,t] }) (e:TypeId) (i:TypeInfo) (z:Value) (ht:P.underlying t = some (.slice e)) (hi:P.info? e = some i) (hz:i.zero = some z) (hsize:i.size = 1) (hby:i.bytes = 8) (hzs:z.cells.size = 1)
  {a b:Option Addr} {cap c n k:Nat} {l m:List Int} (hs:ac.eval sl = .slice a n cap) (hx:ac.eval x = .slice b k c) (hn:n = l.length) (hk:k = m.length) (ha:RowAt w a cap l) (hb:IntsAt w b m) (h47:l.length + m.length ≤ 1000000000)
  (h:∀ a' cap' w',RowAt w' a' cap' (l ++ m) → Chg (blk a) w w' → (∀ x ∈ blk a',x ∈ blk a ∨ w.heap.size ≤ x) → K (ac.put o.dst (.slice a' (n + k) cap')) w'):if Region.wanted o (yielded ops ac.tmps) = true then Oper.wp P o ac w K Q else E:=by
 have hw:Region.wanted o (yielded ops ac.tmps) = true:=by simp [Region.wanted,hgd]
 rw [if_pos hw]
 subst hn hk
 obtain ⟨a',cap',w',hr,h2,h3,h4⟩:=append_row (P:=P) (w:=w) t o.type e i z ht hi hz hsize hby hzs ha (c:=c) hb h47
 unfold Oper.wp execOp
 simp only [ho,resolve,invoke,builtin,Sem.run_bind,Sem.run_pure,Result.andThen_ok,List.map_toArray,List.map_cons,List.map_nil,hs,hx,hr]
 exact h a' cap' w' h2 h3 h4
theorem and_255 (k:Int):bits BinOp.and IntKind.i64 k 255 = k % 256:=by
 show IntKind.i64.wrap (((BitVec.ofInt 64 k) &&& (BitVec.ofInt 64 255)).toNat:Int) = k % 256
 have e:(BitVec.ofInt 64 255).toNat = 255:=by decide
 rw [BitVec.toNat_and,e,show (255:Nat) = 2 ^ 8 - 1 from rfl,Nat.and_two_pow_sub_one_eq_mod,IntKind.wrap_i64,BitVec.toNat_ofInt];omega
theorem small_of (x:Int) (m:Nat) (hm:0 < m):∃ n:Nat,(bits BinOp.and IntKind.i64 x 255).tmod (m:Int) = (n:Int) ∧ n < m ∧ n ≤ 255:=by
 rw [and_255]
 obtain ⟨k,hk⟩:∃ k:Nat,x % 256 = (k:Int):=⟨(x % 256).toNat,by omega⟩
 have h1:=Nat.mod_lt k hm
 have h2:=Nat.mod_le k m
 exact ⟨k % m,by rw [hk,Int.tmod_eq_emod_of_nonneg (by omega)];rfl,h1,by omega⟩
theorem clone_any (w:World) (a:Option Addr) (n c:Nat) (l:List Int) (h:IntsAt w a l) (hn:n = l.length) (hl:n ≤ 1000000) (h0:a = none → c = 0) :
  Calls Tryz.prog 97 #[.slice a n c] w fun r w'=>∃ a' c',r = .returned (.slice a' n c') ∧ RowAt w' a' c' l ∧ (∀ x ∈ blk a',w.heap.size ≤ x) ∧ Below w.heap.size w w':=by
 cases a with
 | none =>
  obtain rfl:=h0 rfl
  have hl0:l = []:=by
   rcases Nat.eq_zero_or_pos l.length with e | e
   ·exact List.length_eq_zero_iff.1 e
   ·obtain ⟨_,_,h1,_⟩:=h 0 e;cases h1
  subst hl0
  obtain rfl:n = 0:=hn
  clear h h0
  have he:∀ w:World,(binOp .eql 22 (.slice none 0 0) (.slice none 0 0)).run Tryz.prog w = .ok (.bool true) w:=fun _=>rfl
  go_enter Tryz.func97,Tryz.ntmps97
  go_wp2
  go_ret
  exact ⟨none,0,rfl,RowAt.nil _,fun x hx=>by simp [blk] at hx,Below.refl _ _⟩
 | some ad =>
  obtain ⟨i0,hi0,hz0,hz1,hz2⟩:=info_parts info_int
  have Hi:=Lib.hid hi0;clear hi0
  have Hz0:=Lib.hid hz0;clear hz0
  have Hz1:=Lib.hid hz1;clear hz1
  have Hz2:=Lib.hid hz2;clear hz2
  have H:=Lib.hid h
  have HN:=Lib.hid hn
  clear h h0 hn
  have he:∀ w:World,(binOp .eql 22 (.slice (some ad) n c) (.slice none 0 0)).run Tryz.prog w = .ok (.bool false) w:=fun _=>rfl
  go_enter Tryz.func97,Tryz.ntmps97
  go_wp2_with (at_builtin;refine wpList_append_row (l:=[]) (m:=l) rfl _ _ 22 rfl 3 i0 _ Tryz.underlying22 Hi.out Hz0.out Hz1.out Hz2.out rfl rfl rfl rfl HN.out (RowAt.empty _ _ rfl) (H.out.below (below_alloc1 _ _)) (by have:=HN.out;simp only [List.length_nil];omega) ?_)
  intro a1 c1 w1 k1 ch1 f1
  have hf:RowAt w1 a1 c1 l ∧ (∀ x ∈ blk a1,w.heap.size ≤ x) ∧ Below w.heap.size w w1:=by
   refine ⟨by simpa using k1,fun x hx=>?_,Chg.below (below_alloc1 _ _) ch1 (fun x hx=>by simp [blk] at hx;omega)⟩
   rcases f1 x hx with h | h
   ·simp [blk] at h;omega
   ·omega
  have HF:=Lib.hid hf
  clear hf k1 ch1 f1
  go_wp2
  go_ret
  exact ⟨a1,c1,by simp,HF.out⟩
structure Asr where
 at_:World → List Nat → Prop
 lt:∀ {w F},at_ w F → ∀ x ∈ F,x < w.heap.size
 chg:∀ {w w' F G},at_ w F → Chg G w w' → (∀ x ∈ F,x ∉ G) → at_ w' F
def Sep (w:World):List Asr → List Nat → Prop
 | [],F=>F = []
 | A :: As,F=>∃ F1 F2,F = F1 ++ F2 ∧ A.at_ w F1 ∧ (∀ x ∈ F1,x ∉ F2) ∧ Sep w As F2
theorem Sep.lt {w:World}:∀ {As:List Asr} {F:List Nat},Sep w As F → ∀ x ∈ F,x < w.heap.size
 | [],F,h,x,hx=>by unfold Sep at h;subst h;simp at hx
 | A :: As,F,h,x,hx=>by
  obtain ⟨F1,F2,rfl,h1,h2,h3⟩:=h
  rcases List.mem_append.1 hx with hx | hx
  ·exact A.lt h1 x hx
  ·exact h3.lt x hx
theorem Sep.chg {w w':World} {G:List Nat} (c:Chg G w w'):∀ {As:List Asr} {F:List Nat},Sep w As F → (∀ x ∈ F,x ∉ G) → Sep w' As F
 | [],F,h,_=>h
 | A :: As,F,h,hd=>by
  obtain ⟨F1,F2,rfl,h1,h2,h3⟩:=h
  exact ⟨F1,F2,rfl,A.chg h1 c (fun x hx=>hd x (by simp [hx])),h2,Sep.chg c h3 (fun x hx=>hd x (by simp [hx]))⟩
theorem Sep.perm {w:World} {As Bs:List Asr} (hp:As.Perm Bs):∀ {F:List Nat},Sep w As F → ∃ F',Sep w Bs F' ∧ ∀ x,x ∈ F' ↔ x ∈ F:=by
 induction hp with
 | nil=>exact fun h=>⟨_,h,fun _=>Iff.rfl⟩
 | cons A _ ih =>
  intro F h
  obtain ⟨F1,F2,rfl,h1,h2,h3⟩:=h
  obtain ⟨F',h4,h5⟩:=ih h3
  exact ⟨F1 ++ F',⟨F1,F',rfl,h1,fun x hx hc=>h2 x hx ((h5 x).1 hc),h4⟩,fun x=>by simp [h5]⟩
 | swap A B l =>
  intro F h
  obtain ⟨F1,_,rfl,h1,h2,F2,F3,rfl,h3,h4,h5⟩:=h
  exact ⟨F2 ++ (F1 ++ F3),⟨F2,_,rfl,h3,fun x hx hc=>by
   rcases List.mem_append.1 hc with h | h
   ·exact h2 x h (by simp [hx])
   ·exact h4 x hx h,F1,F3,rfl,h1,fun x hx hc=>h2 x hx (by simp [hc]),h5⟩,fun x=>by simp;constructor <;> (intro h;rcases h with h | h | h <;> simp [h])⟩
 | trans _ _ i1 i2 =>
  intro F h
  obtain ⟨F1,h1,e1⟩:=i1 h
  obtain ⟨F2,h2,e2⟩:=i2 h1
  exact ⟨F2,h2,fun x=>(e2 x).trans (e1 x)⟩
theorem Sep.split {w:World}:∀ {As Bs:List Asr} {F:List Nat},Sep w (As ++ Bs) F → ∃ F1 F2,F = F1 ++ F2 ∧ Sep w As F1 ∧ (∀ x ∈ F1,x ∉ F2) ∧ Sep w Bs F2
 | [],Bs,F,h=>⟨[],F,rfl,rfl,fun x hx=>by simp at hx,h⟩
 | A :: As,Bs,F,h=>by
  obtain ⟨F1,F2,rfl,h1,h2,h3⟩:=h
  obtain ⟨F3,F4,rfl,h4,h5,h6⟩:=h3.split
  exact ⟨F1 ++ F3,F4,by simp,⟨F1,F3,rfl,h1,fun x hx hc=>h2 x hx (by simp [hc]),h4⟩,fun x hx hc=>by
   rcases List.mem_append.1 hx with h | h
   ·exact h2 x h (by simp [hc])
   ·exact h5 x h hc,h6⟩
theorem Sep.app {w:World}:∀ {As Bs:List Asr} {F G:List Nat},Sep w As F → Sep w Bs G → (∀ x ∈ F,x ∉ G) → Sep w (As ++ Bs) (F ++ G)
 | [],Bs,F,G,h,k,_=>by unfold Sep at h;subst h;exact k
 | A :: As,Bs,F,G,h,k,d=>by
  obtain ⟨F1,F2,rfl,h1,h2,h3⟩:=h
  exact ⟨F1,F2 ++ G,by simp,h1,fun x hx hc=>by
   rcases List.mem_append.1 hc with h | h
   ·exact h2 x hx h
   ·exact d x (by simp [hx]) h,h3.app k (fun x hx=>d x (by simp [hx]))⟩
def Own (w0 w:World) (As:List Asr):Prop:=Below w0.heap.size w0 w ∧ ∃ F,Sep w As F ∧ ∀ x ∈ F,w0.heap.size ≤ x
theorem Own.bel {w0 w:World} {As:List Asr} (h:Own w0 w As):Below w0.heap.size w0 w:=h.1
theorem Own.nil {w0 w:World} (h:Below w0.heap.size w0 w):Own w0 w []:=⟨h,[],rfl,fun x hx=>by simp at hx⟩
theorem Own.perm {w0 w:World} {As Bs:List Asr} (h:Own w0 w As) (hp:As.Perm Bs):Own w0 w Bs:=by
 obtain ⟨h1,F,h2,h3⟩:=h
 obtain ⟨F',h4,h5⟩:=h2.perm hp
 exact ⟨h1,F',h4,fun x hx=>h3 x ((h5 x).1 hx)⟩
theorem Own.drop {w0 w:World} {A:Asr} {As:List Asr} (h:Own w0 w (A :: As)):Own w0 w As:=by
 obtain ⟨h1,F,⟨F1,F2,rfl,h2,h3,h4⟩,h5⟩:=h
 exact ⟨h1,F2,h4,fun x hx=>h5 x (by simp [hx])⟩
theorem Own.dropL {w0 w:World} {As Bs:List Asr} (h:Own w0 w (As ++ Bs)):Own w0 w Bs:=by
 induction As with
 | nil=>exact h
 | cons A As ih=>exact ih h.drop
theorem Own.head {w0 w:World} {A:Asr} {As:List Asr} (h:Own w0 w (A :: As)):∃ F,A.at_ w F ∧ ∀ x ∈ F,w0.heap.size ≤ x:=by
 obtain ⟨h1,F,⟨F1,F2,rfl,h2,h3,h4⟩,h5⟩:=h
 exact ⟨F1,h2,fun x hx=>h5 x (by simp [hx])⟩
theorem Own.step {w0 w w':World} {As:List Asr} (h:Own w0 w As) (hb:Below w.heap.size w w'):Own w0 w' As:=by
 obtain ⟨h1,F,h2,h3⟩:=h
 exact ⟨below_on h1 hb,F,h2.chg (Chg.of_below (F:=[]) hb) (fun _ _=>by simp),h3⟩
theorem Own.add {w0 w w':World} {As:List Asr} (h:Own w0 w As) (hb:Below w.heap.size w w') {A:Asr} {F:List Nat} (hA:A.at_ w' F) (hF:∀ x ∈ F,w.heap.size ≤ x):Own w0 w' (A :: As):=by
 obtain ⟨h1,F2,h2,h3⟩:=h
 exact ⟨below_on h1 hb,F ++ F2,⟨F,F2,rfl,hA,fun x hx hc=>by have:=h2.lt x hc;have:=hF x hx;omega,h2.chg (Chg.of_below (F:=[]) hb) (fun _ _=>by simp)⟩,fun x hx=>by
  rcases List.mem_append.1 hx with h | h
  ·exact Nat.le_trans h1.size (hF x h)
  ·exact h3 x h⟩
theorem Own.turn {w0 w w':World} {As As' R:List Asr} (h:Own w0 w (As ++ R)) (hc:∀ F,Sep w As F → ∃ F',Sep w' As' F' ∧ Chg F w w' ∧ ∀ x ∈ F',x ∈ F ∨ w.heap.size ≤ x):Own w0 w' (As' ++ R):=by
 obtain ⟨h1,F,h2,h3⟩:=h
 obtain ⟨F1,F2,rfl,h4,h5,h6⟩:=h2.split
 obtain ⟨F',k1,k2,k3⟩:=hc F1 h4
 have hs:=h1.size
 refine ⟨Chg.below h1 k2 (fun x hx=>h3 x (by simp [hx])),F' ++ F2,k1.app (h6.chg k2 (fun x hx hc=>h5 x hc hx)) (fun x hx hc=>?_),fun x hx=>?_⟩
 ·rcases k3 x hx with h | h
  ·exact h5 x h hc
  ·have:=h6.lt x hc;omega
 ·rcases List.mem_append.1 hx with h | h
  ·rcases k3 x h with h | h
   ·exact h3 x (by simp [h])
   ·omega
  ·exact h3 x (by simp [h])
theorem Own.call {w0 w:World} {As R:List Asr} (h:Own w0 w (As ++ R)) {P:Program} {f:FuncId} {args:Array Value} {post:Ending → List Asr → Prop}
  (hc:∀ F,Sep w As F → Calls P f args w fun r w'=>∃ As',post r As' ∧ ∃ F',Sep w' As' F' ∧ Chg F w w' ∧ ∀ x ∈ F',x ∈ F ∨ w.heap.size ≤ x) :
  Calls P f args w fun r w'=>∃ As',post r As' ∧ Own w0 w' (As' ++ R):=by
 have h':=h
 obtain ⟨h1,F,h2,h3⟩:=h'
 obtain ⟨F1,F2,rfl,h4,h5,h6⟩:=h2.split
 have hs:=h1.size
 refine (hc F1 h4).mono ?_
 rintro r w' ⟨As',hp,F',k1,k2,k3⟩
 refine ⟨As',hp,Chg.below h1 k2 (fun x hx=>h3 x (by simp [hx])),F' ++ F2,k1.app (h6.chg k2 (fun x hx hc=>h5 x hc hx)) (fun x hx hc=>?_),fun x hx=>?_⟩
 ·rcases k3 x hx with h | h
  ·exact h5 x h hc
  ·have:=h6.lt x hc;omega
 ·rcases List.mem_append.1 hx with h | h
  ·rcases k3 x h with h | h
   ·exact h3 x (by simp [h])
   ·omega
  ·exact h3 x (by simp [h])
theorem sep_one {w:World} {A:Asr} {F:List Nat}:Sep w [A] F ↔ A.at_ w F:=by
 constructor
 ·rintro ⟨F1,F2,rfl,h1,h2,h3⟩
  unfold Sep at h3;subst h3;simpa using h1
 ·intro h;exact ⟨F,[],by simp,h,fun _ _=>by simp,rfl⟩
theorem Own.call1 {w0 w:World} {A A':Asr} {R:List Asr} (h:Own w0 w (A :: R)) {P:Program} {f:FuncId} {args:Array Value} {ret:Ending → Prop}
  (hc:∀ F,A.at_ w F → Calls P f args w fun r w'=>ret r ∧ ∃ F',A'.at_ w' F' ∧ Chg F w w' ∧ ∀ x ∈ F',x ∈ F ∨ w.heap.size ≤ x) :
  Calls P f args w fun r w'=>ret r ∧ Own w0 w' (A' :: R):=by
 have:=Own.call (As:=[A]) (R:=R) h (P:=P) (f:=f) (args:=args) (post:=fun r l=>ret r ∧ l = [A']) (fun F hF=>(hc F (sep_one.1 hF)).mono (by
  rintro r w' ⟨h1,F',h2,h3,h4⟩;exact ⟨[A'],⟨h1,rfl⟩,F',sep_one.2 h2,h3,h4⟩))
 refine this.mono ?_
 rintro r w' ⟨_,⟨h1,rfl⟩,h2⟩
 exact ⟨h1,h2⟩
theorem Own.call2 {w0 w:World} {A B A' B':Asr} {R:List Asr} (h:Own w0 w (A :: B :: R)) {P:Program} {f:FuncId} {args:Array Value} {ret:Ending → Prop}
  (hc:∀ F G,A.at_ w F → B.at_ w G → (∀ x ∈ F,x ∉ G) → Calls P f args w fun r w'=>ret r ∧ ∃ F' G',A'.at_ w' F' ∧ B'.at_ w' G' ∧ (∀ x ∈ F',x ∉ G') ∧ Chg (F ++ G) w w' ∧ (∀ x ∈ F',x ∈ F ++ G ∨ w.heap.size ≤ x) ∧ ∀ x ∈ G',x ∈ F ++ G ∨ w.heap.size ≤ x) :
  Calls P f args w fun r w'=>ret r ∧ Own w0 w' (A' :: B' :: R):=by
 have:=Own.call (As:=[A,B]) (R:=R) h (P:=P) (f:=f) (args:=args) (post:=fun r l=>ret r ∧ l = [A',B']) (fun F hF=>by
  obtain ⟨F1,F2,rfl,h1,h2,h3⟩:=hF
  refine (hc F1 F2 h1 (sep_one.1 h3) h2).mono ?_
  rintro r w' ⟨k1,F',G',k2,k3,k4,k5,k6,k7⟩
  exact ⟨[A',B'],⟨k1,rfl⟩,F' ++ G',⟨F',G',rfl,k2,k4,sep_one.2 k3⟩,k5,fun x hx=>by
   rcases List.mem_append.1 hx with h | h
   ·exact k6 x h
   ·exact k7 x h⟩)
 refine this.mono ?_
 rintro r w' ⟨_,⟨h1,rfl⟩,h2⟩
 exact ⟨h1,h2⟩
theorem pick_perm {α:Type}:∀ (l:List α) (i:Nat) (a:α),l[i]? = some a → l.Perm (a :: l.eraseIdx i)
 | [],i,a,h=>by simp at h
 | x :: l,0,a,h=>by simp at h;subst h;simp
 | x :: l,i + 1,a,h=>by
  simp only [List.getElem?_cons_succ] at h
  exact ((pick_perm l i a h).cons x).trans (.swap a x _)
theorem back_perm {α:Type}:∀ (l:List α) (i:Nat) (a:α),i < l.length → (a :: l.eraseIdx i).Perm (l.set i a)
 | [],i,a,h=>by simp at h
 | x :: l,0,a,h=>by simp
 | x :: l,i + 1,a,h=>by
  simp only [List.eraseIdx_cons_succ,List.set_cons_succ]
  exact (List.Perm.swap x a _).trans ((back_perm l i a (by simpa using h)).cons x)
theorem Own.pick {w0 w:World} {As:List Asr} (h:Own w0 w As) (i:Nat) {A:Asr} (hi:As[i]? = some A):Own w0 w (A :: As.eraseIdx i):=h.perm (pick_perm As i A hi)
theorem Own.back {w0 w:World} {As:List Asr} {A:Asr} {i:Nat} (h:Own w0 w (A :: As.eraseIdx i)) (hi:i < As.length):Own w0 w (As.set i A):=h.perm (back_perm As i A hi)
theorem Own.fact {w0 w:World} {As:List Asr} (h:Own w0 w As) (i:Nat) {A:Asr} (hi:As[i]? = some A):∃ F,A.at_ w F ∧ ∀ x ∈ F,w0.heap.size ≤ x:=(h.pick i hi).head
theorem pick2_perm {α:Type} (l:List α) (i k:Nat) (a b:α) (hi:l[i]? = some a) (hk:l[k]? = some b) (hne:i ≠ k):∃ R,l.Perm (a :: b :: R) ∧ ∀ x y,(x :: y :: R).Perm ((l.set i x).set k y):=by
 have hil:=(List.getElem?_eq_some_iff.1 hi).1
 have hkl:=(List.getElem?_eq_some_iff.1 hk).1
 obtain ⟨k',hk',hs⟩:∃ k',(l.eraseIdx i)[k']? = some b ∧ ∀ y x,(x :: (l.eraseIdx i).set k' y).Perm ((l.set i x).set k y):=by
  by_cases h:i < k
  ·refine ⟨k - 1,by rw [List.getElem?_eraseIdx_of_ge (by omega),show k - 1 + 1 = k by omega];exact hk,fun y x=>?_⟩
   have e:(l.eraseIdx i).set (k - 1) y = (l.set k y).eraseIdx i:=by
    apply List.ext_getElem?
    intro j
    simp only [List.getElem?_set,List.getElem?_eraseIdx,List.length_eraseIdx]
    split <;> split <;> (try split) <;> (try split) <;> (try split) <;> simp_all <;> omega
   rw [e,List.set_comm _ _ hne]
   exact back_perm _ i x (by simpa using hil)
  ·refine ⟨k,by rw [List.getElem?_eraseIdx_of_lt (by omega)];exact hk,fun y x=>?_⟩
   have e:(l.eraseIdx i).set k y = (l.set k y).eraseIdx i:=by
    apply List.ext_getElem?
    intro j
    simp only [List.getElem?_set,List.getElem?_eraseIdx,List.length_eraseIdx]
    split <;> split <;> (try split) <;> (try split) <;> (try split) <;> simp_all <;> omega
   rw [e,List.set_comm _ _ hne]
   exact back_perm _ i x (by simpa using hil)
 refine ⟨(l.eraseIdx i).eraseIdx k',(pick_perm l i a hi).trans ((pick_perm _ k' b hk').cons a),fun x y=>?_⟩
 exact ((back_perm _ k' y (List.getElem?_eq_some_iff.1 hk').1).cons x).trans (hs y x)
def CelA (b:Nat) (cs:List Value):Asr where
 at_ w F:=F = [b] ∧ b < w.heap.size ∧ Blk w b cs
 lt:=by rintro w F ⟨rfl,h1,h2⟩ x hx;simp at hx;subst hx;exact h1
 chg:=by
  rintro w w' F G ⟨rfl,h1,h2⟩ c hd
  exact ⟨rfl,Nat.lt_of_lt_of_le h1 c.size,h2.chg c (hd b (by simp))⟩
def RowA (a:Option Addr) (cap:Nat) (l:List Int):Asr where
 at_ w F:=F = blk a ∧ RowAt w a cap l
 lt:=by rintro w F ⟨rfl,h1⟩ x hx;exact h1.lt x hx
 chg:=by rintro w w' F G ⟨rfl,h1⟩ c hd;exact ⟨rfl,h1.chg c hd⟩
theorem Own.cel {w0 w:World} {As:List Asr} (h:Own w0 w As) (i:Nat) {b:Nat} {cs:List Value} (hi:As[i]? = some (CelA b cs)):Blk w b cs:=by
 obtain ⟨F,⟨_,_,h1⟩,_⟩:=h.fact i hi;exact h1
theorem Own.row {w0 w:World} {As:List Asr} (h:Own w0 w As) (i:Nat) {a:Option Addr} {cap:Nat} {l:List Int} (hi:As[i]? = some (RowA a cap l)):RowAt w a cap l:=by
 obtain ⟨F,⟨_,h1⟩,_⟩:=h.fact i hi;exact h1
theorem Own.alloc {w0 w:World} {As:List Asr} (h:Own w0 w As) (l:List Value) (t:TypeId) {b:Nat} (hb:b = w.heap.size):Own w0 (w.alloc (.cells l.toArray t)) (CelA b l :: As) :=
 h.add (below_alloc1 _ _) (F:=[b]) ⟨rfl,by subst hb;simp,Blk.mk w l t b hb⟩ (fun x hx=>by simp at hx;omega)
theorem Own.set {w0 w:World} {As:List Asr} {b:Nat} {cs:List Value} (h:Own w0 w (CelA b cs :: As)) (k:Nat) (v:Value):Own w0 (w.setCell ⟨b,k,none⟩ v) (CelA b (cs.set k v) :: As):=by
 refine Own.turn (As:=[CelA b cs]) (As':=[CelA b (cs.set k v)]) (R:=As) h (fun F hF=>?_)
 obtain ⟨rfl,h1,h2⟩:=sep_one.1 hF
 exact ⟨[b],sep_one.2 ⟨rfl,by rw [World.size_setCell];exact h1,h2.set k v⟩,(Chg.refl _ _).setCell _ (.inl (by simp)),fun x hx=>.inl hx⟩
theorem Own.setAt {w0 w:World} {As:List Asr} (h:Own w0 w As) (i:Nat) {b:Nat} {cs:List Value} (hi:As[i]? = some (CelA b cs)) (k:Nat) (v:Value):Own w0 (w.setCell ⟨b,k,none⟩ v) (As.set i (CelA b (cs.set k v))) :=
 ((h.pick i hi).set k v).back (List.getElem?_eq_some_iff.1 hi).1
theorem lim4 {p q r s t:Prop} (h:p ∧ q ∧ r ∧ s ∧ t):t:=h.2.2.2.2
def EmpA:Asr where
 at_ w F:=F = []
 lt:=by rintro w F rfl x hx;simp at hx
 chg:=by rintro w w' F G rfl c hd;rfl
theorem Own.rot {w0 w:World} {A:Asr} {As:List Asr} (h:Own w0 w (A :: As)):Own w0 w (As ++ [A]):=h.perm (List.perm_append_singleton A As).symm
def RowG (s:Nat) (w:World) (a:Option Addr) (cap n:Nat) (cs:List Value):Prop :=
 cs.length = n * s ∧ n ≤ cap ∧ cap ≤ maxLen ∧ ((a = none ∧ cap = 0) ∨ ∃ b off,a = some ⟨b,off,none⟩ ∧ b < w.heap.size ∧
  (∀ j,j < cap * s → (w.cell? ⟨b,off + j,none⟩).isSome = true ∧ w.frozen? ⟨b,off + j,none⟩ = false) ∧ ∀ j v,cs[j]? = some v → w.cell? ⟨b,off + j,none⟩ = some v)
def CellsAt (w:World) (a:Option Addr) (cs:List Value):Prop:=∀ j v,cs[j]? = some v → ∃ b off,a = some ⟨b,off,none⟩ ∧ w.cell? ⟨b,off + j,none⟩ = some v
theorem CellsAt.below {w w':World} {a:Option Addr} {cs:List Value} (h:CellsAt w a cs) (hb:Below w.heap.size w w'):CellsAt w' a cs:=fun j v hj=>by
 obtain ⟨b,off,h1,h2⟩:=h j v hj
 exact ⟨b,off,h1,cell_below h2 hb⟩
theorem CellsAt.nil (w:World) (a:Option Addr):CellsAt w a []:=fun j v h=>by simp at h
theorem RowG.nil (s:Nat) (w:World):RowG s w none 0 0 []:=⟨by simp,by simp,by simp,.inl ⟨rfl,rfl⟩⟩
theorem RowG.cells {s:Nat} {w:World} {a:Option Addr} {cap n:Nat} {cs:List Value} (h:RowG s w a cap n cs):CellsAt w a cs:=fun j v hj=>by
 obtain ⟨h1,h2,h3,h4⟩:=h
 rcases h4 with ⟨rfl,h0⟩ | ⟨b,off,rfl,hb,h5,h6⟩
 ·have hl:=(List.getElem?_eq_some_iff.1 hj).1
  have:n = 0:=by omega
  subst this;simp at h1;subst h1;simp at hl
 ·exact ⟨b,off,rfl,h6 j v hj⟩
theorem RowG.lt {s:Nat} {w:World} {a:Option Addr} {cap n:Nat} {cs:List Value} (h:RowG s w a cap n cs):∀ x ∈ blk a,x < w.heap.size:=by
 rcases h.2.2.2 with ⟨rfl,_⟩ | ⟨b,off,rfl,hb,_⟩
 ·intro x hx;simp [blk] at hx
 ·intro x hx;simp [blk] at hx;subst hx;exact hb
theorem RowG.none0 {s:Nat} {w:World} {a:Option Addr} {cap n:Nat} {cs:List Value} (h:RowG s w a cap n cs) (e:a = none):cap = 0:=by
 rcases h.2.2.2 with ⟨_,h⟩ | ⟨_,_,h,_⟩
 ·exact h
 ·rw [e] at h;cases h
theorem RowG.chg {s:Nat} {F:List Nat} {w w':World} {a:Option Addr} {cap n:Nat} {cs:List Value} (h:RowG s w a cap n cs) (c:Chg F w w') (hd:∀ x ∈ blk a,x ∉ F):RowG s w' a cap n cs:=by
 refine ⟨h.1,h.2.1,h.2.2.1,?_⟩
 rcases h.2.2.2 with h0 | ⟨b,off,rfl,hb,h1,h2⟩
 ·exact .inl h0
 ·have hk:=c.block b hb (hd b (by simp [blk]))
  refine .inr ⟨b,off,rfl,Nat.lt_of_lt_of_le hb c.size,fun j hj=>?_,fun j v hj=>?_⟩
  ·rw [cell_of_heap hk,World.frozen?_of_block (a:=⟨b,off + j,none⟩) hk];exact h1 j hj
  ·rw [cell_of_heap hk];exact h2 j v hj
theorem RowG.below {s:Nat} {w w':World} {a:Option Addr} {cap n:Nat} {cs:List Value} (h:RowG s w a cap n cs) (hb:Below w.heap.size w w'):RowG s w' a cap n cs :=
 h.chg (Chg.of_below (F:=[]) hb) (fun _ _=>by simp)
theorem RowG.zero {s:Nat} {w:World} {b:Nat} (hb:b < w.heap.size):RowG s w (some ⟨b,0,none⟩) 0 0 []:=⟨by simp,by simp,by simp,.inr ⟨b,0,rfl,hb,fun j hj=>by simp at hj,fun j v hj=>by simp at hj⟩⟩
theorem RowG.new (s n:Nat) (w:World) (cs:List Value) (t:TypeId) (hn:cs.length = n * s) (hl:n ≤ maxLen) {b:Nat} (hb:b = w.heap.size):RowG s (w.alloc (.cells cs.toArray t)) (some ⟨b,0,none⟩) n n cs:=by
 subst hb
 have hB:=Blk.new w cs.toArray t
 refine ⟨hn,Nat.le_refl _,hl,.inr ⟨_,0,rfl,by simp,fun j hj=>?_,fun j v hj=>?_⟩⟩
 ·rw [Nat.zero_add]
  obtain ⟨h1,h2⟩:=hB j _ (List.getElem?_eq_getElem (show j < cs.length by omega))
  exact ⟨by rw [h1];rfl,h2⟩
 ·rw [Nat.zero_add];exact (hB j v hj).1
theorem CellsAt.new (w:World) (cs:List Value) (t:TypeId) {b:Nat} (hb:b = w.heap.size):CellsAt (w.alloc (.cells cs.toArray t)) (some ⟨b,0,none⟩) cs:=fun j v hj=>by
 subst hb
 exact ⟨_,0,rfl,by rw [Nat.zero_add];exact (Blk.new w cs.toArray t j v hj).1⟩
theorem CellsAt.chg {F:List Nat} {w w':World} {a:Option Addr} {cs:List Value} (h:CellsAt w a cs) (c:Chg F w w') (hd:∀ x ∈ blk a,x ∉ F):CellsAt w' a cs:=fun j v hj=>by
 obtain ⟨b,off,rfl,h2⟩:=h j v hj
 exact ⟨b,off,rfl,cell_chg h2 c (hd b (by simp [blk]))⟩
theorem slice_fromG {P:Program} {t:TypeId} {s:Nat} (ht:P.underlying t = some (.slice (P.elem t))) (hs:∀ w,(sizeOf (P.elem t)).run P w = .ok s w) {w0:World} {a:Option Addr} {cap n:Nat} {cs:List Value} (h:RowG s w0 a cap n cs) (m:Nat) (hm:m ≤ n) :
  ∃ a',(∀ w,(Instr.slice t (.slice a n cap) (some (.int .i64 (m:Int))) none none).run P w = .ok (.slice a' (n - m) (cap - m)) w) ∧ RowG s w0 a' (cap - m) (n - m) (cs.drop (m * s)) ∧ blk a' = blk a:=by
 have hl:=h.2.1
 have h1l:=h.1
 have hdl:(cs.drop (m * s)).length = (n - m) * s:=by rw [List.length_drop,h1l,Nat.sub_mul]
 rcases h.2.2.2 with ⟨rfl,rfl⟩ | ⟨b,off,rfl,hb,h1,h2⟩
 ·obtain rfl:n = 0:=by omega
  obtain rfl:m = 0:=by omega
  refine ⟨none,fun w=>?_,⟨hdl,by omega,by simp,.inl ⟨rfl,rfl⟩⟩,rfl⟩
  rw [run_slice_l (P:=P) (t:=t) (ht:=ht) (kl:=.i64) (l:=((0:Nat):Int)) (h0:=by omega) (h1:=by simp),hs]
  simp [Result.andThen,sliced]
 ·by_cases hc:cap = m
  ·refine ⟨some ⟨b,off,none⟩,fun w=>?_,⟨hdl,by omega,by have:=h.2.2.1;omega,.inr ⟨b,off,rfl,hb,fun j hj=>?_,fun j v hj=>?_⟩⟩,rfl⟩
   ·rw [run_slice_l (P:=P) (t:=t) (ht:=ht) (kl:=.i64) (l:=(m:Int)) (h0:=by omega) (h1:=by omega),hs]
    simp [Result.andThen,sliced,hc]
   ·rw [hc] at hj;simp at hj
   ·have:cs.drop (m * s) = []:=List.length_eq_zero_iff.1 (by rw [hdl,show n - m = 0 by omega];simp)
    rw [this] at hj;simp at hj
  ·refine ⟨some ⟨b,off + m * s,none⟩,fun w=>?_,⟨hdl,by omega,by have:=h.2.2.1;omega,.inr ⟨b,off + m * s,rfl,hb,fun j hj=>?_,fun j v hj=>?_⟩⟩,rfl⟩
   ·rw [run_slice_l (P:=P) (t:=t) (ht:=ht) (kl:=.i64) (l:=(m:Int)) (h0:=by omega) (h1:=by omega),hs]
    by_cases hm0:m = 0
    ·subst hm0;simp [Result.andThen,sliced,hc,Addr.add]
    ·simp [Result.andThen,sliced,hc,Addr.add,hm0]
     try (intro hz;omega)
   ·have hlt:m * s + j < cap * s:=by
     have:cap * s = m * s + (cap - m) * s:=by rw [← Nat.add_mul];congr 1;omega
     omega
    have:=h1 (m * s + j) hlt
    rwa [← Nat.add_assoc] at this
   ·have:=h2 (m * s + j) v (by rw [List.getElem?_drop] at hj;exact hj)
    rwa [← Nat.add_assoc] at this
theorem RowG.take {s:Nat} {w:World} {a:Option Addr} {cap n:Nat} {cs:List Value} (h:RowG s w a cap n cs) (m:Nat) (hm:m ≤ n):RowG s w a cap m (cs.take (m * s)):=by
 obtain ⟨h1,h2,h3,h4⟩:=h
 have hms:m * s ≤ n * s:=Nat.mul_le_mul_right _ hm
 refine ⟨by rw [List.length_take];omega,by omega,h3,?_⟩
 rcases h4 with h0 | ⟨b,off,rfl,hb,h5,h6⟩
 ·exact .inl h0
 ·refine .inr ⟨b,off,rfl,hb,h5,fun j v hj=>h6 j v ?_⟩
  rw [List.getElem?_take] at hj
  split at hj
  ·exact hj
  ·simp at hj
theorem RowG.of_own {s:Nat} {w:World} {base n:Nat} {e:TypeId} {v:Value} {cs:List Value} (h:w.ownsRow base e s v n cs):∃ a cap,v = .slice a n cap ∧ RowG s w a cap n cs ∧ ∀ x ∈ blk a,base ≤ x:=by
 have hx:=h.1
 rcases h.2 with ⟨rfl,h0⟩ | ⟨g,cap,cur,rfl,hb,hg,h1,h2,h3,h4⟩
 ·exact ⟨none,0,by rw [h0],⟨hx,by omega,by simp,.inl ⟨rfl,rfl⟩⟩,fun x hx=>by simp [blk] at hx⟩
 ·have hlt:g < w.heap.size:=(Array.getElem?_eq_some_iff.1 hg).1
  refine ⟨_,cap,rfl,⟨hx,h1,h2,.inr ⟨g,0,rfl,hlt,fun j hj=>⟨?_,?_⟩,fun j v hj=>?_⟩⟩,fun x hx=>by simp [blk] at hx;subst hx;exact hb⟩
  ·rw [Nat.zero_add,cell_of_row w g j cur e (0,0) hg,Array.getElem?_eq_getElem (by omega)];rfl
  ·rw [Nat.zero_add];exact frozen_of_row w g j cur e hg
  ·rw [Nat.zero_add,cell_of_row w g j cur e (0,0) hg]
   rw [← h4,List.getElem?_take] at hj
   split at hj
   ·simpa using hj
   ·cases hj
theorem append_rowG {P:Program} {w:World} {s by_:Nat} (t ty e:TypeId) (i:TypeInfo) (z:Value) (ht:P.underlying t = some (.slice e)) (hi:P.info? e = some i) (hz:i.zero = some z) (hsize:i.size = s) (hby:i.bytes = by_) (hzs:z.cells.size = s) (hs0:0 < s) (hb0:by_ ≤ 1000)
  {a b:Option Addr} {cap c n m:Nat} {cs ds:List Value} (ha:RowG s w a cap n cs) (hb:CellsAt w b ds) (hd:ds.length = m * s) (hone:∀ u ∈ ds,u.oneCell' = true) (h47:n + m ≤ 1000000000) :
  ∃ a' cap' w',(Builtin.append_ #[t,t] ty #[.slice a n cap,.slice b m c]).run P w = .ok (.slice a' (n + m) cap') w' ∧ RowG s w' a' cap' (n + m) (cs ++ ds) ∧ Chg (blk a) w w' ∧ ∀ x ∈ blk a',x ∈ blk a ∨ w.heap.size ≤ x:=by
 have hbyt:(n + m) * by_ ≤ 140737488355328:=Nat.le_trans (Nat.mul_le_mul h47 hb0) (by omega)
 cases b with
 | none =>
  have hdn:ds = []:=by
   cases ds with
   | nil=>rfl
   | cons x t=>obtain ⟨_,_,h1,_⟩:=hb 0 x rfl;cases h1
  subst hdn
  have:m = 0:=by
   have h0:m * s = 0:=by rw [← hd];rfl
   rcases Nat.mul_eq_zero.1 h0 with h | h
   ·exact h
   ·omega
  subst this
  have hl:=ha.2.1
  refine ⟨a,cap,w,?_,by simpa using ha,Chg.refl _ _,fun x hx=>.inl hx⟩
  cases a <;> simp [Builtin.append_,run_underlying ht,sizeOf,typeInfo,hi,Builtin.lenOf,Builtin.firstCells,storeCells,hl]
 | some ad =>
  by_cases hm0:m = 0
  ·subst hm0
   have hdn:ds = []:=List.length_eq_zero_iff.1 (by rw [hd];simp)
   subst hdn
   have hl:=ha.2.1
   refine ⟨a,cap,w,?_,by simpa using ha,Chg.refl _ _,fun x hx=>.inl hx⟩
   cases a <;> simp [Builtin.append_,run_underlying ht,sizeOf,typeInfo,hi,Builtin.lenOf,Builtin.firstCells,storeCells,loadCells,loadCellsFrom,hl]
  have hnews:∀ j u,ds[j]? = some u → w.cell? (ad.add j) = some u:=fun j u hj=>by
   obtain ⟨b,off,h1,h2⟩:=hb j u hj
   cases h1
   rw [Addr.add_lit,h2]
  rcases ha.2.2.2 with ⟨rfl,h0⟩ | ⟨b,off,rfl,hbl,h1,h2⟩
  ·obtain rfl:n = 0:=by have:=ha.2.1;omega
   have hl0:cs = []:=List.length_eq_zero_iff.1 (by have:=ha.1;omega)
   subst hl0
   subst h0
   obtain ⟨v',w',hr,r1,r2,_⟩:=run_append_own (P:=P) w w.heap.size t ty e i z s by_ ht hi hz hsize hby hzs hs0 (.slice none 0 0) 0 [] (World.ownsRow_nil _ _ _ _) ad m c ds hd hnews hone (by unfold maxLen;omega) hbyt (Nat.le_refl _)
   simp only [List.nil_append] at r1
   obtain ⟨a',cap',rfl,hrow,hbase⟩:=RowG.of_own r1
   exact ⟨a',cap',w',hr,by simpa using hrow,grownBy_chg r2 |>.mono (by simp [Value.ownBlock,blk]),fun x hx=>.inr (hbase x hx)⟩
  ·by_cases hroom:n + m ≤ cap
   ·have hcap:(n + m) * s ≤ cap * s:=Nat.mul_le_mul_right _ hroom
    rw [Nat.add_mul] at hcap
    have hr:=run_append_room_cells (P:=P) w t ty e i ht hi b off n cap ad m c ds (by rw [hd,hsize]) hnews hone hroom
     (fun j hj=>by rw [hsize];have:=(h1 (n * s + j) (by omega)).1;rwa [← Nat.add_assoc] at this)
     (fun j hj=>by rw [hsize];have:=(h1 (n * s + j) (by omega)).2;rwa [← Nat.add_assoc] at this)
    rw [hsize] at hr
    have hin:=World.cell?_setCells_in b ds (off + n * s) w (fun j hj=>by have:=(h1 (n * s + j) (by omega)).1;rwa [← Nat.add_assoc] at this)
    have hcl:=ha.1
    refine ⟨_,cap,_,hr,⟨by rw [List.length_append,hd,hcl,Nat.add_mul],hroom,ha.2.2.1,.inr ⟨b,off,rfl,Nat.lt_of_lt_of_le hbl ((Chg.refl [b] w).setCells ds (off + n * s) (.inl (by simp))).size,fun j hj=>⟨?_,?_⟩,fun j v hj=>?_⟩⟩,(Chg.refl _ _).setCells _ _ (.inl (by simp [blk])),fun x hx=>.inl hx⟩
    ·by_cases hj2:n * s ≤ j ∧ j < n * s + m * s
     ·have:=hin (j - n * s) (by omega)
      rw [show off + n * s + (j - n * s) = off + j by omega] at this
      rw [this];rfl
     ·rw [World.cell?_setCells_out b ds _ w _ (fun _ _=>by simp only;omega)]
      exact (h1 j hj).1
    ·rw [World.frozen?_setCells];exact (h1 j hj).2
    ·by_cases hj2:j < n * s
     ·rw [List.getElem?_append_left (by omega)] at hj
      rw [World.cell?_setCells_out b ds _ w _ (fun _ _=>by simp only;omega)]
      exact h2 j v hj
     ·rw [List.getElem?_append_right (by omega),hcl] at hj
      have hlt:j - n * s < ds.length:=(List.getElem?_eq_some_iff.1 hj).1
      have:=hin (j - n * s) hlt
      rw [show off + n * s + (j - n * s) = off + j by omega] at this
      rw [this]
      rw [List.getElem?_eq_getElem hlt] at hj
      exact hj
   ·obtain ⟨v',w',hr,r1,r2⟩:=run_append_arg_grows (P:=P) w t ty e i z s by_ ht hi hz hsize hby hzs hs0 ⟨b,off,none⟩ n cap cs ha.1 (fun j u hj=>by rw [Addr.add_lit];exact h2 j u hj) ad m c ds hd hnews (by omega) (by unfold maxLen;omega) hbyt
    obtain ⟨a',cap',rfl,hrow,hbase⟩:=RowG.of_own r1
    exact ⟨a',cap',w',hr,hrow,(grownBy_chg r2).mono (by simp),fun x hx=>.inr (hbase x hx)⟩
theorem wpList_append_rowG {P:Program} {w:World} {ops:Array Oper} {rest:List Oper} {o:Oper} {ac:Act} {Q:Exit → Act → World → Prop} {s by_:Nat} (hgd:o.guard = none) (sl x:Operand) (t:TypeId)
  (ho:o.op = .call { callee:=.builtin .append,args:=#[sl,x],argTypes:=#[t,t] }) (e:TypeId) (i:TypeInfo) (z:Value) (ht:P.underlying t = some (.slice e)) (hi:P.info? e = some i) (hz:i.zero = some z) (hsize:i.size = s) (hby:i.bytes = by_) (hzs:z.cells.size = s) (hs0:0 < s) (hb0:by_ ≤ 1000)
  {a b:Option Addr} {cap c n m:Nat} {cs ds:List Value} (hs:ac.eval sl = .slice a n cap) (hx:ac.eval x = .slice b m c) (ha:RowG s w a cap n cs) (hb:CellsAt w b ds) (hd:ds.length = m * s) (hone:∀ u ∈ ds,u.oneCell' = true) (h47:n + m ≤ 1000000000)
  (h:∀ a' cap' w',RowG s w' a' cap' (n + m) (cs ++ ds) → Chg (blk a) w w' → (∀ x ∈ blk a',x ∈ blk a ∨ w.heap.size ≤ x) → wpList P ops Q rest (ac.put o.dst (.slice a' (n + m) cap')) w'):wpList P ops Q (o :: rest) ac w:=by
 refine wpList_plain hgd fun K hK=>?_
 obtain ⟨a',cap',w',hr,h2,h3,h4⟩:=append_rowG (P:=P) (w:=w) t o.type e i z ht hi hz hsize hby hzs hs0 hb0 ha (c:=c) hb hd hone h47
 unfold Oper.wp execOp
 simp only [ho,resolve,invoke,builtin,Sem.run_bind,Sem.run_pure,Result.andThen_ok,List.map_toArray,List.map_cons,List.map_nil,hs,hx,hr]
 exact hK _ _ (h a' cap' w' h2 h3 h4)
theorem step_append_rowG {P:Program} {w:World} {ops:Array Oper} {o:Oper} {ac:Act} {K:Act → World → Prop} {Q:Exit → Act → World → Prop} {E:Prop} {s by_:Nat} (hgd:o.guard = none) (sl x:Operand) (t:TypeId)
  (ho:o.op = .call { callee:=.builtin .append,args:=#[sl,x],argTypes:=#[t,t] }) (e:TypeId) (i:TypeInfo) (z:Value) (ht:P.underlying t = some (.slice e)) (hi:P.info? e = some i) (hz:i.zero = some z) (hsize:i.size = s) (hby:i.bytes = by_) (hzs:z.cells.size = s) (hs0:0 < s) (hb0:by_ ≤ 1000)
  {a b:Option Addr} {cap c n m:Nat} {cs ds:List Value} (hs:ac.eval sl = .slice a n cap) (hx:ac.eval x = .slice b m c) (ha:RowG s w a cap n cs) (hb:CellsAt w b ds) (hd:ds.length = m * s) (hone:∀ u ∈ ds,u.oneCell' = true) (h47:n + m ≤ 1000000000)
  (h:∀ a' cap' w',RowG s w' a' cap' (n + m) (cs ++ ds) → Chg (blk a) w w' → (∀ x ∈ blk a',x ∈ blk a ∨ w.heap.size ≤ x) → K (ac.put o.dst (.slice a' (n + m) cap')) w'):if Region.wanted o (yielded ops ac.tmps) = true then Oper.wp P o ac w K Q else E:=by
 have hw:Region.wanted o (yielded ops ac.tmps) = true:=by simp [Region.wanted,hgd]
 rw [if_pos hw]
 obtain ⟨a',cap',w',hr,h2,h3,h4⟩:=append_rowG (P:=P) (w:=w) t o.type e i z ht hi hz hsize hby hzs hs0 hb0 ha (c:=c) hb hd hone h47
 unfold Oper.wp execOp
 simp only [ho,resolve,invoke,builtin,Sem.run_bind,Sem.run_pure,Result.andThen_ok,List.map_toArray,List.map_cons,List.map_nil,hs,hx,hr]
 exact h a' cap' w' h2 h3 h4
theorem RowG.of_row {w:World} {a:Option Addr} {cap:Nat} {l:List Int} (h:RowAt w a cap l):RowG 1 w a cap l.length (intc l):=⟨by rw [intc_len];simp,h.1,h.2.1,by simpa using h.2.2⟩
theorem RowG.to_row {w:World} {a:Option Addr} {cap n:Nat} {l:List Int} (h:RowG 1 w a cap n (intc l)):RowAt w a cap l ∧ n = l.length:=by
 have h1:=h.1
 rw [intc_len,Nat.mul_one] at h1
 exact ⟨⟨by rw [h1];exact h.2.1,h.2.2.1,by simpa using h.2.2.2⟩,h1.symm⟩
def RowGA (s:Nat) (a:Option Addr) (cap n:Nat) (cs:List Value):Asr where
 at_ w F:=F = blk a ∧ RowG s w a cap n cs
 lt:=by rintro w F ⟨rfl,h1⟩ x hx;exact h1.lt x hx
 chg:=by rintro w w' F G ⟨rfl,h1⟩ c hd;exact ⟨rfl,h1.chg c hd⟩
def PoolG (rs:List (Option Addr × List Value)):Asr where
 at_ w F:=(∀ x ∈ F,x < w.heap.size) ∧ ∀ r ∈ rs,(∀ x ∈ blk r.1,x ∈ F) ∧ CellsAt w r.1 r.2
 lt:=fun h=>h.1
 chg:=by
  rintro w w' F G ⟨h1,h2⟩ c hd
  exact ⟨fun x hx=>Nat.lt_of_lt_of_le (h1 x hx) c.size,fun r hr=>⟨(h2 r hr).1,(h2 r hr).2.chg c (fun x hx=>hd x ((h2 r hr).1 x hx))⟩⟩
theorem Own.poolGAdd {w0 w w':World} {As:List Asr} {rs:List (Option Addr × List Value)} (h:Own w0 w (PoolG rs :: As)) (hb:Below w.heap.size w w') {a':Option Addr} {cs:List Value}
  (ha:CellsAt w' a' cs) (hl:∀ x ∈ blk a',x < w'.heap.size) (hx:∀ x ∈ blk a',(∃ r ∈ rs,x ∈ blk r.1) ∨ w.heap.size ≤ x):Own w0 w' (PoolG ((a',cs) :: rs) :: As):=by
 obtain ⟨h1,F,⟨F1,F2,rfl,⟨h2,h2'⟩,h3,h4⟩,h5⟩:=h
 have hs:=h1.size
 have hs2:=hb.size
 refine ⟨below_on h1 hb,(F1 ++ (blk a').filter (fun x=>decide (w.heap.size ≤ x))) ++ F2,⟨_,F2,rfl,⟨fun x hx=>?_,fun q hq=>?_⟩,fun x hx hc=>?_,h4.chg (Chg.of_below (F:=[]) hb) (fun _ _=>by simp)⟩,fun x hx=>?_⟩
 ·rcases List.mem_append.1 hx with h | h
  ·have:=h2 x h;omega
  ·exact hl x (List.mem_filter.1 h).1
 ·rcases List.mem_cons.1 hq with rfl | hq
  ·refine ⟨fun x hx'=>?_,ha⟩
   rcases hx x hx' with ⟨r,hr,h⟩ | h
   ·exact List.mem_append.2 (.inl ((h2' r hr).1 x h))
   ·exact List.mem_append.2 (.inr (List.mem_filter.2 ⟨hx',by simpa using h⟩))
  ·exact ⟨fun x hx=>List.mem_append.2 (.inl ((h2' q hq).1 x hx)),(h2' q hq).2.below hb⟩
 ·rcases List.mem_append.1 hx with h | h
  ·exact h3 x h hc
  ·have h6:decide (w.heap.size ≤ x) = true:=(List.mem_filter.1 h).2
   have h7:=h4.lt x hc
   have h8:=of_decide_eq_true h6
   omega
 ·rcases List.mem_append.1 hx with h | h
  ·rcases List.mem_append.1 h with h | h
   ·exact h5 x (by simp [h])
   ·have h6:decide (w.heap.size ≤ x) = true:=(List.mem_filter.1 h).2
    have h8:=of_decide_eq_true h6
    omega
  ·exact h5 x (by simp [h])
theorem Own.poolGGet {w0 w:World} {As:List Asr} {rs:List (Option Addr × List Value)} (h:Own w0 w As) (i:Nat) (hi:As[i]? = some (PoolG rs)) {r:Option Addr × List Value} (hr:r ∈ rs):CellsAt w r.1 r.2 ∧ ∀ x ∈ blk r.1,x < w.heap.size:=by
 obtain ⟨F,⟨h1,h2⟩,_⟩:=h.fact i hi
 exact ⟨(h2 r hr).2,fun x hx=>h1 x ((h2 r hr).1 x hx)⟩
theorem CellsAt.int {w:World} {a:Option Addr} {l:List Int} (h:CellsAt w a (intc l)) (i:Nat) (hi:i < l.length):∃ b off,a = some ⟨b,off,none⟩ ∧ w.cell? ⟨b,off + i,none⟩ = some (.int .i64 l[i]):=h _ _ (intc_at l i hi)
theorem Own.rowG {w0 w:World} {As:List Asr} (h:Own w0 w As) (i:Nat) {s:Nat} {a:Option Addr} {cap n:Nat} {cs:List Value} (hi:As[i]? = some (RowGA s a cap n cs)):RowG s w a cap n cs:=by
 obtain ⟨F,⟨_,h1⟩,_⟩:=h.fact i hi;exact h1
theorem Own.rowTurn {w0 w w':World} {As:List Asr} {s:Nat} {a a':Option Addr} {cap cap' n n':Nat} {cs cs':List Value} (h:Own w0 w (RowGA s a cap n cs :: As)) (hr:RowG s w' a' cap' n' cs') (c:Chg (blk a) w w') (hf:∀ x ∈ blk a',x ∈ blk a ∨ w.heap.size ≤ x) :
  Own w0 w' (RowGA s a' cap' n' cs' :: As):=by
 refine Own.turn (As:=[RowGA s a cap n cs]) (As':=[RowGA s a' cap' n' cs']) (R:=As) h (fun F hF=>?_)
 obtain ⟨rfl,h1⟩:=sep_one.1 hF
 exact ⟨blk a',sep_one.2 ⟨rfl,hr⟩,c,hf⟩
theorem Own.unfold {w0 w:World} {A:Asr} {R:List Asr} (h:Own w0 w (A :: R)) {P:List Asr → Prop} (hA:∀ F,A.at_ w F → ∃ As,P As ∧ Sep w As F):∃ As,P As ∧ Own w0 w (As ++ R):=by
 obtain ⟨h1,F,⟨F1,F2,rfl,h2,h3,h4⟩,h5⟩:=h
 obtain ⟨As,hp,hs⟩:=hA F1 h2
 exact ⟨As,hp,h1,F1 ++ F2,hs.app h4 h3,h5⟩
theorem Own.fold {w0 w:World} {A:Asr} {As R:List Asr} (h:Own w0 w (As ++ R)) (hA:∀ F,Sep w As F → A.at_ w F):Own w0 w (A :: R):=by
 obtain ⟨h1,F,h2,h5⟩:=h
 obtain ⟨F1,F2,rfl,h3,h4,h6⟩:=h2.split
 exact ⟨h1,F1 ++ F2,⟨F1,F2,rfl,hA F1 h3,h4,h6⟩,h5⟩
theorem RowG.setCell {s:Nat} {w:World} {b off cap n:Nat} {cs:List Value} (h:RowG s w (some ⟨b,off,none⟩) cap n cs) (j:Nat) (v:Value) (hj:j < cs.length):RowG s (w.setCell ⟨b,off + j,none⟩ v) (some ⟨b,off,none⟩) cap n (cs.set j v):=by
 obtain ⟨h1,h2,h3,h4⟩:=h
 rcases h4 with ⟨h0,_⟩ | ⟨b',off',hb',hlt,h5,h6⟩
 ·cases h0
 ·simp only [Option.some.injEq,Addr.mk.injEq,and_true] at hb'
  obtain ⟨rfl,rfl⟩:=hb'
  have hms:n * s ≤ cap * s:=Nat.mul_le_mul_right _ h2
  refine ⟨by rw [List.length_set];exact h1,h2,h3,.inr ⟨b,off,rfl,by rw [World.size_setCell];exact hlt,fun k hk=>⟨?_,by rw [World.frozen?_setCell];exact (h5 k hk).2⟩,fun k u hk=>?_⟩⟩
  ·by_cases e:k = j
   ·subst e;rw [World.cell?_setCell_same' _ _ _ (h5 k hk).1];rfl
   ·rw [World.cell?_setCell_other _ _ _ _ (by simp <;> omega)];exact (h5 k hk).1
  ·by_cases e:k = j
   ·subst e
    rw [List.getElem?_set_self hj] at hk
    obtain rfl:v = u:=by simpa using hk
    exact World.cell?_setCell_same' _ _ _ (h5 k (by omega)).1
   ·rw [List.getElem?_set_ne (by omega)] at hk
    rw [World.cell?_setCell_other _ _ _ _ (by simp <;> omega)];exact h6 k u hk
theorem Own.rowSet {w0 w:World} {As:List Asr} {s b off cap n:Nat} {cs:List Value} (h:Own w0 w (RowGA s (some ⟨b,off,none⟩) cap n cs :: As)) (j:Nat) (v:Value) (hj:j < cs.length):Own w0 (w.setCell ⟨b,off + j,none⟩ v) (RowGA s (some ⟨b,off,none⟩) cap n (cs.set j v) :: As) :=
 Own.rowTurn h ((h.rowG 0 rfl).setCell j v hj) ((Chg.refl _ _).setCell _ (.inl (by simp [blk]))) (fun x hx=>.inl hx)
theorem RowG.spot {s:Nat} {w:World} {b off cap n:Nat} {cs:List Value} (h:RowG s w (some ⟨b,off,none⟩) cap n cs) (j:Nat) (hj:j < cap * s):∃ v,w.cell? ⟨b,off + j,none⟩ = some v ∧ w.frozen? ⟨b,off + j,none⟩ = false:=by
 rcases h.2.2.2 with ⟨h0,_⟩ | ⟨b',off',hb',hlt,h5,h6⟩
 ·cases h0
 ·simp only [Option.some.injEq,Addr.mk.injEq,and_true] at hb'
  obtain ⟨rfl,rfl⟩:=hb'
  obtain ⟨v,hv⟩:=Option.isSome_iff_exists.1 (h5 j hj).1
  exact ⟨v,hv,(h5 j hj).2⟩
theorem flat_len {α:Type} (f:α → List Value) (s:Nat) (hf:∀ x,(f x).length = s):∀ l:List α,(l.flatMap f).length = l.length * s
 | []=>by simp
 | x :: l=>by rw [List.flatMap_cons,List.length_append,hf,flat_len f s hf l,List.length_cons,Nat.add_mul];omega
theorem flat_at {α:Type} (f:α → List Value) (s:Nat) (hf:∀ x,(f x).length = s):∀ (l:List α) (i k:Nat) (hi:i < l.length),k < s → (l.flatMap f)[i * s + k]? = (f l[i])[k]?
 | [],i,k,hi,_=>by simp at hi
 | x :: l,0,k,_,hk=>by rw [List.flatMap_cons,Nat.zero_mul,Nat.zero_add,List.getElem?_append_left (by rw [hf];exact hk)];rfl
 | x :: l,i + 1,k,hi,hk=>by
  have ih:=flat_at f s hf l i k (by simpa using hi) hk
  have e:(i + 1) * s + k = s + (i * s + k):=by rw [Nat.add_mul];omega
  rw [List.flatMap_cons,e,List.getElem?_append_right (by rw [hf];omega),hf,Nat.add_sub_cancel_left,ih]
  rfl
def setL (cs:List Value) (o:Nat):List Value → List Value
 | []=>cs
 | v :: vs=>setL (cs.set o v) (o + 1) vs
theorem setL_at:∀ (vs:List Value) (cs:List Value) (o j:Nat),(setL cs o vs)[j]? = if o ≤ j ∧ j < o + vs.length ∧ j < cs.length then vs[j - o]? else cs[j]?
 | [],cs,o,j=>by
  rw [if_neg (by simp;omega)];rfl
 | v :: vs,cs,o,j=>by
  rw [setL,setL_at vs (cs.set o v) (o + 1) j]
  simp only [List.length_set,List.length_cons]
  by_cases h:o = j
  ·subst h
   rw [if_neg (by omega)]
   by_cases hl:o < cs.length
   ·rw [if_pos (by omega),List.getElem?_set_self hl];simp
   ·rw [if_neg (by omega),List.getElem?_eq_none (by simp;omega),List.getElem?_eq_none (by omega)]
  ·rw [List.getElem?_set_ne h]
   by_cases h2:o + 1 ≤ j ∧ j < o + 1 + vs.length ∧ j < cs.length
   ·rw [if_pos h2,if_pos (by omega),show j - o = (j - (o + 1)) + 1 by omega];rfl
   ·rw [if_neg h2,if_neg (by omega)]
theorem flat_set {α:Type} (f:α → List Value) (s:Nat) (hf:∀ x,(f x).length = s) (l:List α) (i:Nat) (x:α) (hi:i < l.length):setL (l.flatMap f) (i * s) (f x) = (l.set i x).flatMap f:=by
 have hL:=flat_len f s hf
 apply List.ext_getElem?
 intro j
 rw [setL_at,hf,hL]
 by_cases hs:s = 0
 ·subst hs
  rw [if_neg (by omega),List.getElem?_eq_none (by rw [hL];omega),List.getElem?_eq_none (by rw [hL];omega)]
 by_cases hj:j < l.length * s
 ·have hd:j / s < l.length:=Nat.div_lt_of_lt_mul (by rw [Nat.mul_comm];exact hj)
  have hm:j % s < s:=Nat.mod_lt _ (by omega)
  have e:j = j / s * s + j % s:=by rw [Nat.mul_comm];exact (Nat.div_add_mod j s).symm
  have r1:=flat_at f s hf (l.set i x) (j / s) (j % s) (by simpa using hd) hm
  have r2:=flat_at f s hf l (j / s) (j % s) hd hm
  rw [← e] at r1 r2
  rw [r1]
  by_cases hi2:j / s = i
  ·have e2:(l.set i x)[j / s]'(by simpa using hd) = x:=by simp [hi2]
   rw [e2]
   have e3:j - i * s = j % s:=by rw [← hi2];omega
   rw [if_pos ⟨by rw [← hi2];omega,by rw [← hi2];omega,hj⟩,e3]
  ·have e2:(l.set i x)[j / s]'(by simpa using hd) = l[j / s]:=by rw [List.getElem_set_ne (by omega)]
   rw [e2,← r2,if_neg]
   rintro ⟨h1,h2,h3⟩
   have h4:i ≤ j / s:=by rw [Nat.le_div_iff_mul_le (by omega)];exact h1
   have h5:j / s < i + 1:=by rw [Nat.div_lt_iff_lt_mul (by omega),Nat.add_mul];omega
   omega
 ·rw [if_neg (by omega),List.getElem?_eq_none (by rw [hL];omega),List.getElem?_eq_none (by rw [hL];simp;omega)]
theorem CellsAt.rec {α:Type} {f:α → List Value} {s:Nat} (hf:∀ x,(f x).length = s) {w:World} {a:Option Addr} {l:List α} (h:CellsAt w a (l.flatMap f)) (i:Nat) (hi:i < l.length) (hs:0 < s) :
  ∃ b off,a = some ⟨b,off,none⟩ ∧ ∀ k v,(f l[i])[k]? = some v → w.cell? ⟨b,off + i * s + k,none⟩ = some v:=by
 have h0:=flat_at f s hf l i 0 hi hs
 obtain ⟨v0,hv0⟩:∃ v,(f l[i])[0]? = some v:=by
  have hl0:0 < (f l[i]).length:=by rw [hf];exact hs
  exact ⟨_,List.getElem?_eq_getElem hl0⟩
 rw [hv0] at h0
 obtain ⟨b,off,rfl,e1⟩:=h _ _ h0
 refine ⟨b,off,rfl,fun k v hk=>?_⟩
 have hks:k < s:=by have:=(List.getElem?_eq_some_iff.1 hk).1;rw [hf] at this;exact this
 have h1:=flat_at f s hf l i k hi hks
 rw [hk] at h1
 obtain ⟨b2,o2,e,e2⟩:=h _ _ h1
 cases e
 rw [Nat.add_assoc];exact e2
theorem wp_append_rowG {P:Program} {w:World} {o:Oper} {ac:Act} {K:Act → World → Prop} {Q:Exit → Act → World → Prop} {s by_:Nat} (sl x:Operand) (t:TypeId)
  (ho:o.op = .call { callee:=.builtin .append,args:=#[sl,x],argTypes:=#[t,t] }) (e:TypeId) (i:TypeInfo) (z:Value) (ht:P.underlying t = some (.slice e)) (hi:P.info? e = some i) (hz:i.zero = some z) (hsize:i.size = s) (hby:i.bytes = by_) (hzs:z.cells.size = s) (hs0:0 < s) (hb0:by_ ≤ 1000)
  {a b:Option Addr} {cap c n m:Nat} {cs ds:List Value} (hs:ac.eval sl = .slice a n cap) (hx:ac.eval x = .slice b m c) (ha:RowG s w a cap n cs) (hb:CellsAt w b ds) (hd:ds.length = m * s) (hone:∀ u ∈ ds,u.oneCell' = true) (h47:n + m ≤ 1000000000)
  (h:∀ a' cap' w',RowG s w' a' cap' (n + m) (cs ++ ds) → Chg (blk a) w w' → (∀ x ∈ blk a',x ∈ blk a ∨ w.heap.size ≤ x) → K (ac.put o.dst (.slice a' (n + m) cap')) w'):Oper.wp P o ac w K Q:=by
 obtain ⟨a',cap',w',hr,h2,h3,h4⟩:=append_rowG (P:=P) (w:=w) t o.type e i z ht hi hz hsize hby hzs hs0 hb0 ha (c:=c) hb hd hone h47
 unfold Oper.wp execOp
 simp only [ho,resolve,invoke,builtin,Sem.run_bind,Sem.run_pure,Result.andThen_ok,List.map_toArray,List.map_cons,List.map_nil,hs,hx,hr]
 exact h a' cap' w' h2 h3 h4
abbrev Wt:=Int × Int × Int
def wv (x:Wt):Value:=.agg #[.int .i64 x.1,.int .i64 x.2.1,.int .i64 x.2.2]
def wtc (l:List Wt):List Value:=l.flatMap fun x=>[.int .i64 x.1,.int .i64 x.2.1,.int .i64 x.2.2]
theorem wtc_len (l:List Wt):(wtc l).length = l.length * 3:=by
 unfold wtc;induction l with
 | nil=>rfl
 | cons x l ih=>simp only [List.flatMap_cons,List.length_append,ih,List.length_cons,List.length_nil];omega
theorem wtc_app (l m:List Wt):wtc (l ++ m) = wtc l ++ wtc m:=by unfold wtc;rw [List.flatMap_append]
theorem wtc_cons (x:Wt) (l:List Wt):wtc (x :: l) = .int .i64 x.1 :: .int .i64 x.2.1 :: .int .i64 x.2.2 :: wtc l:=rfl
theorem wtc_at:∀ (l:List Wt) (i:Nat) (h:i < l.length),(wtc l)[i * 3]? = some (.int .i64 l[i].1) ∧ (wtc l)[i * 3 + 1]? = some (.int .i64 l[i].2.1) ∧ (wtc l)[i * 3 + 2]? = some (.int .i64 l[i].2.2)
 | x :: l,0,_=>⟨rfl,rfl,rfl⟩
 | x :: l,i + 1,h=>by
  have:=wtc_at l i (by simpa using h)
  rw [wtc_cons,show (i + 1) * 3 = i * 3 + 1 + 1 + 1 by omega]
  exact this
theorem wtc_drop (l:List Wt) (n:Nat):wtc (l.drop n) = (wtc l).drop (n * 3):=by
 induction l generalizing n with
 | nil=>simp [wtc]
 | cons x l ih =>
  cases n with
  | zero=>simp
  | succ n =>
   rw [List.drop_succ_cons,wtc_cons,show (n + 1) * 3 = n * 3 + 1 + 1 + 1 by omega]
   simp only [List.drop_succ_cons]
   exact ih n
theorem wtc_take (l:List Wt) (n:Nat):wtc (l.take n) = (wtc l).take (n * 3):=by
 induction l generalizing n with
 | nil=>simp [wtc]
 | cons x l ih =>
  cases n with
  | zero=>simp [wtc]
  | succ n =>
   rw [List.take_succ_cons,wtc_cons,wtc_cons,show (n + 1) * 3 = n * 3 + 1 + 1 + 1 by omega]
   simp only [List.take_succ_cons]
   rw [ih]
theorem wtc_one (l:List Wt):∀ v ∈ wtc l,v.oneCell' = true:=fun v hv=>by
 unfold wtc at hv
 rw [List.mem_flatMap] at hv
 obtain ⟨x,_,hx⟩:=hv
 simp at hx
 rcases hx with rfl | rfl | rfl <;> rfl
theorem CellsAt.wt {w:World} {a:Option Addr} {l:List Wt} (h:CellsAt w a (wtc l)) (i:Nat) (hi:i < l.length):∃ b off,a = some ⟨b,off,none⟩ ∧ w.cell? ⟨b,off + i * 3,none⟩ = some (.int .i64 l[i].1) ∧ w.cell? ⟨b,off + i * 3 + 1,none⟩ = some (.int .i64 l[i].2.1) ∧ w.cell? ⟨b,off + i * 3 + 2,none⟩ = some (.int .i64 l[i].2.2):=by
 obtain ⟨h1,h2,h3⟩:=wtc_at l i hi
 obtain ⟨b,off,rfl,e1⟩:=h _ _ h1
 obtain ⟨b2,o2,k2,e2⟩:=h _ _ h2
 obtain ⟨b3,o3,k3,e3⟩:=h _ _ h3
 cases k2
 cases k3
 exact ⟨b,off,rfl,e1,by rw [Nat.add_assoc];exact e2,by rw [Nat.add_assoc];exact e3⟩
theorem info_wt:(Tryz.prog.info? 211).map (fun i=>(i.zero,i.size,i.bytes)) = some (some (.agg #[.int .i64 0,.int .i64 0,.int .i64 0]),3,24):=by kernel_rfl
theorem info_i6:(Tryz.prog.info? 2).map (fun i=>(i.zero,i.size,i.bytes)) = some (some (.int .i64 0),1,8):=by kernel_rfl
theorem size_wt:∀ w,(sizeOf (Tryz.prog.elem 142)).run Tryz.prog w = .ok 3 w:=by
 obtain ⟨i0,hi,hz0,hz1,hz2⟩:=info_parts info_wt
 intro w
 have e:Tryz.prog.elem 142 = 211:=by kernel_rfl
 rw [e];simp [sizeOf,typeInfo,hi,hz1]
theorem under_wt:Tryz.prog.underlying 142 = some (.slice (Tryz.prog.elem 142)):=by
 have e:Tryz.prog.elem 142 = 211:=by kernel_rfl
 rw [e];exact Tryz.underlying142
theorem size_i6:∀ w,(sizeOf (Tryz.prog.elem 39)).run Tryz.prog w = .ok 1 w:=by
 obtain ⟨i0,hi,hz0,hz1,hz2⟩:=info_parts info_i6
 intro w
 have e:Tryz.prog.elem 39 = 2:=by kernel_rfl
 rw [e];simp [sizeOf,typeInfo,hi,hz1]
theorem under_i6:Tryz.prog.underlying 39 = some (.slice (Tryz.prog.elem 39)):=by
 have e:Tryz.prog.elem 39 = 2:=by kernel_rfl
 rw [e];exact Tryz.underlying39
def zw:Wt:=(0,0,0)
theorem eldw_none {w0 w:World} {R:List Asr} {p k c:Nat} {cs:List Value} {a:Option Addr} (h:Own w0 w (CelA p cs :: R)) (hk:cs[k]? = some (.slice a 0 c)) :
  Calls Tryz.prog 157 #[.pointer (some ⟨p,k,none⟩)] w fun r w'=>r = .returned (.tuple #[wv zw,.bool false]) ∧ Own w0 w' (CelA p cs :: R) ∧ Below w.heap.size w w':=by
 obtain ⟨g0,f0⟩:=h.cel 0 rfl k _ hk
 have hs:∀ w',Below w.heap.size w w' → Own w0 w' (CelA p cs :: R) ∧ Below w.heap.size w w':=fun w' hb=>⟨h.step hb,hb⟩
 have HS:=Lib.hid hs
 have hpl:=World.block_lt_of_cell? w _ g0
 clear h hs hk
 go_enter Tryz.func157,Tryz.ntmps157
 go_wp2
 exact bodyPost_ret (v:=.tuple #[wv zw,.bool false]) (by simp [results,Tryz.results157,go_sem,wv,zw]) rfl ⟨rfl,HS.out _ (by repeat (first | exact Below.refl _ _ | refine Below.setCell ?_ (by simp) _ | refine Below.alloc ?_ (by simp) _))⟩
theorem eldw_some {w0 w:World} {R:List Asr} {p k c n:Nat} {cs:List Value} {a:Option Addr} {x:Wt} {t:List Wt} (h:Own w0 w (CelA p cs :: RowGA 3 a c n (wtc (x :: t)) :: R)) (hk:cs[k]? = some (.slice a n c)) (hn:n = (x :: t).length) (hnl:n ≤ 1000000) :
  Calls Tryz.prog 157 #[.pointer (some ⟨p,k,none⟩)] w fun r w'=>r = .returned (.tuple #[wv x,.bool true]) ∧ ∃ a',Own w0 w' (CelA p (cs.set k (.slice a' t.length (c - 1))) :: RowGA 3 a' (c - 1) t.length (wtc t) :: R):=by
 obtain ⟨g0,f0⟩:=h.cel 0 rfl k _ hk
 have hrow:=h.rowG 1 rfl
 obtain ⟨b,off,rfl,e1,e2,e3⟩:=hrow.cells.wt 0 (by simp)
 simp only [List.getElem_cons_zero,Nat.zero_mul,Nat.add_zero] at e1 e2 e3
 obtain ⟨a',hsl,hrow',hbl⟩:=slice_fromG under_wt size_wt hrow 1 (by rw [hn];simp)
 have hsl2:∀ w,(Instr.slice 142 (.slice (some ⟨b,off,none⟩) n c) (some (.int .i64 1)) none none).run Tryz.prog w = .ok (.slice a' (n - 1) (c - 1)) w:=hsl
 rw [Nat.one_mul,wtc_cons] at hrow'
 simp only [List.drop_succ_cons,List.drop_zero] at hrow'
 have hn1:n - 1 = t.length:=by rw [hn];simp
 rw [hn1] at hsl2 hrow'
 have hn0:0 < n:=by rw [hn];simp
 have hpl:=World.block_lt_of_cell? w _ g0
 have hbp:b < w.heap.size:=World.block_lt_of_cell? w _ e1
 have hne:∀ x ∈ blk (some ⟨b,off,none⟩),x ∉ [p]:=fun x hx hc=>by
  obtain ⟨_,F,⟨F1,F2,rfl,⟨rfl,_⟩,h4,F3,F4,rfl,⟨rfl,_⟩,_,_⟩,_⟩:=h
  simp at hc;subst hc
  exact h4 x (by simp) (by simp [hx])
 have hs:∃ a'',Own w0 (w.setCell ⟨p,k,none⟩ (.slice a' t.length (c - 1))) (CelA p (cs.set k (.slice a'' t.length (c - 1))) :: RowGA 3 a'' (c - 1) t.length (wtc t) :: R):=by
  have h2:=h.setAt 0 rfl k (.slice a' t.length (c - 1))
  have h3:=Own.rowTurn (h2.pick 1 rfl) (hrow'.chg (F:=[p]) ((Chg.refl _ _).setCell _ (.inl (by simp))) (fun x hx=>hne x (by rw [← hbl];exact hx))) (Chg.refl _ _) (fun x hx=>.inl (by rw [hbl] at hx;exact hx))
  exact ⟨a',h3.pick 1 rfl⟩
 have hs:=fun o1 o2=>hs.imp fun a'' h=>h.step (below_alloc2 _ o1 o2)
 have HS:=Lib.hid hs
 clear h hs hrow hrow' hsl hne hbl hn hn1 hk
 go_enter Tryz.func157,Tryz.ntmps157
 go_wp2
 exact bodyPost_ret (v:=.tuple #[wv x,.bool true]) (by simp [results,Tryz.results157,go_sem,wv]) rfl ⟨rfl,HS.out _ _⟩
theorem eldi_none {w0 w:World} {R:List Asr} {p k c:Nat} {cs:List Value} {a:Option Addr} (h:Own w0 w (CelA p cs :: R)) (hk:cs[k]? = some (.slice a 0 c)) :
  Calls Tryz.prog 158 #[.pointer (some ⟨p,k,none⟩)] w fun r w'=>r = .returned (.tuple #[.int .i64 0,.bool false]) ∧ w = w':=by
 obtain ⟨g0,f0⟩:=h.cel 0 rfl k _ hk
 clear h hk
 go_enter Tryz.func158,Tryz.ntmps158
 go_wp2
 go_ret2
 exact ⟨rfl,rfl⟩
theorem eldi_some {w0 w:World} {R:List Asr} {p k c n:Nat} {cs:List Value} {a:Option Addr} {x:Int} {t:List Int} (h:Own w0 w (CelA p cs :: RowGA 1 a c n (intc (x :: t)) :: R)) (hk:cs[k]? = some (.slice a n c)) (hn:n = (x :: t).length) (hnl:n ≤ 1000000) :
  Calls Tryz.prog 158 #[.pointer (some ⟨p,k,none⟩)] w fun r w'=>r = .returned (.tuple #[.int .i64 x,.bool true]) ∧ ∃ a',Own w0 w' (CelA p (cs.set k (.slice a' t.length (c - 1))) :: RowGA 1 a' (c - 1) t.length (intc t) :: R):=by
 obtain ⟨g0,f0⟩:=h.cel 0 rfl k _ hk
 have hrow:=h.rowG 1 rfl
 obtain ⟨b,off,rfl,e1⟩:=hrow.cells.int 0 (by simp)
 simp only [List.getElem_cons_zero,Nat.add_zero] at e1
 obtain ⟨a',hsl,hrow',hbl⟩:=slice_fromG under_i6 size_i6 hrow 1 (by rw [hn];simp)
 have hsl2:∀ w,(Instr.slice 39 (.slice (some ⟨b,off,none⟩) n c) (some (.int .i64 1)) none none).run Tryz.prog w = .ok (.slice a' (n - 1) (c - 1)) w:=hsl
 have hcd:(intc (x :: t)).drop 1 = intc t:=rfl
 rw [Nat.one_mul,hcd] at hrow'
 have hn1:n - 1 = t.length:=by rw [hn];simp
 rw [hn1] at hsl2 hrow'
 have hn0:0 < n:=by rw [hn];simp
 have hpl:=World.block_lt_of_cell? w _ g0
 have hbp:b < w.heap.size:=World.block_lt_of_cell? w _ e1
 have hne:∀ x ∈ blk (some ⟨b,off,none⟩),x ∉ [p]:=fun x hx hc=>by
  obtain ⟨_,F,⟨F1,F2,rfl,⟨rfl,_⟩,h4,F3,F4,rfl,⟨rfl,_⟩,_,_⟩,_⟩:=h
  simp at hc;subst hc
  exact h4 x (by simp) (by simp [hx])
 have hs:∃ a'',Own w0 (w.setCell ⟨p,k,none⟩ (.slice a' t.length (c - 1))) (CelA p (cs.set k (.slice a'' t.length (c - 1))) :: RowGA 1 a'' (c - 1) t.length (intc t) :: R):=by
  have h2:=h.setAt 0 rfl k (.slice a' t.length (c - 1))
  have h3:=Own.rowTurn (h2.pick 1 rfl) (hrow'.chg (F:=[p]) ((Chg.refl _ _).setCell _ (.inl (by simp))) (fun x hx=>hne x (by rw [← hbl];exact hx))) (Chg.refl _ _) (fun x hx=>.inl (by rw [hbl] at hx;exact hx))
  exact ⟨a',h3.pick 1 rfl⟩
 have HS:=Lib.hid hs
 clear h hs hrow hrow' hsl hne hbl hn hn1 hk hcd
 go_enter Tryz.func158,Tryz.ntmps158
 go_wp2
 go_ret2
 exact ⟨rfl,HS.out⟩
structure Ch where
 buf:List Int
 S:List Wt
 R:List Wt
 cl:Bool
 deriving DecidableEq
def ccells (N:Nat) (C:Ch) (ba:Option Addr) (bc:Nat) (sa:Option Addr) (sc:Nat) (ra:Option Addr) (rc:Nat):List Value :=
 [.int .i64 (N:Int),.slice ba C.buf.length bc,.slice sa C.S.length sc,.slice ra C.R.length rc,.bool C.cl]
def cparts (p N:Nat) (C:Ch) (ba:Option Addr) (bc:Nat) (sa:Option Addr) (sc:Nat) (ra:Option Addr) (rc:Nat):List Asr :=
 [CelA p (ccells N C ba bc sa sc ra rc),RowGA 1 ba bc C.buf.length (intc C.buf),RowGA 3 sa sc C.S.length (wtc C.S),RowGA 3 ra rc C.R.length (wtc C.R)]
def ChanA (p N:Nat) (C:Ch):Asr where
 at_ w F:=∃ ba bc sa sc ra rc,Sep w (cparts p N C ba bc sa sc ra rc) F
 lt:=by rintro w F ⟨_,_,_,_,_,_,h⟩;exact h.lt
 chg:=by
  rintro w w' F G ⟨ba,bc,sa,sc,ra,rc,h⟩ c hd
  exact ⟨ba,bc,sa,sc,ra,rc,h.chg c hd⟩
theorem Own.chan {w0 w:World} {p N:Nat} {C:Ch} {R:List Asr} (h:Own w0 w (ChanA p N C :: R)):∃ ba bc sa sc ra rc,Own w0 w (CelA p (ccells N C ba bc sa sc ra rc) :: RowGA 1 ba bc C.buf.length (intc C.buf) :: RowGA 3 sa sc C.S.length (wtc C.S) :: RowGA 3 ra rc C.R.length (wtc C.R) :: R):=by
 obtain ⟨As,⟨ba,bc,sa,sc,ra,rc,rfl⟩,h1⟩:=Own.unfold h (P:=fun As=>∃ ba bc sa sc ra rc,As = cparts p N C ba bc sa sc ra rc) (fun F ⟨ba,bc,sa,sc,ra,rc,h⟩=>⟨_,⟨ba,bc,sa,sc,ra,rc,rfl⟩,h⟩)
 exact ⟨ba,bc,sa,sc,ra,rc,h1⟩
theorem Own.chanBack {w0 w:World} {p N:Nat} {C:Ch} {R:List Asr} {ba sa ra:Option Addr} {bc sc rc:Nat} (h:Own w0 w (CelA p (ccells N C ba bc sa sc ra rc) :: RowGA 1 ba bc C.buf.length (intc C.buf) :: RowGA 3 sa sc C.S.length (wtc C.S) :: RowGA 3 ra rc C.R.length (wtc C.R) :: R)):Own w0 w (ChanA p N C :: R) :=
 Own.fold (As:=cparts p N C ba bc sa sc ra rc) h (fun F hF=>⟨ba,bc,sa,sc,ra,rc,hF⟩)
def roomC (z:Int):Nat:=(min (max z 0) 16).toNat
theorem roomC_le (z:Int):roomC z ≤ 16:=by unfold roomC;omega
theorem cnew_any {w0 w:World} {As:List Asr} (h:Own w0 w As) (z:Int) :
  Calls Tryz.prog 42 #[.int .i64 z] w fun r w'=>∃ p,r = .returned (.pointer (some ⟨p,0,none⟩)) ∧ Own w0 w' (ChanA p (roomC z) ⟨[],[],[],false⟩ :: As) ∧ Below w.heap.size w w':=by
 obtain ⟨N,hN⟩:∃ N,N = roomC z:=⟨_,rfl⟩
 have hm:min (max z 0) 16 = (N:Int):=by rw [hN];unfold roomC;omega
 have hV:(N:Int) = 0 ∧ z < 0 ∨ (N:Int) = z ∧ 0 ≤ z ∧ z ≤ 16 ∨ (N:Int) = 16 ∧ 16 < z:=by omega
 rw [← hN]
 have hf:Own w0 (w.alloc (.cells #[.int .i64 (N:Int),.slice none 0 0,.slice none 0 0,.slice none 0 0,.bool false] 146)) (ChanA w.heap.size N ⟨[],[],[],false⟩ :: As) ∧ Below w.heap.size w (w.alloc (.cells #[.int .i64 (N:Int),.slice none 0 0,.slice none 0 0,.slice none 0 0,.bool false] 146)):=by
  have h1:=h.add (below_alloc1 w (.cells #[.int .i64 (N:Int),.slice none 0 0,.slice none 0 0,.slice none 0 0,.bool false] 146)) (A:=ChanA w.heap.size N ⟨[],[],[],false⟩) (F:=[w.heap.size])
   ⟨none,0,none,0,none,0,[w.heap.size],[],rfl,⟨rfl,by simp,Blk.mk w (ccells N ⟨[],[],[],false⟩ none 0 none 0 none 0) _ _ rfl⟩,by simp,[],[],rfl,⟨rfl,RowG.nil _ _⟩,by simp,[],[],rfl,⟨rfl,RowG.nil _ _⟩,by simp,[],[],rfl,⟨rfl,RowG.nil _ _⟩,by simp,rfl⟩ (fun x hx=>by simp at hx;omega)
  exact ⟨h1,below_alloc1 _ _⟩
 have HF:=Lib.hid hf
 clear hf h hN hm
 rcases hV with ⟨hV,hz⟩ | ⟨hV,hz,hz'⟩ | ⟨hV,hz⟩
 all_goals
  rw [hV] at HF
  have HV:=Lib.hid hV;clear hV
  go_enter Tryz.func42,Tryz.ntmps42
  go_wp2
  go_ret
  exact ⟨_,rfl,HF.out⟩
theorem chas_any {w0 w:World} {R:List Asr} {p N:Nat} {C:Ch} (h:Own w0 w (ChanA p N C :: R)) :
  Calls Tryz.prog 139 #[.pointer (some ⟨p,0,none⟩)] w fun r w'=>r = .returned (.bool (decide (C.buf.length < N))) ∧ ∃ m,w' = w.drewN m:=by
 obtain ⟨ba,bc,sa,sc,ra,rc,h⟩:=h.chan
 obtain ⟨g0,-⟩:=h.cel 0 rfl 0 _ rfl
 obtain ⟨g1,-⟩:=h.cel 0 rfl 1 _ rfl
 generalize C.buf.length = n at *
 clear h
 go_enter Tryz.func139,Tryz.ntmps139
 go_wp2_with fail
 go_quiet (fail)
 go_wp2
 go_ret
 exact ⟨ret_bool (by simp),_,rfl⟩
def mSend (N:Nat) (C:Ch) (v:Int):Ch × Wt × Bool × Int :=
 if C.cl then (C,zw,false,10) else match C.R with
  | x :: t=>(⟨C.buf,C.S,t,C.cl⟩,(x.1,x.2.1,v),true,0)
  | []=>if C.buf.length < N then (⟨C.buf ++ [v],C.S,C.R,C.cl⟩,zw,false,0) else (C,zw,false,6)
theorem Own.setD {w0 w:World} {As:List Asr} {b:Nat} {cs:List Value} (h:Own w0 w (CelA b cs :: As)):Own w0 w As:=h.drop
theorem csend_any {w0 w:World} {R:List Asr} {p N:Nat} {C:Ch} (h:Own w0 w (ChanA p N C :: R)) (v:Int) (hb:C.buf.length ≤ 100000) (hr:C.R.length ≤ 100000) :
  Calls Tryz.prog 151 #[.pointer (some ⟨p,0,none⟩),.int .i64 v] w fun r w'=>r = .returned (.tuple #[wv (mSend N C v).2.1,.bool (mSend N C v).2.2.1,.int .i64 (mSend N C v).2.2.2]) ∧ Own w0 w' (ChanA p N (mSend N C v).1 :: R):=by
 have h0:=h
 obtain ⟨ba,bc,sa,sc,ra,rc,h⟩:=h.chan
 obtain ⟨buf,S,Rv,cl⟩:=C
 have hpl:=World.block_lt_of_cell? w _ (h.cel 0 rfl 0 _ rfl).1
 obtain ⟨g4,f4⟩:=h.cel 0 rfl 4 _ rfl
 simp only [ccells] at h g4 hb hr
 cases cl with
 | true =>
  have hs:∀ w',Below w.heap.size w w' → Own w0 w' (ChanA p N ⟨buf,S,Rv,true⟩ :: R):=fun w' hb=>h0.step hb
  have HS:=Lib.hid hs
  clear h h0 hs hb hr
  simp only [mSend,if_true]
  go_enter Tryz.func151,Tryz.ntmps151
  go_wp2
  exact bodyPost_ret (v:=.tuple #[wv zw,.bool false,.int .i64 10]) (by simp [results,Tryz.results151,go_sem,wv,zw]) rfl ⟨rfl,HS.out _ (by repeat (first | exact Below.refl _ _ | refine Below.setCell ?_ (by simp) _ | refine Below.alloc ?_ (by simp) _))⟩
 | false =>
  have hA:=h.alloc [.int .i64 0,.int .i64 0,.int .i64 0] 211 (b:=w.heap.size) rfl
  clear h h0
  cases Rv with
  | cons x t =>
   have e:mSend N ⟨buf,S,x :: t,false⟩ v = (⟨buf,S,t,false⟩,(x.1,x.2.1,v),true,0):=rfl
   rw [e]
   have hB:=(hA.pick 4 rfl).pick 2 rfl
   have he:=eldw_some (k:=3) (R:=[CelA w.heap.size [.int .i64 0,.int .i64 0,.int .i64 0],RowGA 1 ba bc buf.length (intc buf),RowGA 3 sa sc S.length (wtc S)] ++ R) hB rfl rfl (by simp at hr ⊢;omega)
   have HE:=Lib.hid he
   clear he hA hB hb hr e
   unfold wv at HE ⊢
   simp only
   go_enter Tryz.func151,Tryz.ntmps151
   go_wp2_with fail
   refine HE.out.mono ?_
   rintro r w2 ⟨rfl,a',h2⟩
   have h3:Own w0 w2 (CelA p (ccells N ⟨buf,S,t,false⟩ ba bc sa sc a' (rc - 1)) :: RowGA 3 a' (rc - 1) t.length (wtc t) :: CelA w.heap.size [.int .i64 0,.int .i64 0,.int .i64 0] :: RowGA 1 ba bc buf.length (intc buf) :: RowGA 3 sa sc S.length (wtc S) :: R):=h2
   have hC:Own w0 w2 (CelA w.heap.size [.int .i64 0,.int .i64 0,.int .i64 0] :: ChanA p N ⟨buf,S,t,false⟩ :: R) :=
    (Own.chanBack ((((h3.pick 1 rfl).pick 4 rfl).pick 4 rfl).pick 3 rfl)).pick 1 rfl
   obtain ⟨z0,y0⟩:=hC.cel 0 rfl 0 _ rfl
   obtain ⟨z1,y1⟩:=hC.cel 0 rfl 1 _ rfl
   obtain ⟨z2,y2⟩:=hC.cel 0 rfl 2 _ rfl
   have hzl:=World.block_lt_of_cell? w2 _ z0
   have HC:=Lib.hid hC
   clear h2 h3 hC HE
   go_wp2
   exact bodyPost_ret (v:=.tuple #[.agg #[.int .i64 x.1,.int .i64 x.2.1,.int .i64 v],.bool true,.int .i64 0]) (by simp [results,Tryz.results151,go_sem,hzl,z0,z1,z2]) rfl ⟨rfl,Own.setD (Own.step (Own.set (Own.set (Own.set HC.out 0 _) 1 _) 2 _) (below_alloc1 _ _))⟩
  | nil =>
   have e:mSend N ⟨buf,S,[],false⟩ v = if buf.length < N then (⟨buf ++ [v],S,[],false⟩,zw,false,0) else (⟨buf,S,[],false⟩,zw,false,6):=rfl
   rw [e]
   have he:=eldw_none (k:=3) (R:=[CelA w.heap.size [.int .i64 0,.int .i64 0,.int .i64 0],RowGA 1 ba bc buf.length (intc buf),RowGA 3 sa sc S.length (wtc S),RowGA 3 ra rc 0 (wtc [])] ++ R) (hA.pick 1 rfl) rfl
   have HE:=Lib.hid he
   clear he hA hr e
   obtain ⟨n,hn⟩:∃ n,n = buf.length:=⟨_,rfl⟩
   rw [← hn] at HE hb ⊢
   have HN:=Lib.hid hn
   clear hn
   unfold wv at HE ⊢
   by_cases hlt:n < N
   case' pos=>rw [if_pos hlt];have hd:=Lib.hid (show decide (n < N) = true by simpa using hlt)
   case' neg=>rw [if_neg hlt];have hd:=Lib.hid (show decide (n < N) = false by simpa using hlt)
   all_goals
      have HLT:=Lib.hid hlt
      clear hlt
      simp only [zw] at HE ⊢
      go_enter Tryz.func151,Tryz.ntmps151
      go_wp2_with fail
      refine HE.out.mono ?_
      rintro r w2 ⟨rfl,h2,b2⟩
      have h3:Own w0 w2 (CelA p (ccells N ⟨buf,S,[],false⟩ ba bc sa sc ra rc) :: CelA w.heap.size [.int .i64 0,.int .i64 0,.int .i64 0] :: RowGA 1 ba bc buf.length (intc buf) :: RowGA 3 sa sc S.length (wtc S) :: RowGA 3 ra rc 0 (wtc []) :: R):=by rw [HN.out] at h2;exact h2
      have h4:Own w0 w2 (CelA w.heap.size [.int .i64 0,.int .i64 0,.int .i64 0] :: ChanA p N ⟨buf,S,[],false⟩ :: R):=(Own.chanBack (((((h3.pick 4 rfl).pick 4 rfl).pick 4 rfl).pick 3 rfl))).pick 1 rfl
      obtain ⟨z0,y0⟩:=h3.cel 1 rfl 0 _ rfl
      obtain ⟨z1,y1⟩:=h3.cel 1 rfl 1 _ rfl
      obtain ⟨z2,y2⟩:=h3.cel 1 rfl 2 _ rfl
      have hzl:=World.block_lt_of_cell? w2 _ z0
      have hg:=chas_any ((h4.pick 1 rfl).step (below_alloc1 w2 (.cells #[.int .i64 0,.int .i64 0,.int .i64 0] 211)))
      simp only at hg
      rw [← HN.out] at hg
      have HG:=Lib.hid hg
      have H4:=Lib.hid h4
      have H3:=Lib.hid h3
      clear h2 h3 h4 hg b2 HE
      go_wp2_with fail
      refine HG.out.mono ?_
      rintro r w3 ⟨rfl,m,rfl⟩
      have hB3:Below w2.heap.size w2 ((w2.alloc (.cells #[.int .i64 0,.int .i64 0,.int .i64 0] 211)).drewN m):=below_drewN (below_alloc1 _ _) m
      generalize (w2.alloc (.cells #[.int .i64 0,.int .i64 0,.int .i64 0] 211)).drewN m = W3 at *
      have h3:=H3.out.step hB3
      have h4:=H4.out.step hB3
      obtain ⟨p1,q1⟩:=h3.cel 0 rfl 1 _ rfl
      rw [show (Value.slice ba (Ch.buf ⟨buf,S,[],false⟩).length bc) = Value.slice ba n bc by rw [HN.out]] at p1
      obtain ⟨z0',y0'⟩:=h4.cel 0 rfl 0 _ rfl
      obtain ⟨z1',y1'⟩:=h4.cel 0 rfl 1 _ rfl
      obtain ⟨z2',y2'⟩:=h4.cel 0 rfl 2 _ rfl
      have hzl':=World.block_lt_of_cell? W3 _ z0'
      have K3:=Lib.hid h3
      have K4:=Lib.hid h4
      clear h3 h4 HG z0 y0 z1 y1 z2 y2 hzl g4 f4 H3 H4 hB3
      have hd1:=hd.out
      rw [hd1]
      clear hd hd1
   ·go_wp2
    exact bodyPost_ret (v:=.tuple #[.agg #[.int .i64 0,.int .i64 0,.int .i64 0],.bool false,.int .i64 6]) (by simp [results,Tryz.results151,go_sem,hzl',z0',z1',z2']) rfl ⟨rfl,Own.setD (Own.set (Own.set (Own.set K4.out 0 _) 1 _) 2 _)⟩
   ·have hrow:=K3.out.rowG 2 rfl
    rw [← HN.out] at hrow
    have HR:=Lib.hid hrow
    obtain ⟨i0,hi0,hz0,hz1,hz2⟩:=info_parts info_i6
    have Hi:=Lib.hid hi0;clear hi0
    have Hz0:=Lib.hid hz0;clear hz0
    have Hz1:=Lib.hid hz1;clear hz1
    have Hz2:=Lib.hid hz2;clear hz2
    clear hrow
    go_wp2_with (at_builtin;refine wpList_append_rowG (m:=1) (ds:=intc [v]) rfl _ _ 39 rfl 2 i0 _ Tryz.underlying39 Hi.out Hz0.out Hz1.out Hz2.out rfl (by omega) (by omega) rfl rfl (HR.out.below (below_alloc1 _ _)) (CellsAt.new _ (intc [v]) _ rfl) rfl (intc_one _) (by omega) ?_)
    intro a1 c1 w4 k1 ch1 f1
    have h5:=Own.rowTurn ((K3.out.step (below_alloc1 W3 (.cells #[.int .i64 v] 2))).pick 2 rfl) k1 ch1 (fun x hx=>by have:=f1 x hx;simpa using this)
    obtain ⟨p1',q1'⟩:=h5.cel 1 rfl 1 _ rfl
    have h6:Own w0 (w4.setCell ⟨p,1,none⟩ (.slice a1 (n + 1) c1)) (RowGA 1 a1 c1 (n + 1) (intc (buf ++ [v])) :: CelA p (ccells N ⟨buf ++ [v],S,[],false⟩ a1 c1 sa sc ra rc) :: CelA w.heap.size [.int .i64 0,.int .i64 0,.int .i64 0] :: RowGA 3 sa sc S.length (wtc S) :: RowGA 3 ra rc 0 (wtc []) :: R):=by
     have h7:=h5.setAt 1 rfl 1 (.slice a1 (n + 1) c1)
     have e:n + 1 = (buf ++ [v]).length:=by rw [HN.out];simp
     rw [intc_app]
     simp only [ccells]
     rw [← e]
     exact h7
    have e:n + 1 = (buf ++ [v]).length:=by rw [HN.out];simp
    rw [e] at h6
    have hC:Own w0 (w4.setCell ⟨p,1,none⟩ (.slice a1 (n + 1) c1)) (CelA w.heap.size [.int .i64 0,.int .i64 0,.int .i64 0] :: ChanA p N ⟨buf ++ [v],S,[],false⟩ :: R):=by
     rw [e]
     exact (Own.chanBack ((((h6.pick 4 rfl).pick 4 rfl).pick 2 rfl).pick 3 rfl)).pick 1 rfl
    obtain ⟨z0,y0⟩:=hC.cel 0 rfl 0 _ rfl
    obtain ⟨z1,y1⟩:=hC.cel 0 rfl 1 _ rfl
    obtain ⟨z2,y2⟩:=hC.cel 0 rfl 2 _ rfl
    obtain ⟨u0,v0⟩:=h5.cel 2 rfl 0 _ rfl
    obtain ⟨u1,v1⟩:=h5.cel 2 rfl 1 _ rfl
    obtain ⟨u2,v2⟩:=h5.cel 2 rfl 2 _ rfl
    have hpw:p ≠ w.heap.size:=by omega
    have hpl4:=World.block_lt_of_cell? w4 _ p1'
    have hzl4:=World.block_lt_of_cell? w4 _ u0
    have HC:=Lib.hid hC
    clear h5 h6 hC k1 ch1 f1 e z0' y0' z1' y1' z2' y2' hzl' p1 q1
    go_wp2
    exact bodyPost_ret (v:=.tuple #[.agg #[.int .i64 0,.int .i64 0,.int .i64 0],.bool false,.int .i64 0]) (by simp [results,Tryz.results151,go_sem,hzl4,u0,u1,u2]) rfl ⟨rfl,Own.setD (Own.set (Own.set (Own.set HC.out 0 _) 1 _) 2 _)⟩
def gotC (v:Int) (some_:Bool) (x:Wt) (woken:Bool):Value:=.agg #[.int .i64 v,.bool some_,.int .i64 x.1,.int .i64 x.2.1,.int .i64 x.2.2,.bool woken]
theorem Own.rowTurnC {w0 w w':World} {As:List Asr} {s:Nat} {a a':Option Addr} {cap cap' n n':Nat} {cs cs':List Value} (c:Chg (blk a) w w') (hr:RowG s w' a' cap' n' cs') (hf:∀ x ∈ blk a',x ∈ blk a ∨ w.heap.size ≤ x) (h:Own w0 w (RowGA s a cap n cs :: As)) :
  Own w0 w' (RowGA s a' cap' n' cs' :: As):=Own.rowTurn h hr c hf
def mRecv (C:Ch):Ch × (Int × Bool × Wt × Bool) × Int:=match C.S with
 | x :: t=>(match C.buf ++ [x.2.2] with
  | y :: b=>(⟨b,t,C.R,C.cl⟩,(y,true,x,true),0)
  | []=>(⟨[],t,C.R,C.cl⟩,(0,false,x,true),0))
 | []=>match C.buf with
  | y :: b=>(⟨b,[],C.R,C.cl⟩,(y,true,zw,false),0)
  | []=>(C,(0,false,zw,false),if C.cl then 0 else 5)
theorem two_allocs {w0 w:World} {As:List Asr} (h:Own w0 w As) (l m:List Value) (t u:TypeId):Own w0 ((w.alloc (.cells l.toArray t)).alloc (.cells m.toArray u)) (CelA (w.heap.size + 1) m :: CelA w.heap.size l :: As) :=
 (h.alloc l t rfl).alloc m u (by simp)
theorem crecv_none {w0 w:World} {R:List Asr} {p N:Nat} {Rv:List Wt} {cl:Bool} (h:Own w0 w (ChanA p N ⟨[],[],Rv,cl⟩ :: R)) :
  Calls Tryz.prog 152 #[.pointer (some ⟨p,0,none⟩)] w fun r w'=>r = .returned (.tuple #[gotC 0 false zw false,.int .i64 (if cl then 0 else 5)]) ∧ Own w0 w' (ChanA p N ⟨[],[],Rv,cl⟩ :: R):=by
 obtain ⟨ba,bc,sa,sc,ra,rc,h1⟩:=h.chan
 have hpl:=World.block_lt_of_cell? w _ (h1.cel 0 rfl 0 _ rfl).1
 have hA:=two_allocs h1 [.int .i64 0,.bool false,.int .i64 0,.int .i64 0,.int .i64 0,.bool false] [.int .i64 0,.bool false,.int .i64 0,.int .i64 0,.int .i64 0,.bool false] 231 231
 have he:=eldw_none (k:=2) (a:=sa) (c:=sc) (hA.pick 2 rfl) rfl
 have HE:=Lib.hid he
 clear hA he h h1
 unfold wv at HE
 simp only [zw] at HE
 have hw:∀ e:Int,.returned (Value.tuple #[gotC 0 false zw false,.int .i64 e]) = Ending.returned (.tuple #[.agg #[.int .i64 0,.bool false,.int .i64 0,.int .i64 0,.int .i64 0,.bool false],.int .i64 e]):=fun e=>rfl
 rw [hw]
 clear hw
 go_enter Tryz.func152,Tryz.ntmps152
 go_wp2_with fail
 refine HE.out.mono ?_
 rintro r w2 ⟨rfl,h2,b2⟩
 have h3:Own w0 w2 (CelA p (ccells N ⟨[],[],Rv,cl⟩ ba bc sa sc ra rc) :: CelA (w.heap.size + 1) [.int .i64 0,.bool false,.int .i64 0,.int .i64 0,.int .i64 0,.bool false] :: CelA w.heap.size [.int .i64 0,.bool false,.int .i64 0,.int .i64 0,.int .i64 0,.bool false] :: RowGA 1 ba bc 0 (intc []) :: RowGA 3 sa sc 0 (wtc []) :: RowGA 3 ra rc Rv.length (wtc Rv) :: R):=h2
 have h4:=(((h3.setAt 1 rfl 2 (.int .i64 0)).setAt 1 rfl 3 (.int .i64 0)).setAt 1 rfl 4 (.int .i64 0)).setAt 1 rfl 5 (.bool false)
 obtain ⟨a2,b2'⟩:=h3.cel 1 rfl 2 _ rfl
 obtain ⟨a3,b3⟩:=h3.cel 1 rfl 3 _ rfl
 obtain ⟨a4,b4⟩:=h3.cel 1 rfl 4 _ rfl
 obtain ⟨a5,b5⟩:=h3.cel 1 rfl 5 _ rfl
 have H4:=Lib.hid h4
 clear h2 h3 h4 b2 HE
 go_wp2_with fail
 refine (eldi_none (k:=1) H4.out rfl).mono ?_
 rintro r w3 ⟨rfl,rfl⟩
 generalize hW:(((w2.setCell ⟨w.heap.size + 1,2,none⟩ (.int .i64 0)).setCell ⟨w.heap.size + 1,3,none⟩ (.int .i64 0)).setCell ⟨w.heap.size + 1,4,none⟩ (.int .i64 0)).setCell ⟨w.heap.size + 1,5,none⟩ (.bool false) = W3 at *
 have h5:=H4.out
 obtain ⟨c0,d0⟩:=h5.cel 1 rfl 0 _ rfl
 obtain ⟨c1,d1⟩:=h5.cel 1 rfl 1 _ rfl
 obtain ⟨c2,d2⟩:=h5.cel 1 rfl 2 _ rfl
 obtain ⟨c3,d3⟩:=h5.cel 1 rfl 3 _ rfl
 obtain ⟨c4,d4⟩:=h5.cel 1 rfl 4 _ rfl
 obtain ⟨c5,d5⟩:=h5.cel 1 rfl 5 _ rfl
 obtain ⟨e0,f0⟩:=h5.cel 2 rfl 0 _ rfl
 obtain ⟨e1,f1⟩:=h5.cel 2 rfl 1 _ rfl
 obtain ⟨e2,f2⟩:=h5.cel 2 rfl 2 _ rfl
 obtain ⟨e3,f3⟩:=h5.cel 2 rfl 3 _ rfl
 obtain ⟨e4,f4⟩:=h5.cel 2 rfl 4 _ rfl
 obtain ⟨e5,f5⟩:=h5.cel 2 rfl 5 _ rfl
 obtain ⟨g4,k4⟩:=h5.cel 0 rfl 4 _ rfl
 have hps:p ≠ w.heap.size + 1:=by omega
 have hps2:p ≠ w.heap.size:=by omega
 have hfin:∀ v0 v1 u0 u1 u2 u3 u4 u5,Own w0 ((((((((W3.setCell ⟨w.heap.size + 1,0,none⟩ v0).setCell ⟨w.heap.size + 1,1,none⟩ v1).setCell ⟨w.heap.size,0,none⟩ u0).setCell ⟨w.heap.size,1,none⟩ u1).setCell ⟨w.heap.size,2,none⟩ u2).setCell ⟨w.heap.size,3,none⟩ u3).setCell ⟨w.heap.size,4,none⟩ u4).setCell ⟨w.heap.size,5,none⟩ u5) (ChanA p N ⟨[],[],Rv,cl⟩ :: R):=fun v0 v1 u0 u1 u2 u3 u4 u5=>by
  have h6:=(((((((h5.setAt 1 rfl 0 v0).setAt 1 rfl 1 v1).setAt 2 rfl 0 u0).setAt 2 rfl 1 u1).setAt 2 rfl 2 u2).setAt 2 rfl 3 u3).setAt 2 rfl 4 u4).setAt 2 rfl 5 u5
  exact Own.chanBack ((h6.pick 1 rfl).drop.pick 1 rfl).drop
 have HF:=Lib.hid hfin
 clear h5 hfin H4 hW a2 b2' a3 b3 a4 b4 a5 b5
 cases cl
 all_goals
  simp only [ccells] at g4
  go_wp2
 ·exact bodyPost_ret (v:=.tuple #[.agg #[.int .i64 0,.bool false,.int .i64 0,.int .i64 0,.int .i64 0,.bool false],.int .i64 5]) (by simp [results,Tryz.results152,go_sem,e0,e1,e2,e3,e4,e5]) rfl ⟨rfl,HF.out _ _ _ _ _ _ _ _⟩
 ·exact bodyPost_ret (v:=.tuple #[.agg #[.int .i64 0,.bool false,.int .i64 0,.int .i64 0,.int .i64 0,.bool false],.int .i64 0]) (by simp [results,Tryz.results152,go_sem,e0,e1,e2,e3,e4,e5]) rfl ⟨rfl,HF.out _ _ _ _ _ _ _ _⟩
theorem crecv_buf {w0 w:World} {R:List Asr} {p N:Nat} {Rv:List Wt} {cl:Bool} {y:Int} {b:List Int} (h:Own w0 w (ChanA p N ⟨y :: b,[],Rv,cl⟩ :: R)) (hbl:b.length ≤ 100000) :
  Calls Tryz.prog 152 #[.pointer (some ⟨p,0,none⟩)] w fun r w'=>r = .returned (.tuple #[gotC y true zw false,.int .i64 0]) ∧ Own w0 w' (ChanA p N ⟨b,[],Rv,cl⟩ :: R):=by
 obtain ⟨ba,bc,sa,sc,ra,rc,h1⟩:=h.chan
 have hpl:=World.block_lt_of_cell? w _ (h1.cel 0 rfl 0 _ rfl).1
 have hA:=two_allocs h1 [.int .i64 0,.bool false,.int .i64 0,.int .i64 0,.int .i64 0,.bool false] [.int .i64 0,.bool false,.int .i64 0,.int .i64 0,.int .i64 0,.bool false] 231 231
 have he:=eldw_none (k:=2) (a:=sa) (c:=sc) (hA.pick 2 rfl) rfl
 have HE:=Lib.hid he
 clear hA he h h1
 unfold wv at HE
 simp only [zw] at HE
 have hw:.returned (Value.tuple #[gotC y true zw false,.int .i64 0]) = Ending.returned (.tuple #[.agg #[.int .i64 y,.bool true,.int .i64 0,.int .i64 0,.int .i64 0,.bool false],.int .i64 0]):=rfl
 rw [hw]
 clear hw
 go_enter Tryz.func152,Tryz.ntmps152
 go_wp2_with fail
 refine HE.out.mono ?_
 rintro r w2 ⟨rfl,h2,b2⟩
 have h3:Own w0 w2 (CelA p (ccells N ⟨y :: b,[],Rv,cl⟩ ba bc sa sc ra rc) :: CelA (w.heap.size + 1) [.int .i64 0,.bool false,.int .i64 0,.int .i64 0,.int .i64 0,.bool false] :: CelA w.heap.size [.int .i64 0,.bool false,.int .i64 0,.int .i64 0,.int .i64 0,.bool false] :: RowGA 1 ba bc (y :: b).length (intc (y :: b)) :: RowGA 3 sa sc 0 (wtc []) :: RowGA 3 ra rc Rv.length (wtc Rv) :: R):=h2
 have h4:=(((h3.setAt 1 rfl 2 (.int .i64 0)).setAt 1 rfl 3 (.int .i64 0)).setAt 1 rfl 4 (.int .i64 0)).setAt 1 rfl 5 (.bool false)
 obtain ⟨a2,b2'⟩:=h3.cel 1 rfl 2 _ rfl
 obtain ⟨a3,b3⟩:=h3.cel 1 rfl 3 _ rfl
 obtain ⟨a4,b4⟩:=h3.cel 1 rfl 4 _ rfl
 obtain ⟨a5,b5⟩:=h3.cel 1 rfl 5 _ rfl
 have H4:=Lib.hid h4
 have he:=eldi_some (k:=1) (R:=[CelA (w.heap.size + 1) [.int .i64 0,.bool false,.int .i64 0,.int .i64 0,.int .i64 0,.bool false],CelA w.heap.size [.int .i64 0,.bool false,.int .i64 0,.int .i64 0,.int .i64 0,.bool false],RowGA 3 sa sc 0 (wtc []),RowGA 3 ra rc Rv.length (wtc Rv)] ++ R) ((h4.pick 3 rfl).pick 1 rfl) rfl rfl (by simp;omega)
 have HE2:=Lib.hid he
 clear h2 h3 h4 b2 HE he
 go_wp2_with fail
 refine HE2.out.mono ?_
 rintro r W3 ⟨rfl,a',h5⟩
 have h5:Own w0 W3 (CelA p (ccells N ⟨b,[],Rv,cl⟩ a' (bc - 1) sa sc ra rc) :: CelA (w.heap.size + 1) [.int .i64 0,.bool false,.int .i64 0,.int .i64 0,.int .i64 0,.bool false] :: CelA w.heap.size [.int .i64 0,.bool false,.int .i64 0,.int .i64 0,.int .i64 0,.bool false] :: RowGA 1 a' (bc - 1) b.length (intc b) :: RowGA 3 sa sc 0 (wtc []) :: RowGA 3 ra rc Rv.length (wtc Rv) :: R):=(((h5.pick 1 rfl).pick 3 rfl).pick 3 rfl).pick 3 rfl
 obtain ⟨c0,d0⟩:=h5.cel 1 rfl 0 _ rfl
 obtain ⟨c1,d1⟩:=h5.cel 1 rfl 1 _ rfl
 obtain ⟨c2,d2⟩:=h5.cel 1 rfl 2 _ rfl
 obtain ⟨c3,d3⟩:=h5.cel 1 rfl 3 _ rfl
 obtain ⟨c4,d4⟩:=h5.cel 1 rfl 4 _ rfl
 obtain ⟨c5,d5⟩:=h5.cel 1 rfl 5 _ rfl
 obtain ⟨e0,f0⟩:=h5.cel 2 rfl 0 _ rfl
 obtain ⟨e1,f1⟩:=h5.cel 2 rfl 1 _ rfl
 obtain ⟨e2,f2⟩:=h5.cel 2 rfl 2 _ rfl
 obtain ⟨e3,f3⟩:=h5.cel 2 rfl 3 _ rfl
 obtain ⟨e4,f4⟩:=h5.cel 2 rfl 4 _ rfl
 obtain ⟨e5,f5⟩:=h5.cel 2 rfl 5 _ rfl
 have hps:p ≠ w.heap.size + 1:=by omega
 have hps2:p ≠ w.heap.size:=by omega
 have hfin:∀ v0 v1 u0 u1 u2 u3 u4 u5,Own w0 ((((((((W3.setCell ⟨w.heap.size + 1,0,none⟩ v0).setCell ⟨w.heap.size + 1,1,none⟩ v1).setCell ⟨w.heap.size,0,none⟩ u0).setCell ⟨w.heap.size,1,none⟩ u1).setCell ⟨w.heap.size,2,none⟩ u2).setCell ⟨w.heap.size,3,none⟩ u3).setCell ⟨w.heap.size,4,none⟩ u4).setCell ⟨w.heap.size,5,none⟩ u5) (ChanA p N ⟨b,[],Rv,cl⟩ :: R):=fun v0 v1 u0 u1 u2 u3 u4 u5=>by
  have h6:=(((((((h5.setAt 1 rfl 0 v0).setAt 1 rfl 1 v1).setAt 2 rfl 0 u0).setAt 2 rfl 1 u1).setAt 2 rfl 2 u2).setAt 2 rfl 3 u3).setAt 2 rfl 4 u4).setAt 2 rfl 5 u5
  exact Own.chanBack ((h6.pick 1 rfl).drop.pick 1 rfl).drop
 have HF:=Lib.hid hfin
 clear h5 hfin H4 a2 b2' a3 b3 a4 b4 a5 b5
 go_wp2
 exact bodyPost_ret (v:=.tuple #[.agg #[.int .i64 y,.bool true,.int .i64 0,.int .i64 0,.int .i64 0,.bool false],.int .i64 0]) (by simp [results,Tryz.results152,go_sem,e0,e1,e2,e3,e4,e5]) rfl ⟨rfl,HF.out _ _ _ _ _ _ _ _⟩
theorem crecv_send {w0 w:World} {R:List Asr} {p N:Nat} {Rv t:List Wt} {cl:Bool} {x:Wt} {y:Int} {buf b:List Int} (h:Own w0 w (ChanA p N ⟨buf,x :: t,Rv,cl⟩ :: R)) (hyb:buf ++ [x.2.2] = y :: b) (hbl:buf.length ≤ 100000) (htl:t.length ≤ 100000) :
  Calls Tryz.prog 152 #[.pointer (some ⟨p,0,none⟩)] w fun r w'=>r = .returned (.tuple #[gotC y true x true,.int .i64 0]) ∧ Own w0 w' (ChanA p N ⟨b,t,Rv,cl⟩ :: R):=by
 obtain ⟨ba,bc,sa,sc,ra,rc,h1⟩:=h.chan
 have hpl:=World.block_lt_of_cell? w _ (h1.cel 0 rfl 0 _ rfl).1
 have hA:=two_allocs h1 [.int .i64 0,.bool false,.int .i64 0,.int .i64 0,.int .i64 0,.bool false] [.int .i64 0,.bool false,.int .i64 0,.int .i64 0,.int .i64 0,.bool false] 231 231
 have he:=eldw_some (k:=2) (R:=[CelA (w.heap.size + 1) [.int .i64 0,.bool false,.int .i64 0,.int .i64 0,.int .i64 0,.bool false],CelA w.heap.size [.int .i64 0,.bool false,.int .i64 0,.int .i64 0,.int .i64 0,.bool false],RowGA 1 ba bc buf.length (intc buf),RowGA 3 ra rc Rv.length (wtc Rv)] ++ R) ((hA.pick 4 rfl).pick 3 rfl) rfl rfl (by simp;omega)
 have HE:=Lib.hid he
 have HYB:=Lib.hid hyb
 obtain ⟨n,hn⟩:∃ n,n = buf.length:=⟨_,rfl⟩
 rw [← hn] at hbl
 have HN:=Lib.hid hn
 clear hA he h h1 hyb hn
 unfold wv at HE
 have hw:.returned (Value.tuple #[gotC y true x true,.int .i64 0]) = Ending.returned (.tuple #[.agg #[.int .i64 y,.bool true,.int .i64 x.1,.int .i64 x.2.1,.int .i64 x.2.2,.bool true],.int .i64 0]):=rfl
 rw [hw]
 clear hw
 obtain ⟨x1,x2,x3⟩:=x
 simp only at HE HYB ⊢
 go_enter Tryz.func152,Tryz.ntmps152
 go_wp2_with fail
 refine HE.out.mono ?_
 rintro r w2 ⟨rfl,sa',h2⟩
 have h3:Own w0 w2 (CelA p (ccells N ⟨buf,t,Rv,cl⟩ ba bc sa' (sc - 1) ra rc) :: CelA (w.heap.size + 1) [.int .i64 0,.bool false,.int .i64 0,.int .i64 0,.int .i64 0,.bool false] :: CelA w.heap.size [.int .i64 0,.bool false,.int .i64 0,.int .i64 0,.int .i64 0,.bool false] :: RowGA 1 ba bc buf.length (intc buf) :: RowGA 3 sa' (sc - 1) t.length (wtc t) :: RowGA 3 ra rc Rv.length (wtc Rv) :: R):=((((h2.pick 1 rfl).pick 4 rfl).pick 4 rfl).pick 4 rfl).pick 4 rfl
 have h4:=(((h3.setAt 1 rfl 2 (.int .i64 x1)).setAt 1 rfl 3 (.int .i64 x2)).setAt 1 rfl 4 (.int .i64 x3)).setAt 1 rfl 5 (.bool true)
 obtain ⟨a2,b2'⟩:=h3.cel 1 rfl 2 _ rfl
 obtain ⟨a3,b3⟩:=h3.cel 1 rfl 3 _ rfl
 obtain ⟨a4,b4⟩:=h3.cel 1 rfl 4 _ rfl
 obtain ⟨a5,b5⟩:=h3.cel 1 rfl 5 _ rfl
 have H4:=Lib.hid h4
 clear h2 h3 h4 HE
 go_upto_region 4 with fail
 generalize hW:(((w2.setCell ⟨w.heap.size + 1,2,none⟩ (.int .i64 x1)).setCell ⟨w.heap.size + 1,3,none⟩ (.int .i64 x2)).setCell ⟨w.heap.size + 1,4,none⟩ (.int .i64 x3)).setCell ⟨w.heap.size + 1,5,none⟩ (.bool true) = W3 at *
 clear hW a2 b2' a3 b3 a4 b4 a5 b5
 have h5:Own w0 W3 (CelA p (ccells N ⟨buf,t,Rv,cl⟩ ba bc sa' (sc - 1) ra rc) :: CelA (w.heap.size + 1) [.int .i64 0,.bool false,.int .i64 x1,.int .i64 x2,.int .i64 x3,.bool true] :: CelA w.heap.size [.int .i64 0,.bool false,.int .i64 0,.int .i64 0,.int .i64 0,.bool false] :: RowGA 1 ba bc buf.length (intc buf) :: RowGA 3 sa' (sc - 1) t.length (wtc t) :: RowGA 3 ra rc Rv.length (wtc Rv) :: R):=H4.out
 obtain ⟨p1,q1⟩:=h5.cel 0 rfl 1 _ rfl
 have hbn:(Value.slice ba (Ch.buf ⟨buf,t,Rv,cl⟩).length bc) = .slice ba n bc:=by rw [HN.out]
 rw [hbn] at p1
 obtain ⟨s14,r14⟩:=h5.cel 1 rfl 4 _ rfl
 have p1a:=fun o=>cell_below p1 (below_alloc1 W3 o)
 have s14a:=fun o=>cell_below s14 (below_alloc1 W3 o)
 have hpl3:=World.block_lt_of_cell? W3 _ p1
 have hrow:=h5.rowG 3 rfl
 rw [← HN.out] at hrow
 have HR:=Lib.hid hrow
 have hpb:p ∉ blk ba:=fun hx=>by
  obtain ⟨_,F,⟨F1,F2,rfl,⟨rfl,_⟩,q2,F3,F4,rfl,⟨rfl,_⟩,_,F5,F6,rfl,⟨rfl,_⟩,_,F7,F8,rfl,⟨rfl,_⟩,_⟩,_⟩:=h5
  exact q2 p (by simp) (by simp [hx])
 have HPB:=Lib.hid hpb
 have H5:=Lib.hid h5
 obtain ⟨i0,hi0,hz0,hz1,hz2⟩:=info_parts info_i6
 have Hi:=Lib.hid hi0;clear hi0
 have Hz0:=Lib.hid hz0;clear hz0
 have Hz1:=Lib.hid hz1;clear hz1
 have Hz2:=Lib.hid hz2;clear hz2
 clear hrow h5 hbn hpb H4
 go_wp2_with fail
 go_region_law (first
  | (refine step_append_rowG (m:=1) (ds:=intc [x3]) (by rfl) _ _ 39 (by rfl) 2 i0 _ Tryz.underlying39 Hi.out Hz0.out Hz1.out Hz2.out rfl (by omega) (by omega) (by rfl) (by rfl) (HR.out.below (by repeat (first | exact Below.refl _ _ | refine Below.drew ?_ | refine Below.alloc ?_ (by simp) _))) (by first | exact CellsAt.new _ (intc [x3]) _ rfl | exact (CellsAt.new _ (intc [x3]) _ rfl).below (below_drew1 _)) rfl (intc_one _) (by omega) ?_;intro a1 c1 w4 k1 ch1 f1
     have h6:=Own.rowTurnC ch1 k1 (fun x hx=>by have:=f1 x hx;simpa using this) ((H5.out.step (by repeat (first | exact Below.refl _ _ | refine Below.drew ?_ | refine Below.alloc ?_ (by simp) _))).pick 3 rfl)
     obtain ⟨p1',q1'⟩:=h6.cel 1 rfl 1 _ rfl))
 all_goals
  have h7:Own w0 (w4.setCell ⟨p,1,none⟩ (.slice a1 (n + 1) c1)) (CelA p (ccells N ⟨buf ++ [x3],t,Rv,cl⟩ a1 c1 sa' (sc - 1) ra rc) :: RowGA 1 a1 c1 (buf ++ [x3]).length (intc (buf ++ [x3])) :: CelA (w.heap.size + 1) [.int .i64 0,.bool false,.int .i64 x1,.int .i64 x2,.int .i64 x3,.bool true] :: CelA w.heap.size [.int .i64 0,.bool false,.int .i64 0,.int .i64 0,.int .i64 0,.bool false] :: RowGA 3 sa' (sc - 1) t.length (wtc t) :: RowGA 3 ra rc Rv.length (wtc Rv) :: R):=by
   have e:(buf ++ [x3]).length = n + 1:=by rw [HN.out];simp
   have e2:intc (buf ++ [x3]) = intc buf ++ intc [x3]:=intc_app _ _
   simp only [ccells]
   rw [e,e2]
   exact (h6.setAt 1 rfl 1 (.slice a1 (n + 1) c1)).pick 1 rfl
  rw [HYB.out] at h7
  have he:=eldi_some (k:=1) (R:=[CelA (w.heap.size + 1) [.int .i64 0,.bool false,.int .i64 x1,.int .i64 x2,.int .i64 x3,.bool true],CelA w.heap.size [.int .i64 0,.bool false,.int .i64 0,.int .i64 0,.int .i64 0,.bool false],RowGA 3 sa' (sc - 1) t.length (wtc t),RowGA 3 ra rc Rv.length (wtc Rv)] ++ R) h7 rfl rfl (by rw [← HYB.out];simp;have:=HN.out;omega)
  have HE2:=Lib.hid he
  have hsz:=World.block_lt_of_cell? w4 _ p1'
  clear h6 h7 he k1 ch1 f1 p1 q1 s14 r14 p1a s14a hpl3 H5
  go_wp2_with fail
  refine HE2.out.mono ?_
  rintro r W5 ⟨rfl,a',h5⟩
  have h5:Own w0 W5 (CelA p (ccells N ⟨b,t,Rv,cl⟩ a' (c1 - 1) sa' (sc - 1) ra rc) :: CelA (w.heap.size + 1) [.int .i64 0,.bool false,.int .i64 x1,.int .i64 x2,.int .i64 x3,.bool true] :: CelA w.heap.size [.int .i64 0,.bool false,.int .i64 0,.int .i64 0,.int .i64 0,.bool false] :: RowGA 1 a' (c1 - 1) b.length (intc b) :: RowGA 3 sa' (sc - 1) t.length (wtc t) :: RowGA 3 ra rc Rv.length (wtc Rv) :: R):=(((h5.pick 1 rfl).pick 3 rfl).pick 3 rfl).pick 3 rfl
  obtain ⟨c0,d0⟩:=h5.cel 1 rfl 0 _ rfl
  obtain ⟨c1,d1⟩:=h5.cel 1 rfl 1 _ rfl
  obtain ⟨c2,d2⟩:=h5.cel 1 rfl 2 _ rfl
  obtain ⟨c3,d3⟩:=h5.cel 1 rfl 3 _ rfl
  obtain ⟨c4,d4⟩:=h5.cel 1 rfl 4 _ rfl
  obtain ⟨c5,d5⟩:=h5.cel 1 rfl 5 _ rfl
  obtain ⟨e0,f0⟩:=h5.cel 2 rfl 0 _ rfl
  obtain ⟨e1,f1⟩:=h5.cel 2 rfl 1 _ rfl
  obtain ⟨e2,f2⟩:=h5.cel 2 rfl 2 _ rfl
  obtain ⟨e3,f3⟩:=h5.cel 2 rfl 3 _ rfl
  obtain ⟨e4,f4⟩:=h5.cel 2 rfl 4 _ rfl
  obtain ⟨e5,f5⟩:=h5.cel 2 rfl 5 _ rfl
  have hps:p ≠ w.heap.size + 1:=by omega
  have hps2:p ≠ w.heap.size:=by omega
  have hfin:∀ v0 v1 u0 u1 u2 u3 u4 u5,Own w0 ((((((((W5.setCell ⟨w.heap.size + 1,0,none⟩ v0).setCell ⟨w.heap.size + 1,1,none⟩ v1).setCell ⟨w.heap.size,0,none⟩ u0).setCell ⟨w.heap.size,1,none⟩ u1).setCell ⟨w.heap.size,2,none⟩ u2).setCell ⟨w.heap.size,3,none⟩ u3).setCell ⟨w.heap.size,4,none⟩ u4).setCell ⟨w.heap.size,5,none⟩ u5) (ChanA p N ⟨b,t,Rv,cl⟩ :: R):=fun v0 v1 u0 u1 u2 u3 u4 u5=>by
   have h6:=(((((((h5.setAt 1 rfl 0 v0).setAt 1 rfl 1 v1).setAt 2 rfl 0 u0).setAt 2 rfl 1 u1).setAt 2 rfl 2 u2).setAt 2 rfl 3 u3).setAt 2 rfl 4 u4).setAt 2 rfl 5 u5
   exact Own.chanBack ((h6.pick 1 rfl).drop.pick 1 rfl).drop
  have HF:=Lib.hid hfin
  clear h5 hfin HE2
  go_wp2
  exact bodyPost_ret (v:=.tuple #[.agg #[.int .i64 y,.bool true,.int .i64 x1,.int .i64 x2,.int .i64 x3,.bool true],.int .i64 0]) (by simp [results,Tryz.results152,go_sem,e0,e1,e2,e3,e4,e5]) rfl ⟨rfl,HF.out _ _ _ _ _ _ _ _⟩
theorem crecv_any {w0 w:World} {R:List Asr} {p N:Nat} {C:Ch} (h:Own w0 w (ChanA p N C :: R)) (hb:C.buf.length ≤ 100000) (hs:C.S.length ≤ 100000) :
  Calls Tryz.prog 152 #[.pointer (some ⟨p,0,none⟩)] w fun r w'=>r = .returned (.tuple #[gotC (mRecv C).2.1.1 (mRecv C).2.1.2.1 (mRecv C).2.1.2.2.1 (mRecv C).2.1.2.2.2,.int .i64 (mRecv C).2.2]) ∧ Own w0 w' (ChanA p N (mRecv C).1 :: R):=by
 obtain ⟨buf,S,Rv,cl⟩:=C
 simp only at hb hs
 cases S with
 | cons x t =>
  cases hbv:buf ++ [x.2.2] with
  | nil=>simp at hbv
  | cons y b =>
   have e:mRecv ⟨buf,x :: t,Rv,cl⟩ = (⟨b,t,Rv,cl⟩,(y,true,x,true),0):=by simp only [mRecv,hbv]
   rw [e]
   exact crecv_send h hbv hb (by simp at hs;omega)
 | nil =>
  cases buf with
  | nil=>exact crecv_none h
  | cons y b=>exact crecv_buf h (by simp at hb;omega)
theorem cclose_over {w0 w:World} {R:List Asr} {p N:Nat} {buf:List Int} {S Rv:List Wt} (h:Own w0 w (ChanA p N ⟨buf,S,Rv,true⟩ :: R)) :
  Calls Tryz.prog 132 #[.pointer (some ⟨p,0,none⟩)] w fun r w'=>r = .returned (.tuple #[.slice none 0 0,.slice none 0 0,.int .i64 10]) ∧ w = w':=by
 obtain ⟨ba,bc,sa,sc,ra,rc,h1⟩:=h.chan
 obtain ⟨g4,-⟩:=h1.cel 0 rfl 4 _ rfl
 simp only at g4
 clear h h1
 go_enter Tryz.func132,Tryz.ntmps132
 go_wp2
 refine bodyPost_ret (v:=.tuple #[.slice none 0 0,.slice none 0 0,.int .i64 10]) (by simp [results,Tryz.results132,go_sem]) rfl ⟨rfl,rfl⟩
theorem cclose_any {w0 w:World} {R:List Asr} {p N:Nat} {buf:List Int} {S Rv:List Wt} (h:Own w0 w (ChanA p N ⟨buf,S,Rv,false⟩ :: R)) :
  Calls Tryz.prog 132 #[.pointer (some ⟨p,0,none⟩)] w fun r w'=>∃ ra rc sa sc,r = .returned (.tuple #[.slice ra Rv.length rc,.slice sa S.length sc,.int .i64 0]) ∧
   Own w0 w' (ChanA p N ⟨buf,[],[],true⟩ :: RowGA 3 ra rc Rv.length (wtc Rv) :: RowGA 3 sa sc S.length (wtc S) :: R):=by
 obtain ⟨ba,bc,sa,sc,ra,rc,h1⟩:=h.chan
 obtain ⟨g2,f2⟩:=h1.cel 0 rfl 2 _ rfl
 obtain ⟨g3,f3⟩:=h1.cel 0 rfl 3 _ rfl
 obtain ⟨g4,f4⟩:=h1.cel 0 rfl 4 _ rfl
 simp only at g2 g3 g4
 have hf:∀ wf,Chg [] (((w.setCell ⟨p,3,none⟩ (.slice none 0 0)).setCell ⟨p,2,none⟩ (.slice none 0 0)).setCell ⟨p,4,none⟩ (.bool true)) wf → Own w0 wf (ChanA p N ⟨buf,[],[],true⟩ :: RowGA 3 ra rc Rv.length (wtc Rv) :: RowGA 3 sa sc S.length (wtc S) :: R):=fun wf cf=>by
  have h2:=((h1.setAt 0 rfl 3 (.slice none 0 0)).setAt 0 rfl 2 (.slice none 0 0)).setAt 0 rfl 4 (.bool true)
  have h3:=h2.step cf.to_below0
  have h4:=(h3.add (Below.refl _ _) (A:=RowGA 3 none 0 0 (wtc [])) (F:=[]) ⟨rfl,RowG.nil _ _⟩ (fun x hx=>by simp at hx)).add (Below.refl _ _) (A:=RowGA 3 none 0 0 (wtc [])) (F:=[]) ⟨rfl,RowG.nil _ _⟩ (fun x hx=>by simp at hx)
  have h5:Own w0 wf (RowGA 3 none 0 0 (wtc []) :: RowGA 3 none 0 0 (wtc []) :: CelA p (ccells N ⟨buf,[],[],true⟩ ba bc none 0 none 0) :: RowGA 1 ba bc buf.length (intc buf) :: RowGA 3 sa sc S.length (wtc S) :: RowGA 3 ra rc Rv.length (wtc Rv) :: R):=h4
  have h6:=(((((h5.pick 4 rfl).pick 5 rfl).pick 2 rfl).pick 3 rfl).pick 5 rfl).pick 5 rfl
  exact Own.chanBack h6
 have HF:=Lib.hid hf
 clear h h1 hf
 go_enter Tryz.func132,Tryz.ntmps132
 go_wp2_with fail
 go_quiet (fail)
 go_wp2
 refine bodyPost_ret (v:=.tuple #[.slice ra Rv.length rc,.slice sa S.length sc,.int .i64 0]) (by simp [results,Tryz.results132,go_sem]) rfl ⟨ra,rc,sa,sc,rfl,HF.out _ ?_⟩
 exact Chg.drewN (Chg.refl [] _) nq
theorem cwaits_any {w0 w:World} {R:List Asr} {p N:Nat} {buf:List Int} {S Rv:List Wt} {cl:Bool} (h:Own w0 w (ChanA p N ⟨buf,S,Rv,cl⟩ :: R)) (x:Wt) (hl:S.length ≤ 100000) :
  Calls Tryz.prog 154 #[.pointer (some ⟨p,0,none⟩),wv x] w fun r w'=>r = .returned (.tuple #[]) ∧ Own w0 w' (ChanA p N ⟨buf,S ++ [x],Rv,cl⟩ :: R):=by
 obtain ⟨ba,bc,sa,sc,ra,rc,h1⟩:=h.chan
 obtain ⟨n,hn⟩:∃ n,n = S.length:=⟨_,rfl⟩
 obtain ⟨x1,x2,x3⟩:=x
 have hA:=h1.alloc [.int .i64 x1,.int .i64 x2,.int .i64 x3] 211 (b:=w.heap.size) rfl
 have hpl:p < w.heap.size:=World.block_lt_of_cell? w _ (h1.cel 0 rfl 0 _ rfl).1
 obtain ⟨p1,q1⟩:=hA.cel 1 rfl 2 _ rfl
 simp only at p1
 rw [← hn] at p1 hl
 have HN:=Lib.hid hn
 obtain ⟨z0,-⟩:=hA.cel 0 rfl 0 _ rfl
 obtain ⟨z1,-⟩:=hA.cel 0 rfl 1 _ rfl
 obtain ⟨z2,-⟩:=hA.cel 0 rfl 2 _ rfl
 have hrow:=hA.rowG 3 rfl
 simp only at hrow
 rw [← hn] at hrow
 have HR:=Lib.hid hrow
 have H5:=Lib.hid hA
 clear hn h h1 hA hrow
 unfold wv
 simp only
 obtain ⟨i0,hi0,hz0,hz1,hz2⟩:=info_parts info_wt
 have Hi:=Lib.hid hi0;clear hi0
 have Hz0:=Lib.hid hz0;clear hz0
 have Hz1:=Lib.hid hz1;clear hz1
 have Hz2:=Lib.hid hz2;clear hz2
 go_enter Tryz.func154,Tryz.ntmps154
 go_upto_region 1 with fail
 obtain ⟨s0,hs0⟩:∃ s0,s0 = w.heap.size:=⟨_,rfl⟩
 rw [← hs0] at z0 z1 z2 H5 ⊢
 have hps:p ≠ s0:=by omega
 clear hs0 hpl
 generalize w.alloc (.cells #[.int .i64 x1,.int .i64 x2,.int .i64 x3] 211) = W at *
 have hpl3:=World.block_lt_of_cell? W _ p1
 have hsl3:=World.block_lt_of_cell? W _ z0
 go_wp2_with fail
 go_region_law (first
  | (refine step_append_rowG (m:=1) (ds:=wtc [(x1,x2,x3)]) (by rfl) _ _ 142 (by rfl) 211 i0 _ Tryz.underlying142 Hi.out Hz0.out Hz1.out Hz2.out rfl (by omega) (by omega) (by rfl) (by rfl) (HR.out.below (by repeat (first | exact Below.refl _ _ | refine Below.drew ?_ | refine Below.alloc ?_ (by simp) _))) (by first | exact CellsAt.new _ (wtc [(x1,x2,x3)]) _ rfl | exact (CellsAt.new _ (wtc [(x1,x2,x3)]) _ rfl).below (below_drew1 _)) rfl (wtc_one _) (by omega) ?_;intro a1 c1 w4 k1 ch1 f1
     have h6:=Own.rowTurnC ch1 k1 (fun x hx=>by have:=f1 x hx;simpa using this) ((H5.out.step (by repeat (first | exact Below.refl _ _ | refine Below.drew ?_ | refine Below.alloc ?_ (by simp) _))).pick 3 rfl)
     obtain ⟨p1',q1'⟩:=h6.cel 2 rfl 2 _ rfl))
 all_goals
  have hE:Own w0 (w4.setCell ⟨p,2,none⟩ (.slice a1 (n + 1) c1)) (ChanA p N ⟨buf,S ++ [(x1,x2,x3)],Rv,cl⟩ :: R):=by
   have e:(S ++ [(x1,x2,x3)]).length = n + 1:=by rw [HN.out];simp
   have e2:wtc (S ++ [(x1,x2,x3)]) = wtc S ++ wtc [(x1,x2,x3)]:=wtc_app _ _
   have h7:Own w0 (w4.setCell ⟨p,2,none⟩ (.slice a1 (n + 1) c1)) (RowGA 3 a1 c1 (S ++ [(x1,x2,x3)]).length (wtc (S ++ [(x1,x2,x3)])) :: CelA s0 [.int .i64 x1,.int .i64 x2,.int .i64 x3] :: CelA p (ccells N ⟨buf,S ++ [(x1,x2,x3)],Rv,cl⟩ ba bc a1 c1 ra rc) :: RowGA 1 ba bc buf.length (intc buf) :: RowGA 3 ra rc Rv.length (wtc Rv) :: R):=by
    simp only [ccells]
    rw [e,e2]
    exact h6.setAt 2 rfl 2 (.slice a1 (n + 1) c1)
   have h8:=(h7.pick 1 rfl).drop
   exact Own.chanBack ((((h8.pick 3 rfl).pick 1 rfl).pick 3 rfl).pick 3 rfl)
  have HE:=Lib.hid hE
  clear hE h6 k1 ch1 f1 p1 q1 z0 z1 z2 H5
  go_wp2
  go_end0
  exact ⟨rfl,HE.out⟩
theorem cwaitr_any {w0 w:World} {R:List Asr} {p N:Nat} {buf:List Int} {S Rv:List Wt} {cl:Bool} (h:Own w0 w (ChanA p N ⟨buf,S,Rv,cl⟩ :: R)) (x:Wt) (hl:Rv.length ≤ 100000) :
  Calls Tryz.prog 153 #[.pointer (some ⟨p,0,none⟩),wv x] w fun r w'=>r = .returned (.tuple #[]) ∧ Own w0 w' (ChanA p N ⟨buf,S,Rv ++ [x],cl⟩ :: R):=by
 obtain ⟨ba,bc,sa,sc,ra,rc,h1⟩:=h.chan
 obtain ⟨n,hn⟩:∃ n,n = Rv.length:=⟨_,rfl⟩
 obtain ⟨x1,x2,x3⟩:=x
 have hA:=h1.alloc [.int .i64 x1,.int .i64 x2,.int .i64 x3] 211 (b:=w.heap.size) rfl
 have hpl:p < w.heap.size:=World.block_lt_of_cell? w _ (h1.cel 0 rfl 0 _ rfl).1
 obtain ⟨p1,q1⟩:=hA.cel 1 rfl 3 _ rfl
 simp only at p1
 rw [← hn] at p1 hl
 have HN:=Lib.hid hn
 obtain ⟨z0,-⟩:=hA.cel 0 rfl 0 _ rfl
 obtain ⟨z1,-⟩:=hA.cel 0 rfl 1 _ rfl
 obtain ⟨z2,-⟩:=hA.cel 0 rfl 2 _ rfl
 have hrow:=hA.rowG 4 rfl
 simp only at hrow
 rw [← hn] at hrow
 have HR:=Lib.hid hrow
 have H5:=Lib.hid hA
 clear hn h h1 hA hrow
 unfold wv
 simp only
 obtain ⟨i0,hi0,hz0,hz1,hz2⟩:=info_parts info_wt
 have Hi:=Lib.hid hi0;clear hi0
 have Hz0:=Lib.hid hz0;clear hz0
 have Hz1:=Lib.hid hz1;clear hz1
 have Hz2:=Lib.hid hz2;clear hz2
 go_enter Tryz.func153,Tryz.ntmps153
 go_upto_region 1 with fail
 obtain ⟨s0,hs0⟩:∃ s0,s0 = w.heap.size:=⟨_,rfl⟩
 rw [← hs0] at z0 z1 z2 H5 ⊢
 have hps:p ≠ s0:=by omega
 clear hs0 hpl
 generalize w.alloc (.cells #[.int .i64 x1,.int .i64 x2,.int .i64 x3] 211) = W at *
 have hpl3:=World.block_lt_of_cell? W _ p1
 have hsl3:=World.block_lt_of_cell? W _ z0
 go_wp2_with fail
 go_region_law (first
  | (refine step_append_rowG (m:=1) (ds:=wtc [(x1,x2,x3)]) (by rfl) _ _ 142 (by rfl) 211 i0 _ Tryz.underlying142 Hi.out Hz0.out Hz1.out Hz2.out rfl (by omega) (by omega) (by rfl) (by rfl) (HR.out.below (by repeat (first | exact Below.refl _ _ | refine Below.drew ?_ | refine Below.alloc ?_ (by simp) _))) (by first | exact CellsAt.new _ (wtc [(x1,x2,x3)]) _ rfl | exact (CellsAt.new _ (wtc [(x1,x2,x3)]) _ rfl).below (below_drew1 _)) rfl (wtc_one _) (by omega) ?_;intro a1 c1 w4 k1 ch1 f1
     have h6:=Own.rowTurnC ch1 k1 (fun x hx=>by have:=f1 x hx;simpa using this) ((H5.out.step (by repeat (first | exact Below.refl _ _ | refine Below.drew ?_ | refine Below.alloc ?_ (by simp) _))).pick 4 rfl)
     obtain ⟨p1',q1'⟩:=h6.cel 2 rfl 3 _ rfl))
 all_goals
  have hE:Own w0 (w4.setCell ⟨p,3,none⟩ (.slice a1 (n + 1) c1)) (ChanA p N ⟨buf,S,Rv ++ [(x1,x2,x3)],cl⟩ :: R):=by
   have e:(Rv ++ [(x1,x2,x3)]).length = n + 1:=by rw [HN.out];simp
   have e2:wtc (Rv ++ [(x1,x2,x3)]) = wtc Rv ++ wtc [(x1,x2,x3)]:=wtc_app _ _
   have h7:Own w0 (w4.setCell ⟨p,3,none⟩ (.slice a1 (n + 1) c1)) (RowGA 3 a1 c1 (Rv ++ [(x1,x2,x3)]).length (wtc (Rv ++ [(x1,x2,x3)])) :: CelA s0 [.int .i64 x1,.int .i64 x2,.int .i64 x3] :: CelA p (ccells N ⟨buf,S,Rv ++ [(x1,x2,x3)],cl⟩ ba bc sa sc a1 c1) :: RowGA 1 ba bc buf.length (intc buf) :: RowGA 3 sa sc S.length (wtc S) :: R):=by
    simp only [ccells]
    rw [e,e2]
    exact h6.setAt 2 rfl 3 (.slice a1 (n + 1) c1)
   have h8:=(h7.pick 1 rfl).drop
   exact Own.chanBack ((((h8.pick 3 rfl).pick 3 rfl).pick 3 rfl))
  have HE:=Lib.hid hE
  clear hE h6 k1 ch1 f1 p1 q1 z0 z1 z2 H5
  go_wp2
  go_end0
  exact ⟨rfl,HE.out⟩
theorem nil_of_none {w:World} {s cap n:Nat} {cs:List Value} (hs:0 < s) (h:RowG s w none cap n cs):cap = 0 ∧ n = 0 ∧ cs = []:=by
 obtain ⟨h1,h2,h3,h4⟩:=h
 rcases h4 with ⟨_,h0⟩ | ⟨_,_,h,_⟩
 ·have hn:n = 0:=by omega
  subst hn
  exact ⟨h0,rfl,List.length_eq_zero_iff.1 (by simpa using h1)⟩
 ·cases h
theorem clonei_any (w:World) (a:Option Addr) (n c:Nat) (cs:List Value) (h:RowG 1 w a c n cs) (hone:∀ u ∈ cs,u.oneCell' = true) (hl:n ≤ 1000000) :
  Calls Tryz.prog 22 #[.slice a n c] w fun r w'=>∃ a' c',r = .returned (.slice a' n c') ∧ RowG 1 w' a' c' n cs ∧ (∀ x ∈ blk a',w.heap.size ≤ x) ∧ Below w.heap.size w w':=by
 cases a with
 | none =>
  obtain ⟨rfl,rfl,rfl⟩:=nil_of_none (by omega) h
  clear h hone
  have he:∀ w:World,(binOp .eql 39 (.slice none 0 0) (.slice none 0 0)).run Tryz.prog w = .ok (.bool true) w:=fun _=>rfl
  go_enter Tryz.func22,Tryz.ntmps22
  go_wp2
  go_ret
  exact ⟨none,0,rfl,RowG.nil _ _,fun x hx=>by simp [blk] at hx,Below.refl _ _⟩
 | some ad =>
  obtain ⟨i0,hi0,hz0,hz1,hz2⟩:=info_parts info_i6
  have Hi:=Lib.hid hi0;clear hi0
  have Hz0:=Lib.hid hz0;clear hz0
  have Hz1:=Lib.hid hz1;clear hz1
  have Hz2:=Lib.hid hz2;clear hz2
  have H:=Lib.hid h
  have HO:=Lib.hid hone
  clear h hone
  have he:∀ w:World,(binOp .eql 39 (.slice (some ad) n c) (.slice none 0 0)).run Tryz.prog w = .ok (.bool false) w:=fun _=>rfl
  go_enter Tryz.func22,Tryz.ntmps22
  go_wp2_with (at_builtin;refine wpList_append_rowG (m:=n) (n:=0) (cs:=[]) (ds:=cs) rfl _ _ 39 rfl 2 i0 _ Tryz.underlying39 Hi.out Hz0.out Hz1.out Hz2.out rfl (by omega) (by omega) rfl rfl (RowG.zero (by simp)) ((H.out.below (below_alloc1 _ _)).cells) H.out.1 HO.out (by omega) ?_)
  intro a1 c1 w1 k1 ch1 f1
  have hf:RowG 1 w1 a1 c1 n cs ∧ (∀ x ∈ blk a1,w.heap.size ≤ x) ∧ Below w.heap.size w w1:=by
   refine ⟨by simpa using k1,fun x hx=>?_,Chg.below (below_alloc1 _ _) ch1 (fun x hx=>by simp [blk] at hx;omega)⟩
   rcases f1 x hx with h | h
   ·simp [blk] at h;omega
   ·first | omega | (simp at h;omega)
  have HF:=Lib.hid hf
  clear hf k1 ch1 f1
  go_wp2
  go_ret
  exact ⟨a1,c1,by simp,HF.out⟩
def canS (N:Nat) (C:Ch):Bool:=C.cl || (decide (0 < C.R.length) || decide (C.buf.length < N))
def canR (C:Ch):Bool:=C.cl || (decide (0 < C.S.length) || decide (0 < C.buf.length))
theorem ccans_any {w0 w:World} {R:List Asr} {p N:Nat} {C:Ch} (h:Own w0 w (ChanA p N C :: R)) :
  Calls Tryz.prog 117 #[.pointer (some ⟨p,0,none⟩)] w fun r w'=>r = .returned (.bool (canS N C)) ∧ ∃ m,w' = w.drewN m:=by
 have hh:=chas_any h
 have HH:=Lib.hid hh
 obtain ⟨ba,bc,sa,sc,ra,rc,h1⟩:=h.chan
 obtain ⟨g3,-⟩:=h1.cel 0 rfl 3 _ rfl
 obtain ⟨g4,-⟩:=h1.cel 0 rfl 4 _ rfl
 obtain ⟨buf,S,Rv,cl⟩:=C
 simp only [ccells] at g3 g4
 clear h h1 hh
 cases cl with
 | true =>
  unfold canS
  simp only [Bool.true_or]
  go_enter Tryz.func117,Tryz.ntmps117
  go_wp2
  go_ret
  exact ⟨rfl,0,rfl⟩
 | false =>
  cases Rv with
  | cons x t =>
   unfold canS
   simp only [Bool.false_or,List.length_cons,Nat.zero_lt_succ,decide_true,Bool.true_or] at g3 ⊢
   have hp:0 < t.length + 1:=by omega
   go_enter Tryz.func117,Tryz.ntmps117
   go_wp2
   go_ret
   exact ⟨rfl,0,rfl⟩
  | nil =>
   unfold canS
   simp only [Bool.false_or,List.length_nil,Nat.lt_irrefl,decide_false] at g3 HH ⊢
   generalize decide (buf.length < N) = bb at *
   go_enter Tryz.func117,Tryz.ntmps117
   go_wp2_with fail
   refine HH.out.mono ?_
   rintro r w1 ⟨rfl,m,rfl⟩
   go_wp2
   go_ret
   exact ⟨rfl,m,rfl⟩
theorem ccanr_any {w0 w:World} {R:List Asr} {p N:Nat} {C:Ch} (h:Own w0 w (ChanA p N C :: R)) :
  Calls Tryz.prog 116 #[.pointer (some ⟨p,0,none⟩)] w fun r w'=>r = .returned (.bool (canR C)) ∧ w = w':=by
 obtain ⟨ba,bc,sa,sc,ra,rc,h1⟩:=h.chan
 obtain ⟨g1,-⟩:=h1.cel 0 rfl 1 _ rfl
 obtain ⟨g2,-⟩:=h1.cel 0 rfl 2 _ rfl
 obtain ⟨g4,-⟩:=h1.cel 0 rfl 4 _ rfl
 obtain ⟨buf,S,Rv,cl⟩:=C
 simp only [ccells] at g1 g2 g4
 clear h h1
 cases cl with
 | true =>
  unfold canR
  simp only [Bool.true_or]
  go_enter Tryz.func116,Tryz.ntmps116
  go_wp2
  go_ret
  exact ⟨rfl,rfl⟩
 | false =>
  cases S with
  | cons x t =>
   unfold canR
   simp only [Bool.false_or,List.length_cons,Nat.zero_lt_succ,decide_true,Bool.true_or] at g2 ⊢
   have hp:0 < t.length + 1:=by omega
   go_enter Tryz.func116,Tryz.ntmps116
   go_wp2
   go_ret
   exact ⟨rfl,rfl⟩
  | nil =>
   cases buf with
   | cons y b =>
    unfold canR
    simp only [Bool.false_or,List.length_nil,List.length_cons,Nat.zero_lt_succ,decide_true,Nat.lt_irrefl,decide_false] at g1 g2 ⊢
    have hp:0 < b.length + 1:=by omega
    go_enter Tryz.func116,Tryz.ntmps116
    go_wp2
    go_ret
    exact ⟨rfl,rfl⟩
   | nil =>
    unfold canR
    simp only [Bool.false_or,List.length_nil,Nat.lt_irrefl,decide_false] at g1 g2 ⊢
    go_enter Tryz.func116,Tryz.ntmps116
    go_wp2
    go_ret
    exact ⟨rfl,rfl⟩
def dropW (g:Int) (l:List Wt):List Wt:=l.filter fun x=>!(x.1 == g)
theorem dropW_snoc (g:Int) (l:List Wt) (x:Wt):dropW g (l ++ [x]) = if x.1 = g then dropW g l else dropW g l ++ [x]:=by
 unfold dropW
 rw [List.filter_append]
 by_cases h:x.1 = g <;> simp [h]
theorem dropW_len (g:Int) (l:List Wt):(dropW g l).length ≤ l.length:=List.length_filter_le _ _
theorem dropW_none (g:Int) (l:List Wt) (h:∀ j (hj:j < l.length),l[j].1 ≠ g):dropW g l = l:=by
 unfold dropW
 rw [List.filter_eq_self]
 intro x hx
 obtain ⟨j,hj,rfl⟩:=List.getElem_of_mem hx
 simpa using h j hj
theorem take_snoc_w (l:List Wt) (k:Nat) (h:k < l.length):l.take (k + 1) = l.take k ++ [l[k]]:=by rw [List.take_add_one,List.getElem?_eq_getElem h];rfl
theorem wtc_set (l:List Wt):∀ (i:Nat) (x:Wt),i < l.length → (((wtc l).set (i * 3) (.int .i64 x.1)).set (i * 3 + 1) (.int .i64 x.2.1)).set (i * 3 + 2) (.int .i64 x.2.2) = wtc (l.set i x):=by
 induction l with
 | nil=>intro i y h;simp at h
 | cons x l ih =>
  intro i y h
  cases i with
  | zero=>rfl
  | succ i =>
   have:=ih i y (by simpa using h)
   rw [wtc_cons,List.set_cons_succ,wtc_cons,show (i + 1) * 3 = i * 3 + 1 + 1 + 1 by omega]
   simp only [List.set_cons_succ]
   rw [this]
theorem wpList_clearG {P:Program} {w:World} {ops:Array Oper} {rest:List Oper} {o:Oper} {ac:Act} {Q:Exit → Act → World → Prop} (hgd:o.guard = none) (x:Operand) (t:TypeId)
  (ho:o.op = .call { callee:=.builtin .clear,args:=#[x],argTypes:=#[t] }) {v:Value} {w':World} (hx:ac.eval x = v) (hr:(Builtin.clear_ #[t] o.type #[v]).run P w = .ok (.tuple #[]) w')
  (h:wpList P ops Q rest (ac.put o.dst (.tuple #[])) w'):wpList P ops Q (o :: rest) ac w:=by
 refine wpList_plain hgd fun K hK=>?_
 unfold Oper.wp execOp
 simp only [ho,resolve,invoke,builtin,Sem.run_bind,Sem.run_pure,Result.andThen_ok,List.map_toArray,List.map_cons,List.map_nil,hx,hr]
 exact hK _ _ h
theorem pred_any (x:Wt) (q:Nat) (g:Int) (w:World) (hq:w.cell? ⟨q,0,none⟩ = some (.int .i64 g)) :
  Calls Tryz.prog 159 #[wv x,.pointer (some ⟨q,0,none⟩)] w fun r w'=>r = .returned (.bool (x.1 == g)) ∧ Below w.heap.size w w':=by
 obtain ⟨x1,x2,x3⟩:=x
 unfold wv
 simp only
 have hql:=World.block_lt_of_cell? w _ hq
 go_enter Tryz.func159,Tryz.ntmps159
 go_wp2
 go_ret
 exact ⟨rfl,below_alloc1 _ _⟩
def IdxW (l:List Wt) (g:Int) (w:World) (r:Ending) (w':World):Prop:=Below w.heap.size w w' ∧ ((∃ i,∃ h:i < l.length,r = .returned (.int .i64 (i:Int)) ∧ l[i].1 = g ∧ ∀ j (hj:j < i),(l[j]'(by omega)).1 ≠ g) ∨ (r = .returned (.int .i64 (-1)) ∧ ∀ j (hj:j < l.length),l[j].1 ≠ g))
def clo (q:Nat):Value:=.func (.func 159) #[] #[.pointer (some ⟨q,0,none⟩)]
theorem index_any (w:World) (a:Option Addr) (n c:Nat) (l:List Wt) (q:Nat) (g:Int) (h:CellsAt w a (wtc l)) (hn:n = l.length) (hl:n ≤ 100000) (hq:w.cell? ⟨q,0,none⟩ = some (.int .i64 g)) :
  Calls Tryz.prog 161 #[.slice a n c,clo q] w fun r w'=>IdxW l g w r w':=by
 have H:=Lib.hid h
 have HN:=Lib.hid hn
 have HQ:=Lib.hid hq
 clear h hn hq
 unfold clo
 go_enter Tryz.func161,Tryz.ntmps161
 go_wp2_with fail
 go_loopw [8] (fun s wr=>∃ i:Nat,i ≤ n ∧ s = .int .i64 i ∧ Hid (Below w.heap.size w wr ∧ ∀ j (hj:j < i) (hj2:j < l.length),l[j].1 ≠ g)) (fun s _=>n - (intOf s).toNat)
 case atStart=>exact ⟨0,by omega,rfl,Lib.hid ⟨Below.refl _ _,fun j hj=>by omega⟩⟩
 case round =>
  obtain ⟨i,hi,rfl,hr⟩:=hrel
  by_cases hlt:i < n
  ·have hil:i < l.length:=by have:=HN.out;omega
   obtain ⟨b,off,rfl,e1,e2,e3⟩:=(H.out.below hr.out.1).wt i hil
   have hp:=pred_any l[i] q g wr (cell_below HQ.out hr.out.1)
   have HP:=Lib.hid hp
   have hli:(i:Int) < (n:Int):=by omega
   have HI:Hid (l[i]'hil = l[i]'hil):=Lib.hid rfl
   clear hp
   obtain ⟨y,hy⟩:∃ y,y = l[i]'hil:=⟨_,rfl⟩
   rw [← hy] at e1 e2 e3 HP
   have HY:=Lib.hid hy
   clear hy HI
   obtain ⟨y1,y2,y3⟩:=y
   unfold wv at HP
   simp only at e1 e2 e3 HP
   by_cases hyg:y1 = g
   ·have hb:(y1 == g) = true:=by rw [beq_iff_eq];exact hyg
    rw [hb] at HP
    have HF:Hid (∀ w',Below wr.heap.size wr w' → IdxW l g w (.returned (.int .i64 (i:Int))) w'):=Lib.hid fun w' hb=>⟨below_on hr.out.1 hb,.inl ⟨i,hil,rfl,by rw [← HY.out];exact hyg,fun j hj=>hr.out.2 j hj (by omega)⟩⟩
    clear hb hyg hr
    go_wp2_with fail
    refine HP.out.mono ?_
    rintro r w3 ⟨rfl,b3⟩
    have HZ:=Lib.hid (HF.out _ b3)
    clear b3
    go_wp2
    go_ret
    exact HZ.out
   ·have hb:(y1 == g) = false:=by rw [beq_eq_false_iff_ne];exact hyg
    rw [hb] at HP
    have HF:Hid (∀ w',Below wr.heap.size wr w' → Below w.heap.size w w' ∧ ∀ j (hj:j < i + 1) (hj2:j < l.length),l[j].1 ≠ g):=Lib.hid fun w' hb=>⟨below_on hr.out.1 hb,fun j hj hj2=>by
     by_cases e:j = i
     ·subst e;rw [← HY.out];exact hyg
     ·exact hr.out.2 j (by omega) hj2⟩
    clear hb hyg hr
    go_wp2_with fail
    refine HP.out.mono ?_
    rintro r w3 ⟨rfl,b3⟩
    have HZ:=Lib.hid (HF.out _ b3)
    clear b3
    go_wp2
    exact ⟨⟨i + 1,by omega,by go_num,HZ⟩,by simp [intOf];omega⟩
  ·have hge:¬ (i:Int) < (n:Int):=by omega
   have HF:Hid (IdxW l g w (.returned (.int .i64 (-1))) wr):=Lib.hid ⟨hr.out.1,.inr ⟨rfl,fun j hj=>hr.out.2 j (by have:=HN.out;omega) hj⟩⟩
   clear hr
   go_wp2
   go_ret
   exact HF.out
theorem zeroCells_one {z:Value} (h1:∀ u ∈ z.cells.toList,u.oneCell' = true) (n:Nat):∀ u ∈ (Builtin.zeroCells z.cells n).toList,u.oneCell' = true:=fun u hu=>by
 unfold Builtin.zeroCells at hu
 rw [Array.mem_toList_iff,Array.mem_map] at hu
 obtain ⟨i,hi,rfl⟩:=hu
 have hp:0 < z.cells.size:=by
  rw [Array.mem_range] at hi
  rcases Nat.eq_zero_or_pos z.cells.size with e | e
  ·rw [e] at hi;omega
  ·exact e
 have hlt2:=Nat.mod_lt i hp
 rw [getElem!_pos z.cells _ hlt2]
 exact h1 _ (Array.mem_toList_iff.2 (Array.getElem_mem hlt2))
theorem drop_clear {P:Program} {t:TypeId} {s:Nat} (z:Value) (ht:P.underlying t = some (.slice (P.elem t))) (hs:∀ w,(sizeOf (P.elem t)).run P w = .ok s w) (hv:∀ w,(zeroValue (P.elem t)).run P w = .ok z w) (hzs:z.cells.size = s) (h1:∀ u ∈ z.cells.toList,u.oneCell' = true)
  {w:World} {a:Option Addr} {cap n:Nat} {cs:List Value} (h:RowG s w a cap n cs) (m:Nat) (hm:m ≤ n) :
  ∃ a',(∀ w,(Instr.slice t (.slice a n cap) (some (.int .i64 (m:Int))) none none).run P w = .ok (.slice a' (n - m) (cap - m)) w) ∧
   ∃ w',(∀ ty c,(Builtin.clear_ #[t] ty #[.slice a' (n - m) c]).run P w = .ok (.tuple #[]) w') ∧ RowG s w' a cap m (cs.take (m * s)) ∧ Chg (blk a) w w':=by
 obtain ⟨a',hsl,hrow,hbl⟩:=slice_fromG ht hs h m hm
 refine ⟨a',hsl,?_⟩
 have hnm:∀ k,k = 0 → (∀ ty c,(Builtin.clear_ #[t] ty #[.slice a' k c]).run P w = .ok (.tuple #[]) w):=fun k hk ty c=>by
  subst hk;cases a' <;> simp [Builtin.clear_,run_underlying ht]
 rcases Nat.eq_zero_or_pos (n - m) with h0 | hpos
 ·exact ⟨w,hnm _ h0,h.take m hm,Chg.refl _ _⟩
 ·have hh:=h
  obtain ⟨k1,k2,k3,k4⟩:=h
  rcases k4 with ⟨rfl,hc⟩ | ⟨b,off,rfl,hlt,h5,h6⟩
  ·omega
  ·have hne:¬ cap = m:=by omega
   have ha':a' = some ⟨b,off + m * s,none⟩:=by
    have e1:=hsl w
    rw [run_slice_l (P:=P) (t:=t) (ht:=ht) (kl:=.i64) (l:=(m:Int)) (h0:=by omega) (h1:=by omega),hs] at e1
    by_cases hm0:m = 0
    ·subst hm0
     simp [Result.andThen,sliced,hne,Addr.add] at e1
     rw [← e1];simp
    ·simp [Result.andThen,sliced,hne,Addr.add] at e1
     rw [e1.symm]
     by_cases hz:m * s = 0
     ·rw [if_pos hz,hz];rfl
     ·rw [if_neg hz]
   subst ha'
   have hlen:(Builtin.zeroCells z.cells (n - m)).toList.length = (n - m) * s:=by rw [Array.length_toList,size_zeroCells,hzs]
   have hcm:cap * s = m * s + (n - m) * s + (cap - n) * s:=by rw [← Nat.add_mul,← Nat.add_mul];congr 1;omega
   have hms:n * s = m * s + (n - m) * s:=by rw [← Nat.add_mul];congr 1;omega
   have hst:=run_storeCells_cells (P:=P) b (off + m * s) (Builtin.zeroCells z.cells (n - m)).toList 0 w (fun j hj=>by rw [hlen] at hj;have:=(h5 (m * s + j) (by omega)).1;simpa [Nat.add_assoc] using this) (fun j hj=>by rw [hlen] at hj;have:=(h5 (m * s + j) (by omega)).2;simpa [Nat.add_assoc] using this) (zeroCells_one h1 _)
   simp only [Nat.add_zero] at hst
   refine ⟨w.setCells b (off + m * s) (Builtin.zeroCells z.cells (n - m)).toList,fun ty c=>?_,?_,(Chg.refl _ _).setCells _ _ (.inl (by simp [blk]))⟩
   ·obtain ⟨q,hq⟩:∃ q,n - m = q + 1:=⟨n - m - 1,by omega⟩
    rw [hq] at hst ⊢
    generalize hzl:(Builtin.zeroCells z.cells (q + 1)).toList = zl at *
    simp [Builtin.clear_,run_underlying ht,hv,hzl,hst]
   ·have hin:=World.cell?_setCells_in b (Builtin.zeroCells z.cells (n - m)).toList (off + m * s) w (fun j hj=>by rw [hlen] at hj;have:=(h5 (m * s + j) (by omega)).1;simpa [Nat.add_assoc] using this)
    generalize (Builtin.zeroCells z.cells (n - m)).toList = zl at *
    refine ⟨by rw [List.length_take];omega,by omega,k3,.inr ⟨b,off,rfl,Nat.lt_of_lt_of_le hlt ((Chg.refl [b] w).setCells zl (off + m * s) (.inl (by simp))).size,fun j hj=>⟨?_,by rw [World.frozen?_setCells];exact (h5 j hj).2⟩,fun j v hj=>?_⟩⟩
    ·by_cases hj2:m * s ≤ j ∧ j < m * s + (n - m) * s
     ·have:=hin (j - m * s) (by omega)
      rw [show off + m * s + (j - m * s) = off + j by omega] at this
      rw [this];rfl
     ·rw [World.cell?_setCells_out b zl _ w _ (fun _ _=>by simp only;omega)]
      exact (h5 j hj).1
    ·rw [List.getElem?_take] at hj
     split at hj
     ·rw [World.cell?_setCells_out b zl _ w _ (fun _ _=>by simp only;omega)]
      exact h6 j v hj
     ·cases hj
theorem zero_wt (w:World):(zeroValue (Tryz.prog.elem 142)).run Tryz.prog w = .ok (.agg #[.int .i64 0,.int .i64 0,.int .i64 0]) w:=by kernel_rfl
def Mid (g:Int) (l l':List Wt) (i j:Nat):Prop:=l'.length = l.length ∧ i ≤ j ∧ l'.take i = dropW g (l.take j) ∧ l'.drop j = l.drop j
theorem Mid.skip {g:Int} {l l':List Wt} {i j:Nat} (h:Mid g l l' i j) (hj:j < l.length) (hx:l[j].1 = g):Mid g l l' i (j + 1):=by
 obtain ⟨h1,h2,h3,h4⟩:=h
 refine ⟨h1,by omega,?_,?_⟩
 ·rw [take_snoc_w l j hj,dropW_snoc,if_pos hx];exact h3
 ·rw [← List.drop_drop,← List.drop_drop,h4]
theorem Mid.keep {g:Int} {l l':List Wt} {i j:Nat} (h:Mid g l l' i j) (hj:j < l.length) (hx:¬ l[j].1 = g):Mid g l (l'.set i l[j]) (i + 1) (j + 1):=by
 obtain ⟨h1,h2,h3,h4⟩:=h
 refine ⟨by rw [List.length_set];exact h1,by omega,?_,?_⟩
 ·rw [take_snoc_w l j hj,dropW_snoc,if_neg hx,← h3,take_set_succ _ _ _ (by omega)]
 ·rw [List.drop_set_of_lt (by omega),← List.drop_drop,← List.drop_drop,h4]
theorem Mid.at {g:Int} {l l':List Wt} {i j:Nat} (h:Mid g l l' i j) (hj:j < l.length) (hj':j < l'.length):l'[j] = l[j]:=by
 obtain ⟨h1,h2,h3,h4⟩:=h
 have:=congrArg List.head? h4
 rw [List.head?_drop,List.head?_drop,List.getElem?_eq_getElem hj',List.getElem?_eq_getElem hj] at this
 simpa using this
theorem delete_any {w0 w:World} {R:List Asr} {a:Option Addr} {c n q:Nat} {g:Int} {l:List Wt} (h:Own w0 w (RowGA 3 a c n (wtc l) :: CelA q [.int .i64 g] :: R)) (hn:n = l.length) (hl:n ≤ 100000) :
  Calls Tryz.prog 160 #[.slice a n c,clo q] w fun r w'=>r = .returned (.slice a (dropW g l).length c) ∧ Own w0 w' (RowGA 3 a c (dropW g l).length (wtc (dropW g l)) :: CelA q [.int .i64 g] :: R):=by
 have hi:=index_any w a n c l q g (h.rowG 0 rfl).cells hn hl (h.cel 1 rfl 0 _ rfl).1
 have HI:=Lib.hid hi
 have HO:=Lib.hid h
 have HN:=Lib.hid hn
 have hcn:n ≤ c:=(h.rowG 0 rfl).2.1
 clear hi h hn
 have hclo:clo q = .func (.func 159) #[] #[.pointer (some ⟨q,0,none⟩)]:=rfl
 rw [hclo]
 rw [hclo] at HI
 clear hclo
 go_enter Tryz.func160,Tryz.ntmps160
 go_wp2_with fail
 refine HI.out.mono ?_
 rintro r w1 ⟨b1,hr⟩
 rcases hr with ⟨i,hil,rfl,hx,hpre⟩ | ⟨rfl,hno⟩
 ·have hst:∃ l',Mid g l l' i (i + 1) ∧ Own w0 w1 (RowGA 3 a c n (wtc l') :: CelA q [.int .i64 g] :: R):=by
   refine ⟨l,⟨rfl,by omega,?_,rfl⟩,HO.out.step b1⟩
   rw [take_snoc_w l i hil,dropW_snoc,if_pos hx,dropW_none]
   intro j hj
   rw [List.length_take] at hj
   rw [List.getElem_take]
   exact hpre j (by omega)
  have HST:=Lib.hid hst
  have hin:i < n:=by have:=HN.out;omega
  have hne:((i:Int) == -1) = false:=by rw [beq_eq_false_iff_ne];omega
  clear hst hx hpre b1 HI HO hil
  go_wp2_with fail
  go_loopw [5,6] (fun s5 s6 wr=>∃ i j:Nat,i < j ∧ j ≤ n ∧ s5 = .int .i64 i ∧ s6 = .int .i64 j ∧ Hid (∃ l',Mid g l l' i j ∧ Own w0 wr (RowGA 3 a c n (wtc l') :: CelA q [.int .i64 g] :: R))) (fun _ s6 _=>n - (intOf s6).toNat)
  case atStart=>exact ⟨i,i + 1,by omega,by omega,rfl,by go_num,HST⟩
  case round =>
   obtain ⟨i,j,hij,hj,rfl,rfl,hr⟩:=hrel
   obtain ⟨l',hm,ho⟩:=hr.out
   by_cases hlt:j < n
   ·have hjl:j < l.length:=by have:=HN.out;omega
    have hjl':j < l'.length:=by rw [hm.1];exact hjl
    obtain ⟨b,off,rfl,e1,e2,e3⟩:=(ho.rowG 0 rfl).cells.wt j hjl'
    rw [hm.at hjl hjl'] at e1 e2 e3
    have hp:=pred_any l[j] q g (wr.alloc (.cells #[.int .i64 l[j].1,.int .i64 l[j].2.1,.int .i64 l[j].2.2] 211)) (cell_below (ho.cel 1 rfl 0 _ rfl).1 (below_alloc1 _ _))
    have HP:=Lib.hid hp
    have hji:(j:Int) < (n:Int):=by omega
    have hii:(i:Int) < (n:Int):=by omega
    have HM:=Lib.hid hm
    have HO:=Lib.hid ho
    have HJ:Hid (j < l.length):=Lib.hid hjl
    obtain ⟨y,hy⟩:∃ y,y = l[j]'hjl:=⟨_,rfl⟩
    rw [← hy] at e1 e2 e3 HP
    have HY:Hid (∀ h:j < l.length,y = l[j]'h):=Lib.hid fun _=>hy
    clear hp hy hjl hjl' hm ho hr HST
    obtain ⟨y1,y2,y3⟩:=y
    unfold wv at HP
    simp only at e1 e2 e3 HP
    by_cases hyg:y1 = g
    ·have hb:(y1 == g) = true:=by rw [beq_iff_eq];exact hyg
     rw [hb] at HP
     have HG:=Lib.hid hyg
     clear hb hyg
     go_wp2_with fail
     refine HP.out.mono ?_
     rintro r w3 ⟨rfl,b3⟩
     have HZ:Hid (∃ l',Mid g l l' i (j + 1) ∧ Own w0 w3 (RowGA 3 (some ⟨b,off,none⟩) c n (wtc l') :: CelA q [.int .i64 g] :: R)):=Lib.hid ⟨l',HM.out.skip HJ.out (by rw [← HY.out HJ.out];exact HG.out),(HO.out.step (below_alloc1 _ _)).step b3⟩
     clear b3 HP
     go_wp2
     exact ⟨⟨i,j + 1,by omega,by omega,rfl,by go_num,HZ⟩,by simp [intOf];omega⟩
    ·have hb:(y1 == g) = false:=by rw [beq_eq_false_iff_ne];exact hyg
     rw [hb] at HP
     have HG:=Lib.hid hyg
     clear hb hyg
     go_wp2_with fail
     refine HP.out.mono ?_
     rintro r w3 ⟨rfl,b3⟩
     have o3:=(HO.out.step (below_alloc1 _ (.cells #[.int .i64 y1,.int .i64 y2,.int .i64 y3] 211))).step b3
     have hlen:i * 3 + 2 < (wtc l').length:=by rw [wtc_len,HM.out.1];have:=HN.out;omega
     have o4:=((o3.rowSet (i * 3) (.int .i64 y1) (by omega)).rowSet (i * 3 + 1) (.int .i64 y2) (by rw [List.length_set];omega)).rowSet (i * 3 + 2) (.int .i64 y3) (by rw [List.length_set,List.length_set];exact hlen)
     rw [wtc_set l' i (y1,y2,y3) (by rw [HM.out.1];have:=HN.out;omega)] at o4
     have hmk:=HM.out.keep HJ.out (by rw [← HY.out HJ.out];exact HG.out)
     rw [← HY.out HJ.out] at hmk
     rw [← Nat.add_assoc,← Nat.add_assoc] at o4
     have HZ:Hid (∃ l',Mid g l l' (i + 1) (j + 1) ∧ Own w0 (((w3.setCell ⟨b,off + i * 3,none⟩ (.int .i64 y1)).setCell ⟨b,off + i * 3 + 1,none⟩ (.int .i64 y2)).setCell ⟨b,off + i * 3 + 2,none⟩ (.int .i64 y3)) (RowGA 3 (some ⟨b,off,none⟩) c n (wtc l') :: CelA q [.int .i64 g] :: R)):=Lib.hid ⟨_,hmk,o4⟩
     have v9:=cell_below (Blk.mk wr [.int .i64 y1,.int .i64 y2,.int .i64 y3] 211 _ rfl 0 _ rfl).1 b3
     have v10:=cell_below (Blk.mk wr [.int .i64 y1,.int .i64 y2,.int .i64 y3] 211 _ rfl 1 _ rfl).1 b3
     have v11:=cell_below (Blk.mk wr [.int .i64 y1,.int .i64 y2,.int .i64 y3] 211 _ rfl 2 _ rfl).1 b3
     obtain ⟨u0,s1,s2⟩:=(o3.rowG 0 rfl).spot (i * 3) (by omega)
     obtain ⟨u1,s3,s4⟩:=(o3.rowG 0 rfl).spot (i * 3 + 1) (by omega)
     obtain ⟨u2,s5,s6⟩:=(o3.rowG 0 rfl).spot (i * 3 + 2) (by omega)
     rw [← Nat.add_assoc] at s3 s4 s5 s6
     clear b3 HP o4 o3 hmk hlen e1 e2 e3
     go_wp2
     exact ⟨⟨i + 1,j + 1,by omega,by omega,by go_num,by go_num,HZ⟩,by simp [intOf];omega⟩
   ·have hge:¬ (j:Int) < (n:Int):=by omega
    have hjn:j = n:=by omega
    have hi:i ≤ n:=by omega
    obtain ⟨z1,z2,z3,z4⟩:=hm
    have hdl:dropW g l = l'.take i:=by rw [z3,List.take_of_length_le (by have:=HN.out;omega)]
    have hlen:(dropW g l).length = i:=by rw [hdl,List.length_take,z1];have:=HN.out;omega
    obtain ⟨a',hsl,w2,hclr,hrow,hchg⟩:=drop_clear (.agg #[.int .i64 0,.int .i64 0,.int .i64 0]) under_wt size_wt zero_wt rfl (by simp [Value.cells,Value.oneCell']) (ho.rowG 0 rfl) i hi
    have hsh:∀ w',(Instr.slice 142 (.slice a n c) none (some (.int .i64 (i:Int))) none).run Tryz.prog w' = .ok (.slice a i c) w':=fun w'=>slice_head w' under_wt size_wt a n c i (by omega)
    have hfin:Own w0 w2 (RowGA 3 a c (dropW g l).length (wtc (dropW g l)) :: CelA q [.int .i64 g] :: R):=by
     rw [hlen,hdl,wtc_take]
     exact Own.rowTurn ho hrow hchg (fun x hx=>.inl hx)
    have HF:=Lib.hid hfin
    have HCLR:=Lib.hid hclr
    have HLEN:=Lib.hid hlen
    clear hr ho hrow hchg hfin hclr z1 z2 z3 z4 hdl hlen HST hlt hj hij
    go_wp2_with (with_reducible refine wpList_clearG rfl _ _ rfl rfl (HCLR.out _ _) ?_)
    go_ret
    exact ⟨by rw [HLEN.out];rfl,HF.out⟩
 ·have hd:dropW g l = l:=dropW_none g l hno
  have HF:Hid (Own w0 w1 (RowGA 3 a c (dropW g l).length (wtc (dropW g l)) :: CelA q [.int .i64 g] :: R)):=Lib.hid (by rw [hd,← HN.out];exact HO.out.step b1)
  have HL:Hid ((dropW g l).length = n):=Lib.hid (by rw [hd];exact HN.out.symm)
  clear hno hd b1 HI HO
  go_wp2
  go_ret
  exact ⟨by rw [HL.out];rfl,HF.out⟩
theorem cdrop_any {w0 w:World} {R:List Asr} {p N:Nat} {C:Ch} (h:Own w0 w (ChanA p N C :: R)) (g:Int) (hs:C.S.length ≤ 100000) (hr:C.R.length ≤ 100000) :
  Calls Tryz.prog 155 #[.pointer (some ⟨p,0,none⟩),.int .i64 g] w fun r w'=>r = .returned (.tuple #[]) ∧ Own w0 w' (ChanA p N ⟨C.buf,dropW g C.S,dropW g C.R,C.cl⟩ :: R):=by
 obtain ⟨buf,S,Rv,cl⟩:=C
 simp only at hs hr ⊢
 obtain ⟨ba,bc,sa,sc,ra,rc,h1⟩:=h.chan
 have hpl:p < w.heap.size:=World.block_lt_of_cell? w _ (h1.cel 0 rfl 0 _ rfl).1
 have hA:=h1.alloc [.int .i64 g] 3 (b:=w.heap.size) rfl
 have hmk:∀ q,(clo q) = .func (.func 159) #[] #[.pointer (some ⟨q,0,none⟩)]:=fun _=>rfl
 have hB:Own w0 (w.alloc (.cells #[.int .i64 g] 3)) (RowGA 3 sa sc S.length (wtc S) :: CelA w.heap.size [.int .i64 g] :: CelA p (ccells N ⟨buf,S,Rv,cl⟩ ba bc sa sc ra rc) :: RowGA 1 ba bc buf.length (intc buf) :: RowGA 3 ra rc Rv.length (wtc Rv) :: R):=hA.pick 3 rfl
 have hd:=delete_any hB rfl hs
 rw [hmk] at hd
 obtain ⟨g2,-⟩:=hB.cel 2 rfl 2 _ rfl
 have HD:=Lib.hid hd
 simp only [ccells] at g2
 obtain ⟨n,hn⟩:∃ n,n = S.length:=⟨_,rfl⟩
 rw [← hn] at g2 HD
 have HN:=Lib.hid hn
 clear h h1 hA hB hd hn
 go_enter Tryz.func155,Tryz.ntmps155
 go_wp2_with fail
 refine HD.out.mono ?_
 rintro r w2 ⟨rfl,h2⟩
 have h3:Own w0 w2 (RowGA 3 sa sc (dropW g S).length (wtc (dropW g S)) :: CelA w.heap.size [.int .i64 g] :: CelA p (ccells N ⟨buf,S,Rv,cl⟩ ba bc sa sc ra rc) :: RowGA 1 ba bc buf.length (intc buf) :: RowGA 3 ra rc Rv.length (wtc Rv) :: R):=h2
 have h4:=h3.setAt 2 rfl 2 (.slice sa (dropW g S).length sc)
 obtain ⟨p2,q2⟩:=h3.cel 2 rfl 2 _ rfl
 have hC:Own w0 (w2.setCell ⟨p,2,none⟩ (.slice sa (dropW g S).length sc)) (RowGA 3 ra rc Rv.length (wtc Rv) :: CelA w.heap.size [.int .i64 g] :: RowGA 3 sa sc (dropW g S).length (wtc (dropW g S)) :: CelA p (ccells N ⟨buf,dropW g S,Rv,cl⟩ ba bc sa sc ra rc) :: RowGA 1 ba bc buf.length (intc buf) :: R):=(h4.pick 1 rfl).pick 4 rfl
 have hd:=delete_any hC rfl hr
 rw [hmk] at hd
 have HD2:=Lib.hid hd
 obtain ⟨g3,-⟩:=hC.cel 3 rfl 3 _ rfl
 simp only [ccells] at g3
 clear h2 h3 h4 hC hd g2 HD
 obtain ⟨n3,hn3⟩:∃ n,n = Rv.length:=⟨_,rfl⟩
 rw [← hn3] at g3 HD2
 have HN3:=Lib.hid hn3
 clear hn3
 go_wp2_with fail
 refine HD2.out.mono ?_
 rintro r w3 ⟨rfl,h5⟩
 have h6:Own w0 w3 (RowGA 3 ra rc (dropW g Rv).length (wtc (dropW g Rv)) :: CelA w.heap.size [.int .i64 g] :: RowGA 3 sa sc (dropW g S).length (wtc (dropW g S)) :: CelA p (ccells N ⟨buf,dropW g S,Rv,cl⟩ ba bc sa sc ra rc) :: RowGA 1 ba bc buf.length (intc buf) :: R):=h5
 have h7:=h6.setAt 3 rfl 3 (.slice ra (dropW g Rv).length rc)
 obtain ⟨p3,q3⟩:=h6.cel 3 rfl 3 _ rfl
 have hE:Own w0 (w3.setCell ⟨p,3,none⟩ (.slice ra (dropW g Rv).length rc)) (ChanA p N ⟨buf,dropW g S,dropW g Rv,cl⟩ :: R) :=
  Own.chanBack (((((h7.pick 1 rfl).drop.pick 0 rfl).pick 1 rfl).pick 3 rfl).pick 3 rfl)
 have HE:=Lib.hid hE
 clear h5 h6 h7 hE HD2 g3
 go_wp2
 go_end0
 exact ⟨rfl,HE.out⟩
abbrev Cs3:=Int × Int × Int
abbrev Pl:=Nat × Nat
def chs (ps:List Pl) (Cs:List Ch):List Asr:=List.zipWith (fun p C=>ChanA p.1 p.2 C) ps Cs
theorem chs_at {ps:List Pl} {Cs:List Ch} {i:Nat} {p:Pl} {C:Ch} (hp:ps[i]? = some p) (hC:Cs[i]? = some C):(chs ps Cs)[i]? = some (ChanA p.1 p.2 C):=by
 unfold chs;rw [List.getElem?_zipWith,hp,hC]
theorem chs_set {ps:List Pl} {Cs:List Ch} {i:Nat} {p:Pl} (C:Ch) (hp:ps[i]? = some p) (hi:i < Cs.length):(chs ps Cs).set i (ChanA p.1 p.2 C) = chs ps (Cs.set i C):=by
 apply List.ext_getElem?
 intro j
 unfold chs
 rw [List.getElem?_set]
 have hpl:=(List.getElem?_eq_some_iff.1 hp).1
 by_cases e:i = j
 ·subst e
  rw [if_pos rfl,if_pos (by simp;omega),List.getElem?_zipWith,hp,List.getElem?_set_self hi]
 ·rw [if_neg e,List.getElem?_zipWith,List.getElem?_zipWith,List.getElem?_set_ne e]
theorem Own.chPick {w0 w:World} {ps:List Pl} {Cs:List Ch} {R:List Asr} (h:Own w0 w (chs ps Cs ++ R)) {i:Nat} {p:Pl} {C:Ch} (hp:ps[i]? = some p) (hC:Cs[i]? = some C) :
  ∃ R',Own w0 w (ChanA p.1 p.2 C :: R') ∧ ∀ w' C',Own w0 w' (ChanA p.1 p.2 C' :: R') → Own w0 w' (chs ps (Cs.set i C') ++ R):=by
 have hl:i < (chs ps Cs).length:=(List.getElem?_eq_some_iff.1 (chs_at hp hC)).1
 have hCl:=(List.getElem?_eq_some_iff.1 hC).1
 refine ⟨_,h.pick i (by rw [List.getElem?_append_left hl];exact chs_at hp hC),fun w' C' h'=>?_⟩
 have:=h'.back (by rw [List.length_append];omega)
 rw [List.set_append_left _ _ hl,chs_set C' hp hCl] at this
 exact this
def ptrs (ps:List Pl):List Value:=ps.map fun p=>.pointer (some ⟨p.1,0,none⟩)
theorem ptrs_at (ps:List Pl) (i:Nat) (p:Pl) (h:ps[i]? = some p):(ptrs ps)[i]? = some (.pointer (some ⟨p.1,0,none⟩)):=by unfold ptrs;rw [List.getElem?_map,h];rfl
def c3c (k:Cs3):List Value:=[.int .i64 k.1,.int .i64 k.2.1,.int .i64 k.2.2]
def c3s (l:List Cs3):List Value:=l.flatMap c3c
def CasOK (n:Nat) (ks:List Cs3):Prop:=∀ k ∈ ks,(k.1 = 0 ∨ k.1 = 1 ∨ k.1 = 2) ∧ 0 ≤ k.2.1 ∧ (k.1 ≠ 2 → k.2.1 < n) ∧ 0 ≤ k.2.2 ∧ k.2.2 < 8
def goesB (ps:List Pl) (Cs:List Ch) (k:Cs3):Bool :=
 match Cs[k.2.1.toNat]?,ps[k.2.1.toNat]? with
 | some C,some p=>if k.1 = 0 then canR C else if k.1 = 1 then canS p.2 C else false
 | _,_=>false
def enF (g:Cs3 → Bool):Nat → List Cs3 → List Int
 | _,[]=>[]
 | i,k :: t=>if g k then (i:Int) :: enF g (i + 1) t else enF g (i + 1) t
theorem enF_len (g:Cs3 → Bool):∀ (l:List Cs3) (i:Nat),(enF g i l).length ≤ l.length
 | [],i=>by simp [enF]
 | k :: t,i=>by
  have:=enF_len g t (i + 1)
  unfold enF;split <;> simp <;> omega
theorem enF_drop (g:Cs3 → Bool) (l:List Cs3) (i:Nat) (h:i < l.length):enF g i (l.drop i) = if g l[i] then (i:Int) :: enF g (i + 1) (l.drop (i + 1)) else enF g (i + 1) (l.drop (i + 1)):=by
 rw [List.drop_eq_getElem_cons h];rfl
def elF:Nat → List Cs3 → Int
 | _,[]=>-1
 | i,k :: t=>if k.1 = 2 then (i:Int) else elF (i + 1) t
theorem elF_drop (l:List Cs3) (i:Nat) (h:i < l.length):elF i (l.drop i) = if l[i].1 = 2 then (i:Int) else elF (i + 1) (l.drop (i + 1)):=by
 rw [List.drop_eq_getElem_cons h];rfl
def waF (g:Int) (regs:List Int) (i:Nat) (k:Cs3) (Cs:List Ch):List Ch :=
 match Cs[k.2.1.toNat]? with
 | some C=>if k.1 = 0 then Cs.set k.2.1.toNat ⟨C.buf,C.S,C.R ++ [(g,(i:Int),0)],C.cl⟩ else if k.1 = 1 then Cs.set k.2.1.toNat ⟨C.buf,C.S ++ [(g,(i:Int),regs.getD k.2.2.toNat 0)],C.R,C.cl⟩ else Cs
 | none=>Cs
def wasF (g:Int) (regs:List Int):Nat → List Cs3 → List Ch → List Ch
 | _,[],Cs=>Cs
 | i,k :: t,Cs=>wasF g regs (i + 1) t (waF g regs i k Cs)
theorem wasF_drop (g:Int) (regs:List Int) (l:List Cs3) (i:Nat) (h:i < l.length) (Cs:List Ch):wasF g regs i (l.drop i) Cs = wasF g regs (i + 1) (l.drop (i + 1)) (waF g regs i l[i] Cs):=by
 rw [List.drop_eq_getElem_cons h];rfl
theorem waF_len (g:Int) (regs:List Int) (i:Nat) (k:Cs3) (Cs:List Ch):(waF g regs i k Cs).length = Cs.length:=by
 unfold waF;split
 ·split
  ·simp
  ·split <;> simp
 ·rfl
def Lim (n:Nat) (Cs:List Ch):Prop:=∀ C ∈ Cs,C.buf.length ≤ n ∧ C.S.length ≤ n ∧ C.R.length ≤ n
theorem Lim.mono {n m:Nat} {Cs:List Ch} (h:Lim n Cs) (hm:n ≤ m):Lim m Cs:=fun C hC=>by obtain ⟨h1,h2,h3⟩:=h C hC;omega
theorem Lim.set {n:Nat} {Cs:List Ch} (h:Lim n Cs) (i:Nat) (C:Ch) (hC:C.buf.length ≤ n ∧ C.S.length ≤ n ∧ C.R.length ≤ n):Lim n (Cs.set i C):=fun D hD=>by
 rcases List.mem_or_eq_of_mem_set hD with h1 | h1
 ·exact h D h1
 ·rw [h1];exact hC
def leF (g:Int) (C:Ch):Ch:=⟨C.buf,dropW g C.S,dropW g C.R,C.cl⟩
abbrev In4:=Int × Int × Int × Int
def inn (v lo hi:Int):Bool:=decide (lo ≤ v) && decide (v < hi)
def goodB (nf nc nk:Nat) (lk:Int) (n:Nat) (x:In4):Option Bool :=
 let a:=x.2.1;let b:=x.2.2.1;let c:=x.2.2.2
 match x.1.toNat with
 | 0 | 12=>some (a == 0 && b == 0 && c == 0)
 | 1=>some (inn a 0 8 && c == 0)
 | 2=>some (inn a 0 8 && inn b 0 8 && c == 0)
 | 3 | 4 | 5 | 6=>some (inn a 0 8 && inn b 0 8 && inn c 0 8)
 | 7=>some (inn a 0 n && b == 0 && c == 0)
 | 8=>some (inn a 0 8 && inn b 0 n && c == 0)
 | 9 | 11=>some (inn a 0 nf && inn b 0 8 && inn c 0 8)
 | 10 | 17 | 20=>some (inn a 0 8 && b == 0 && c == 0)
 | 13=>some (inn a 0 nc && inn b 0 8 && c == 0)
 | 14=>some (inn a 0 nc && inn b 0 8 && inn c 0 8)
 | 15=>some (inn a 0 nc && b == 0 && c == 0)
 | 16=>some (inn a 0 nk && inn b 1 ((nk:Int) - a + 1) && inn c 0 8)
 | 18 | 19=>some (inn a 0 lk && b == 0 && c == 0)
 | 21=>some (inn a 0 8 && inn b 1 1099511627776 && c == 0)
 | 22=>some (inn a 0 1048576 && b == 0 && c == 0)
 | _=>none
structure It where
 at_:Int
 seq:Int
 id:Int
deriving DecidableEq,Inhabited
def ltI (x y:It):Bool:=decide (x.at_ < y.at_ ∨ x.at_ = y.at_ ∧ x.seq < y.seq)
def leI (x y:It):Prop:=ltI y x = false
theorem leI_iff {x y:It}:leI x y ↔ x.at_ < y.at_ ∨ x.at_ = y.at_ ∧ x.seq ≤ y.seq:=by unfold leI ltI;simp only [decide_eq_false_iff_not];omega
theorem ltI_iff {x y:It}:ltI x y = true ↔ x.at_ < y.at_ ∨ x.at_ = y.at_ ∧ x.seq < y.seq:=by unfold ltI;simp
theorem leI.trans {x y z:It} (h:leI x y) (k:leI y z):leI x z:=by rw [leI_iff] at *;omega
theorem leI.refl (x:It):leI x x:=by rw [leI_iff];omega
theorem leI.of_lt {x y:It} (h:ltI x y = true):leI x y:=by rw [leI_iff];rw [ltI_iff] at h;omega
def gI (l:List It) (i:Nat):It:=l.getD i default
theorem gI_of {l:List It} {i:Nat} (h:i < l.length):gI l i = l[i]:=by unfold gI;rw [List.getD_eq_getElem?_getD,List.getElem?_eq_getElem h];rfl
theorem gI_set {l:List It} {i:Nat} (x:It) (k:Nat) (h:i < l.length):gI (l.set i x) k = if k = i then x else gI l k:=by
 unfold gI
 rw [List.getD_eq_getElem?_getD,List.getElem?_set]
 by_cases e:i = k
 ·subst e;simp [h]
 ·rw [if_neg e,if_neg (by omega)];rw [List.getD_eq_getElem?_getD]
def swI (l:List It) (i j:Nat):List It:=(l.set i (gI l j)).set j (gI l i)
theorem swI_len (l:List It) (i j:Nat):(swI l i j).length = l.length:=by simp [swI]
theorem gI_sw {l:List It} {i j:Nat} (hi:i < l.length) (hj:j < l.length) (k:Nat):gI (swI l i j) k = if k = j then gI l i else if k = i then gI l j else gI l k:=by
 unfold swI;rw [gI_set _ _ (by simpa using hj)];split
 ·rfl
 ·rw [gI_set _ _ hi]
theorem swI_perm {l:List It} {i j:Nat} (hi:i < l.length) (hj:j < l.length):(swI l i j).Perm l:=by
 by_cases e:i = j
 ·subst e
  have:swI l i i = l:=by
   apply List.ext_getElem (by simp [swI])
   intro k h1 h2
   have:=gI_sw hi hi k
   rw [gI_of h1,gI_of h2] at this
   rw [this];split
   ·subst_vars;rw [gI_of h2]
   ·rfl
  rw [this]
 ·have key:∀ (l:List It) (i j:Nat),i < j → j < l.length → ((l.set i (gI l j)).set j (gI l i)).Perm l:=by
   intro l
   induction l with
   | nil=>intro i j _ h;simp at h
   | cons x l ih =>
    intro i j hij hj
    obtain ⟨j,rfl⟩:∃ k,j = k + 1:=⟨j - 1,by omega⟩
    simp at hj
    cases i with
    | zero =>
     have e1:gI (x :: l) (j + 1) = l[j]:=by rw [gI_of (by simp;omega)];rfl
     have e2:gI (x :: l) 0 = x:=rfl
     rw [e1,e2]
     simp only [List.set_cons_zero,List.set_cons_succ]
     have h1:(l[j] :: l.set j x).Perm (x :: l):=by
      have a1:(x :: l.eraseIdx j).Perm (l.set j x):=by
       clear ih e1 e2 hij
       induction l generalizing j with
       | nil=>simp at hj
       | cons y l ih =>
        cases j with
        | zero=>simp
        | succ j =>
         simp only [List.eraseIdx_cons_succ,List.set_cons_succ]
         exact (List.Perm.swap y x _).trans ((ih j (by simpa using hj)).cons y)
      have a2:l.Perm (l[j] :: l.eraseIdx j):=by
       clear ih e1 e2 hij a1
       induction l generalizing j with
       | nil=>simp at hj
       | cons y l ih =>
        cases j with
        | zero=>simp
        | succ j =>
         simp only [List.eraseIdx_cons_succ,List.getElem_cons_succ]
         exact ((ih j (by simpa using hj)).cons y).trans (.swap _ _ _)
      exact ((a1.symm.cons _).trans (.swap _ _ _)).trans (a2.symm.cons x)
     exact h1
    | succ i =>
     have e1:gI (x :: l) (j + 1) = gI l j:=rfl
     have e2:gI (x :: l) (i + 1) = gI l i:=rfl
     rw [e1,e2]
     simp only [List.set_cons_succ]
     exact (ih i j (by omega) hj).cons x
  by_cases h:i < j
  ·exact key l i j h hj
  ·have:=key l j i (by omega) hi
   unfold swI
   rw [List.set_comm _ _ e];exact this
def HeapI (l:List It):Prop:=∀ i,0 < i → i < l.length → leI (gI l ((i - 1) / 4)) (gI l i)
def riseF (l:List It) (k:Nat):List It:=if h:0 < k ∧ ltI (gI l k) (gI l ((k - 1) / 4)) = true then riseF (swI l k ((k - 1) / 4)) ((k - 1) / 4) else l
termination_by k
decreasing_by omega
theorem riseF_stop {l:List It} {k:Nat} (h:¬ (0 < k ∧ ltI (gI l k) (gI l ((k - 1) / 4)) = true)):riseF l k = l:=by rw [riseF,dif_neg h]
theorem riseF_go {l:List It} {k:Nat} (h0:0 < k) (h1:ltI (gI l k) (gI l ((k - 1) / 4)) = true):riseF l k = riseF (swI l k ((k - 1) / 4)) ((k - 1) / 4):=by rw [riseF,dif_pos ⟨h0,h1⟩]
theorem riseF_perm:∀ (k:Nat) (l:List It),k < l.length → (riseF l k).Perm l:=by
 intro k
 induction k using Nat.strongRecOn with
 | _ k ih =>
  intro l hk
  by_cases h:0 < k ∧ ltI (gI l k) (gI l ((k - 1) / 4)) = true
  ·rw [riseF_go h.1 h.2]
   exact (ih ((k - 1) / 4) (by omega) _ (by rw [swI_len];omega)).trans (swI_perm hk (by omega))
  ·rw [riseF_stop h]
theorem riseF_len {k:Nat} {l:List It} (hk:k < l.length):(riseF l k).length = l.length:=(riseF_perm k l hk).length_eq
def UpOK (l:List It) (k:Nat):Prop:=(∀ i,0 < i → i < l.length → i ≠ k → leI (gI l ((i - 1) / 4)) (gI l i)) ∧ ∀ i,0 < i → i < l.length → ((i - 1) / 4) = k → 0 < k → leI (gI l ((k - 1) / 4)) (gI l i)
theorem rise_heap:∀ (k:Nat) (l:List It),k < l.length → UpOK l k → HeapI (riseF l k):=by
 intro k
 induction k using Nat.strongRecOn with
 | _ k ih =>
  intro l hk ⟨h1,h2⟩
  by_cases h:0 < k ∧ ltI (gI l k) (gI l ((k - 1) / 4)) = true
  ·rw [riseF_go h.1 h.2]
   have hp:((k - 1) / 4) < k:=by omega
   refine ih ((k - 1) / 4) hp _ (by rw [swI_len];omega) ⟨fun i hi0 hi hne=>?_,fun i hi0 hi hpi h0=>?_⟩
   ·rw [swI_len] at hi
    rw [gI_sw hk (by omega),gI_sw hk (by omega)]
    by_cases e:i = k
    ·subst e
     rw [if_pos rfl,if_neg (by omega),if_pos rfl]
     exact .of_lt h.2
    ·rw [if_neg (show ¬ i = ((k - 1) / 4) from hne),if_neg e]
     by_cases e1:((i - 1) / 4) = ((k - 1) / 4)
     ·rw [if_pos e1]
      have:=h1 i hi0 hi e
      rw [e1] at this
      exact (leI.of_lt h.2).trans this
     ·rw [if_neg e1]
      by_cases e2:((i - 1) / 4) = k
      ·rw [if_pos e2];exact h2 i hi0 hi e2 h.1
      ·rw [if_neg e2];exact h1 i hi0 hi e
   ·rw [swI_len] at hi
    rw [gI_sw hk (by omega),gI_sw hk (by omega)]
    rw [if_neg (show ¬ (((k - 1) / 4 - 1) / 4) = ((k - 1) / 4) by omega),if_neg (show ¬ (((k - 1) / 4 - 1) / 4) = k by omega)]
    have hpp:=h1 ((k - 1) / 4) h0 (by omega) (by omega)
    by_cases e:i = k
    ·subst e;rw [if_neg (by omega),if_pos rfl];exact hpp
    ·rw [if_neg (show ¬ i = ((k - 1) / 4) by omega),if_neg e]
     have:=h1 i hi0 hi e
     rw [hpi] at this
     exact hpp.trans this
  ·rw [riseF_stop h]
   intro i hi0 hi
   by_cases e:i = k
   ·subst e
    have:¬ ltI (gI l i) (gI l ((i - 1) / 4)) = true:=fun hc=>h ⟨hi0,hc⟩
    unfold leI;simpa using this
   ·exact h1 i hi0 hi e
def firstF (l:List It) (k:Nat):Nat → Nat
 | 0=>k
 | j + 1=>if k * 4 + 1 + j < l.length ∧ ltI (gI l (k * 4 + 1 + j)) (gI l (firstF l k j)) = true then k * 4 + 1 + j else firstF l k j
theorem firstF_in (l:List It) (k:Nat):∀ j,firstF l k j = k ∨ (k * 4 + 1 ≤ firstF l k j ∧ firstF l k j < k * 4 + 1 + j ∧ firstF l k j < l.length)
 | 0=>.inl rfl
 | j + 1=>by
  rw [firstF];split
  ·right;omega
  ·rcases firstF_in l k j with h | h
   ·exact .inl h
   ·right;omega
theorem firstF_le (l:List It) (k:Nat):∀ j,leI (gI l (firstF l k j)) (gI l k) ∧ ∀ i,k * 4 + 1 ≤ i → i < k * 4 + 1 + j → i < l.length → leI (gI l (firstF l k j)) (gI l i)
 | 0=>⟨.refl _,fun i h1 h2=>by omega⟩
 | j + 1=>by
  obtain ⟨h1,h2⟩:=firstF_le l k j
  rw [firstF];split
  ·rename_i h
   have hlt:=leI.of_lt h.2
   refine ⟨hlt.trans h1,fun i hi1 hi2 hi3=>?_⟩
   by_cases e:i = k * 4 + 1 + j
   ·subst e;exact .refl _
   ·exact hlt.trans (h2 i hi1 (by omega) hi3)
  ·rename_i h
   refine ⟨h1,fun i hi1 hi2 hi3=>?_⟩
   by_cases e:i = k * 4 + 1 + j
   ·subst e
    unfold leI
    cases hc:ltI (gI l (k * 4 + 1 + j)) (gI l (firstF l k j)) with
    | false=>rfl
    | true=>exact absurd ⟨hi3,hc⟩ h
   ·exact h2 i hi1 (by omega) hi3
def sinkF (l:List It) (k:Nat):List It:=if h:k < firstF l k 4 ∧ firstF l k 4 < l.length then sinkF (swI l k (firstF l k 4)) (firstF l k 4) else l
termination_by l.length - k
decreasing_by rw [swI_len];omega
theorem sinkF_stop {l:List It} {k:Nat} (h:firstF l k 4 = k):sinkF l k = l:=by rw [sinkF,dif_neg (by omega)]
theorem sinkF_go {l:List It} {k:Nat} (h:firstF l k 4 ≠ k):sinkF l k = sinkF (swI l k (firstF l k 4)) (firstF l k 4):=by
 rw [sinkF,dif_pos (by rcases firstF_in l k 4 with e | e;exact absurd e h;omega)]
theorem sinkF_perm:∀ (m:Nat) (l:List It) (k:Nat),l.length - k = m → k < l.length → (sinkF l k).Perm l:=by
 intro m
 induction m using Nat.strongRecOn with
 | _ m ih =>
  intro l k hm hk
  by_cases h:firstF l k 4 = k
  ·rw [sinkF_stop h]
  ·rw [sinkF_go h]
   have hf:k < firstF l k 4 ∧ firstF l k 4 < l.length:=by rcases firstF_in l k 4 with e | e;exact absurd e h;omega
   exact (ih (l.length - firstF l k 4) (by omega) _ _ (by rw [swI_len]) (by rw [swI_len];omega)).trans (swI_perm hk hf.2)
def DnOK (l:List It) (k:Nat):Prop:=(∀ i,0 < i → i < l.length → ((i - 1) / 4) ≠ k → leI (gI l ((i - 1) / 4)) (gI l i)) ∧ ∀ i,0 < i → i < l.length → ((i - 1) / 4) = k → 0 < k → leI (gI l ((k - 1) / 4)) (gI l i)
theorem sink_heap:∀ (m:Nat) (l:List It) (k:Nat),l.length - k = m → k < l.length → DnOK l k → HeapI (sinkF l k):=by
 intro m
 induction m using Nat.strongRecOn with
 | _ m ih =>
  intro l k hm hk ⟨h1,h2⟩
  obtain ⟨g1,g2⟩:=firstF_le l k 4
  have hin:=firstF_in l k 4
  by_cases h:firstF l k 4 = k
  ·rw [sinkF_stop h]
   rw [h] at g2
   intro i hi0 hi
   by_cases e:((i - 1) / 4) = k
   ·rw [e];exact g2 i (by omega) (by omega) hi
   ·exact h1 i hi0 hi e
  ·rw [sinkF_go h]
   have hf:k * 4 + 1 ≤ firstF l k 4 ∧ firstF l k 4 < k * 4 + 5 ∧ firstF l k 4 < l.length:=by rcases hin with e | e;exact absurd e h;omega
   clear hin
   generalize firstF l k 4 = f at *
   obtain ⟨f1,f2,f3⟩:=hf
   have hpf:((f - 1) / 4) = k:=by omega
   refine ih (l.length - f) (by omega) _ f (by rw [swI_len]) (by rw [swI_len];omega) ⟨fun i hi0 hi hne=>?_,fun i hi0 hi hpi h0=>?_⟩
   ·rw [swI_len] at hi
    rw [gI_sw hk f3,gI_sw hk f3]
    rw [if_neg hne]
    by_cases e:i = f
    ·subst e;rw [if_pos rfl,if_pos hpf];exact g1
    ·rw [if_neg e]
     by_cases e1:((i - 1) / 4) = k
     ·rw [if_pos e1,if_neg (by omega)];exact g2 i (by omega) (by omega) hi
     ·rw [if_neg e1]
      by_cases e2:i = k
      ·subst e2;rw [if_pos rfl];exact h2 f (by omega) f3 hpf hi0
      ·rw [if_neg e2];exact h1 i hi0 hi e1
   ·rw [swI_len] at hi
    rw [gI_sw hk f3,gI_sw hk f3,hpf,if_neg (by omega),if_pos rfl,if_neg (by omega),if_neg (by omega)]
    have:=h1 i hi0 hi (by omega)
    rw [hpi] at this;exact this
def BothOK (l:List It) (p:Nat):Prop:=(∀ i,0 < i → i < l.length → i ≠ p → ((i - 1) / 4) ≠ p → leI (gI l ((i - 1) / 4)) (gI l i)) ∧ ∀ i,0 < i → i < l.length → ((i - 1) / 4) = p → 0 < p → leI (gI l ((p - 1) / 4)) (gI l i)
theorem both_heap {l:List It} {p:Nat} (hp:p < l.length) (h:BothOK l p):HeapI (sinkF (riseF l p) p):=by
 obtain ⟨h1,h2⟩:=h
 by_cases hc:0 < p ∧ ltI (gI l p) (gI l ((p - 1) / 4)) = true
 ·have hu:UpOK l p:=⟨fun i hi0 hi hne=>by
   by_cases e:((i - 1) / 4) = p
   ·rw [e];exact (leI.of_lt hc.2).trans (h2 i hi0 hi e hc.1)
   ·exact h1 i hi0 hi hne e,h2⟩
  have hh:=rise_heap p l hp hu
  have hl:=riseF_len hp
  exact sink_heap _ _ p rfl (by omega) ⟨fun i hi0 hi _=>hh i hi0 hi,fun i hi0 hi hpi h0=>(hh p h0 (by omega)).trans (by have:=hh i hi0 hi;rw [hpi] at this;exact this)⟩
 ·rw [riseF_stop hc]
  refine sink_heap _ _ p rfl hp ⟨fun i hi0 hi hne=>?_,h2⟩
  by_cases e:i = p
  ·subst e
   have:¬ ltI (gI l i) (gI l ((i - 1) / 4)) = true:=fun hk=>hc ⟨hi0,hk⟩
   unfold leI;simpa using this
  ·exact h1 i hi0 hi e hne
def pushF (l:List It) (x:It):List It:=riseF (l ++ [x]) l.length
theorem gI_app {l:List It} {x:It} {i:Nat} (h:i < l.length):gI (l ++ [x]) i = gI l i:=by unfold gI;rw [List.getD_eq_getElem?_getD,List.getElem?_append_left h,List.getD_eq_getElem?_getD]
theorem push_heap {l:List It} {x:It} (h:HeapI l):HeapI (pushF l x):=by
 refine rise_heap _ _ (by simp) ⟨fun i hi0 hi hne=>?_,fun i hi0 hi hpi h0=>?_⟩
 ·simp at hi
  rw [gI_app (by omega),gI_app (by omega)];exact h i hi0 (by omega)
 ·simp at hi;omega
theorem push_perm (l:List It) (x:It):(pushF l x).Perm (x :: l):=(riseF_perm _ _ (by simp)).trans (by simp)
def remF (l:List It) (p:Nat):List It:=if p = l.length - 1 then l.take (l.length - 1) else sinkF (riseF ((swI l p (l.length - 1)).take (l.length - 1)) p) p
theorem gI_take {l:List It} {n i:Nat} (h:i < n):gI (l.take n) i = gI l i:=by
 unfold gI;rw [List.getD_eq_getElem?_getD,List.getElem?_take,if_pos h,List.getD_eq_getElem?_getD]
theorem rem_heap {l:List It} {p:Nat} (hp:p < l.length) (h:HeapI l):HeapI (remF l p):=by
 unfold remF
 split
 ·intro i hi0 hi
  simp at hi
  rw [gI_take (by omega),gI_take (by omega)];exact h i hi0 (by omega)
 ·rename_i hne
  refine both_heap (by simp [swI_len];omega) ⟨fun i hi0 hi h1 h2=>?_,fun i hi0 hi h1 h2=>?_⟩
  ·simp [swI_len] at hi
   rw [gI_take (by omega),gI_take (by omega),gI_sw hp (by omega),gI_sw hp (by omega),if_neg (by omega),if_neg h2,if_neg (by omega),if_neg h1]
   exact h i hi0 (by omega)
  ·simp [swI_len] at hi
   rw [gI_take (by omega),gI_take (by omega),gI_sw hp (by omega),gI_sw hp (by omega),if_neg (by omega),if_neg (by omega),if_neg (by omega),if_neg (by omega)]
   have k1:=h p h2 (by omega)
   have k2:=h i hi0 (by omega)
   rw [h1] at k2
   exact k1.trans k2
theorem take_last (l:List It) (h:0 < l.length):l = l.take (l.length - 1) ++ [gI l (l.length - 1)]:=by
 conv=>lhs;rw [← List.take_append_drop (l.length - 1) l]
 congr 1
 rw [gI_of (by omega),List.drop_eq_getElem_cons (by omega),List.drop_of_length_le (by omega)]
theorem rem_perm {l:List It} {p:Nat} (hp:p < l.length):l.Perm (gI l p :: remF l p):=by
 unfold remF
 split
 ·rename_i e
  have:=take_last l (by omega)
  conv=>lhs;rw [this]
  rw [← e]
  simp
 ·rename_i hne
  have hl:((swI l p (l.length - 1)).take (l.length - 1)).length = l.length - 1:=by simp [swI_len]
  have h0:=riseF_len (l:=(swI l p (l.length - 1)).take (l.length - 1)) (k:=p) (by omega)
  have h1:=(sinkF_perm _ (riseF ((swI l p (l.length - 1)).take (l.length - 1)) p) p rfl (by omega)).trans (riseF_perm p _ (by omega))
  have h2:=take_last (swI l p (l.length - 1)) (by rw [swI_len];omega)
  rw [swI_len,gI_sw hp (by omega),if_pos rfl] at h2
  have h3:=swI_perm hp (show l.length - 1 < l.length by omega)
  rw [h2] at h3
  exact (h3.symm.trans (by simp)).trans (h1.symm.cons _)
theorem remF_len {l:List It} {p:Nat} (hp:p < l.length):(remF l p).length = l.length - 1:=by
 have:=(rem_perm hp).length_eq;simp at this;omega
theorem pushF_len (l:List It) (x:It):(pushF l x).length = l.length + 1:=by have:=(push_perm l x).length_eq;simpa using this
def icells (l:List It):List Value:=l.flatMap fun x=>[.int .u64 x.at_,.int .u64 x.seq,.int .i64 x.id]
theorem icells_app (l m:List It):icells (l ++ m) = icells l ++ icells m:=by unfold icells;rw [List.flatMap_append]
theorem icells_cons (x:It) (l:List It):icells (x :: l) = .int .u64 x.at_ :: .int .u64 x.seq :: .int .i64 x.id :: icells l:=rfl
theorem icells_at (l:List It):∀ (i:Nat),i < l.length → (icells l)[i * 3]? = some (.int .u64 (gI l i).at_) ∧ (icells l)[i * 3 + 1]? = some (.int .u64 (gI l i).seq) ∧ (icells l)[i * 3 + 2]? = some (.int .i64 (gI l i).id):=by
 induction l with
 | nil=>intro i h;simp at h
 | cons x l ih =>
  intro i h
  cases i with
  | zero=>exact ⟨rfl,rfl,rfl⟩
  | succ i =>
   have:=ih i (by simpa using h)
   have e:gI (x :: l) (i + 1) = gI l i:=rfl
   rw [icells_cons,e,show (i + 1) * 3 = i * 3 + 1 + 1 + 1 by omega]
   exact this
theorem icells_set (l:List It):∀ (i:Nat) (y:It),i < l.length → (((icells l).set (i * 3) (.int .u64 y.at_)).set (i * 3 + 1) (.int .u64 y.seq)).set (i * 3 + 2) (.int .i64 y.id) = icells (l.set i y):=by
 induction l with
 | nil=>intro i y h;simp at h
 | cons x l ih =>
  intro i y h
  cases i with
  | zero=>rfl
  | succ i =>
   have:=ih i y (by simpa using h)
   rw [icells_cons,List.set_cons_succ,icells_cons,show (i + 1) * 3 = i * 3 + 1 + 1 + 1 by omega]
   simp only [List.set_cons_succ]
   rw [this]
theorem icells_take (l:List It) (n:Nat):icells (l.take n) = (icells l).take (n * 3):=by
 induction l generalizing n with
 | nil=>simp [icells]
 | cons x l ih =>
  cases n with
  | zero=>simp [icells]
  | succ n =>
   rw [List.take_succ_cons,icells_cons,icells_cons,show (n + 1) * 3 = n * 3 + 1 + 1 + 1 by omega]
   simp only [List.take_succ_cons]
   rw [ih]
def ItemsAt (w:World) (v:Value) (l:List It):Prop:=w.ownsRow 0 167 3 v l.length (icells l)
theorem ItemsAt.chg {F:List Nat} {w w':World} {v:Value} {l:List It} (h:ItemsAt w v l) (c:Chg F w w') (hd:∀ x ∈ v.ownBlock.toList,x ∉ F):ItemsAt w' v l:=owns_chg h c (fun g hg=>hd g (by rw [hg];simp))
theorem ItemsAt.below {w w':World} {v:Value} {l:List It} (h:ItemsAt w v l) (hb:Below w.heap.size w w'):ItemsAt w' v l:=h.chg (Chg.of_below (F:=[]) hb) (fun _ _=>by simp)
theorem ItemsAt.lt {w:World} {v:Value} {l:List It} (h:ItemsAt w v l):∀ x ∈ v.ownBlock.toList,x < w.heap.size:=fun x hx=>owns_lt h x (by simpa using hx)
theorem ItemsAt.form {w:World} {v:Value} {l:List It} (h:ItemsAt w v l) (hl:0 < l.length):∃ g cap,v = .slice (some ⟨g,0,none⟩) l.length cap ∧ l.length ≤ cap:=by
 rcases h.2 with ⟨rfl,h0⟩ | ⟨g,cap,cur,rfl,_,_,h1,_⟩
 ·omega
 ·exact ⟨g,cap,rfl,h1⟩
theorem ItemsAt.slice {w:World} {v:Value} {l:List It} (h:ItemsAt w v l):∃ a cap,v = .slice a l.length cap ∧ l.length ≤ cap:=by
 rcases h.2 with ⟨rfl,h0⟩ | ⟨g,cap,cur,rfl,_,_,h1,_⟩
 ·exact ⟨none,0,by rw [h0],by omega⟩
 ·exact ⟨_,cap,rfl,h1⟩
theorem ItemsAt.nil (w:World):ItemsAt w (.slice none 0 0) []:=World.ownsRow_nil _ _ _ _
theorem ItemsAt.cell {w:World} {g n cap:Nat} {l:List It} (h:ItemsAt w (.slice (some ⟨g,0,none⟩) n cap) l) (i:Nat) (hi:i < l.length) :
  w.cell? ⟨g,i * 3,none⟩ = some (.int .u64 (gI l i).at_) ∧ w.cell? ⟨g,i * 3 + 1,none⟩ = some (.int .u64 (gI l i).seq) ∧ w.cell? ⟨g,i * 3 + 2,none⟩ = some (.int .i64 (gI l i).id):=by
 obtain ⟨h1,h2,h3⟩:=icells_at l i hi
 have hc:∀ j u,(icells l)[j]? = some u → w.cell? ⟨g,j,none⟩ = some u:=fun j u hj=>by
  have:=World.ownsRow.cells h (g:=g) rfl j u hj
  rwa [Addr.add_lit,Nat.zero_add] at this
 exact ⟨hc _ _ h1,hc _ _ h2,hc _ _ h3⟩
theorem ItemsAt.free {w:World} {g n cap:Nat} {l:List It} (h:ItemsAt w (.slice (some ⟨g,0,none⟩) n cap) l) (j:Nat):w.frozen? ⟨g,j,none⟩ = false:=by
 rcases h.2 with ⟨hv,_⟩ | ⟨g',cap',cur,hv,hb,hg,h2,h3,h4,h5⟩
 ·cases hv
 ·simp only [Value.slice.injEq,Option.some.injEq,Addr.mk.injEq,and_true] at hv
  obtain ⟨rfl,_⟩:=hv
  exact frozen_of_row w g j cur _ hg
theorem owns_set {e:TypeId} {g n cap size:Nat} {w:World} {xs:List Value} (h:w.ownsRow 0 e size (.slice (some ⟨g,0,none⟩) n cap) n xs) (j:Nat) (v:Value) :
  (w.setCell ⟨g,j,none⟩ v).ownsRow 0 e size (.slice (some ⟨g,0,none⟩) n cap) n (xs.set j v):=by
 refine ⟨by simpa using h.1,?_⟩
 rcases h.2 with ⟨hv,_⟩ | ⟨g',cap',cur,hv,hb,hg,h2,h3,h4,h5⟩
 ·cases hv
 ·simp only [Value.slice.injEq,Option.some.injEq,Addr.mk.injEq,and_true,true_and] at hv
  obtain ⟨rfl,rfl⟩:=hv
  refine .inr ⟨g,cap,cur.set! j v,rfl,hb,heap_setCell_same _ _ _ _ _ _ hg,h2,h3,by simpa using h4,?_⟩
  rw [← h5,Array.set!_eq_setIfInBounds,Array.toList_setIfInBounds,List.take_set]
theorem owns_takeK {w:World} {e:TypeId} {size:Nat} {a:Option Addr} {n cap:Nat} {xs:List Value} (h:w.ownsRow 0 e size (.slice a n cap) n xs) (m:Nat) (hm:m ≤ n):w.ownsRow 0 e size (.slice a m cap) m (xs.take (m * size)):=by
 have hx:xs.length = n * size:=h.1
 have hms:m * size ≤ n * size:=Nat.mul_le_mul_right _ hm
 refine ⟨by rw [List.length_take];omega,?_⟩
 rcases h.2 with ⟨hv,hn⟩ | ⟨g,cap',cur,hv,hb,hg,h2,h3,h4,h5⟩
 ·simp only [Value.slice.injEq] at hv
  obtain ⟨rfl,_,rfl⟩:=hv
  exact .inl ⟨by rw [show m = 0 by omega],by omega⟩
 ·simp only [Value.slice.injEq,true_and] at hv
  obtain ⟨rfl,rfl⟩:=hv
  refine .inr ⟨g,cap,cur,rfl,hb,hg,by omega,h3,h4,?_⟩
  rw [← h5,List.take_take];congr 1;omega
theorem ItemsAt.set {w:World} {g n cap:Nat} {l:List It} (h:ItemsAt w (.slice (some ⟨g,0,none⟩) n cap) l) (i:Nat) (hi:i < l.length) (hn:n = l.length) (y:It) :
  ItemsAt (((w.setCell ⟨g,i * 3,none⟩ (.int .u64 y.at_)).setCell ⟨g,i * 3 + 1,none⟩ (.int .u64 y.seq)).setCell ⟨g,i * 3 + 2,none⟩ (.int .i64 y.id)) (.slice (some ⟨g,0,none⟩) n cap) (l.set i y):=by
 subst hn
 unfold ItemsAt at h ⊢
 rw [List.length_set,← icells_set l i y hi]
 exact owns_set (owns_set (owns_set h _ _) _ _) _ _
structure Hp where
 b:Nat
 c0:Value
 c1:Value
 c2:Value
 c3:Value
 c4:Value
 T:List Value
def Hp.cs (p:Hp) (v x:Value):List Value:=p.c0 :: p.c1 :: p.c2 :: p.c3 :: p.c4 :: v :: x :: p.T
def HeapAt (w:World) (p:Hp) (v:Value) (l:List It) (nx:Nat):Prop:=Blk w p.b (p.cs v (.int .u64 (nx:Int))) ∧ ItemsAt w v l ∧ ∀ x ∈ v.ownBlock.toList,x ≠ p.b
theorem HeapAt.chg {F:List Nat} {w w':World} {p:Hp} {v:Value} {l:List It} {nx:Nat} (h:HeapAt w p v l nx) (c:Chg F w w') (hp:p.b ∉ F) (hd:∀ x ∈ v.ownBlock.toList,x ∉ F):HeapAt w' p v l nx:=⟨h.1.chg c hp,h.2.1.chg c hd,h.2.2⟩
theorem HeapAt.below {w w':World} {p:Hp} {v:Value} {l:List It} {nx:Nat} (h:HeapAt w p v l nx) (hb:Below w.heap.size w w'):HeapAt w' p v l nx:=h.chg (Chg.of_below (F:=[]) hb) (by simp) (fun _ _=>by simp)
theorem HeapAt.lt {w:World} {p:Hp} {v:Value} {l:List It} {nx:Nat} (h:HeapAt w p v l nx):p.b < w.heap.size ∧ ∀ x ∈ v.ownBlock.toList,x < w.heap.size:=⟨h.1.lt (by simp [Hp.cs]),h.2.1.lt⟩
def cmpU (x y:Int):Int:=if x < y then -1 else if y < x then 1 else 0
theorem cmpU_any (x y:Int) (w:World):Calls Tryz.prog 149 #[.int .u64 x,.int .u64 y] w fun r w'=>r = .returned (.int .i64 (cmpU x y)) ∧ w' = w:=by
 rcases Int.lt_trichotomy x y with h | rfl | h
 ·rw [show cmpU x y = -1 by unfold cmpU;rw [if_pos h]]
  go_enter Tryz.func149,Tryz.ntmps149
  go_wp2
  go_ret
  exact ⟨rfl,rfl⟩
 ·rw [show cmpU x x = 0 by unfold cmpU;simp]
  go_enter Tryz.func149,Tryz.ntmps149
  go_wp2
  go_ret
  exact ⟨rfl,rfl⟩
 ·rw [show cmpU x y = 1 by unfold cmpU;rw [if_neg (by omega),if_pos h]]
  go_enter Tryz.func149,Tryz.ntmps149
  go_wp2
  go_ret
  exact ⟨rfl,rfl⟩
theorem or_any (x y:Int) (b:Nat) (w:World) (h0:w.cell? ⟨b,0,none⟩ = some (.int .i64 x)) (h1:w.cell? ⟨b,1,none⟩ = some (.int .i64 y)) :
  Calls Tryz.prog 148 #[.slice (some ⟨b,0,none⟩) 2 2] w fun r w'=>r = .returned (.int .i64 (if x = 0 then y else x)) ∧ w' = w:=by
 obtain ⟨z,hz⟩:∃ z,z = if x = 0 then y else x:=⟨_,rfl⟩
 rw [← hz]
 have hc:((x != 0) = true ∧ z = x) ∨ ((x != 0) = false ∧ (y != 0) = true ∧ z = y) ∨ ((x != 0) = false ∧ (y != 0) = false ∧ z = 0):=by
  by_cases hx:x = 0
  ·rw [if_pos hx] at hz
   by_cases hy:y = 0
   ·exact .inr (.inr ⟨by simp [hx],by simp [hy],by rw [hz,hy]⟩)
   ·exact .inr (.inl ⟨by simp [hx],by simp [hy],hz⟩)
  ·rw [if_neg hx] at hz;exact .inl ⟨by simp [hx],hz⟩
 clear hz
 have HC:=Lib.hid hc
 clear hc
 go_enter Tryz.func148,Tryz.ntmps148
 go_wp2
 go_loop [8] (fun i=>∃ k:Nat,k ≤ 2 ∧ i = .int .i64 k ∧ Hid ((1 ≤ k → (x != 0) = false) ∧ (2 ≤ k → (y != 0) = false))) (fun i=>2 - (intOf i).toNat)
 case atStart=>exact ⟨0,by omega,rfl,⟨fun h=>by omega,fun h=>by omega⟩⟩
 case round =>
  obtain ⟨k,hk,rfl,hr⟩:=hrel
  obtain rfl | rfl | rfl:k = 0 ∨ k = 1 ∨ k = 2:=by omega
  ·rcases HC.out with ⟨e1,rfl⟩ | ⟨e1,-⟩ | ⟨e1,-⟩
   ·go_wp2
    go_ret
    exact ⟨rfl,rfl⟩
   all_goals
    have HR:Hid ((1 ≤ 1 → (x != 0) = false) ∧ (2 ≤ 1 → (y != 0) = false)):=⟨fun _=>e1,fun h=>by omega⟩
    go_wp2
    go_round
    case rel=>exact ⟨1,by omega,rfl,HR⟩
    case measure=>simp [intOf]
  ·have e0:=hr.out.1 (by omega)
   rcases HC.out with ⟨e1,rfl⟩ | ⟨-,e1,rfl⟩ | ⟨-,e1,rfl⟩
   ·rw [e0] at e1;cases e1
   ·clear e0
    go_wp2
    go_ret
    exact ⟨rfl,rfl⟩
   ·have HR:Hid ((1 ≤ 2 → (x != 0) = false) ∧ (2 ≤ 2 → (y != 0) = false)):=⟨fun _=>e0,fun h=>e1⟩
    clear e0
    go_wp2
    go_round
    case rel=>exact ⟨2,by omega,rfl,HR⟩
    case measure=>simp [intOf]
  ·have e0:=hr.out.1 (by omega)
   have e2:=hr.out.2 (by omega)
   rcases HC.out with ⟨e1,rfl⟩ | ⟨-,e1,rfl⟩ | ⟨-,e1,rfl⟩
   ·rw [e0] at e1;cases e1
   ·rw [e2] at e1;cases e1
   ·clear e0 e1 e2
    go_wp2
    go_ret
    exact ⟨rfl,rfl⟩
def itv (x:It):Value:=.agg #[.int .u64 x.at_,.int .u64 x.seq,.int .i64 x.id]
def cmpI (x y:It):Int:=if cmpU x.at_ y.at_ = 0 then cmpU x.seq y.seq else cmpU x.at_ y.at_
theorem cmpI_lt (x y:It):(cmpI x y < 0) = (ltI x y = true):=by
 rw [ltI_iff];unfold cmpI cmpU;apply propext
 split <;> split <;> (try split) <;> (try split) <;> omega
theorem compare_any (x y:It) (w:World):Calls Tryz.prog 138 #[itv x,itv y] w fun r w'=>r = .returned (.int .i64 (cmpI x y)) ∧ Below w.heap.size w w':=by
 have hI:cmpI x y = if cmpU x.at_ y.at_ = 0 then cmpU x.seq y.seq else cmpU x.at_ y.at_:=rfl
 generalize cmpI x y = c at hI ⊢
 obtain ⟨xa,xs,xi⟩:=x
 obtain ⟨ya,ys,yi⟩:=y
 simp only at hI
 unfold itv
 obtain ⟨s0,hs0⟩:∃ s0,s0 = w.heap.size:=⟨_,rfl⟩
 have hO:Own w ((w.alloc (.cells #[.int .u64 xa,.int .u64 xs,.int .i64 xi] 167)).alloc (.cells #[.int .u64 ya,.int .u64 ys,.int .i64 yi] 167)) [CelA (s0 + 1) [.int .u64 ya,.int .u64 ys,.int .i64 yi],CelA s0 [.int .u64 xa,.int .u64 xs,.int .i64 xi]] :=
  ((Own.nil (Below.refl _ _)).alloc _ _ hs0).alloc _ _ (by simp [hs0])
 have HO:=Lib.hid hO
 have HI:=Lib.hid hI
 clear hO hI
 go_enter Tryz.func138,Tryz.ntmps138
 go_upto_region 1 with fail
 rw [← hs0]
 clear hs0
 generalize (w.alloc (.cells #[.int .u64 xa,.int .u64 xs,.int .i64 xi] 167)).alloc (.cells #[.int .u64 ya,.int .u64 ys,.int .i64 yi] 167) = W at *
 obtain ⟨g0,-⟩:=HO.out.cel 1 rfl 0 _ rfl
 obtain ⟨g1,-⟩:=HO.out.cel 1 rfl 1 _ rfl
 obtain ⟨g2,-⟩:=HO.out.cel 0 rfl 0 _ rfl
 obtain ⟨g3,-⟩:=HO.out.cel 0 rfl 1 _ rfl
 have hk:∀ w',Below W.heap.size W w' → w'.cell? ⟨s0,0,none⟩ = some (.int .u64 xa) ∧ w'.cell? ⟨s0,1,none⟩ = some (.int .u64 xs) ∧ w'.cell? ⟨s0 + 1,0,none⟩ = some (.int .u64 ya) ∧ w'.cell? ⟨s0 + 1,1,none⟩ = some (.int .u64 ys) ∧ Below W.heap.size W w' :=
  fun w' hb=>⟨cell_below g0 hb,cell_below g1 hb,cell_below g2 hb,cell_below g3 hb,hb⟩
 have HK:=Lib.hid hk
 have hb1:=HO.out.bel
 have HB1:=Lib.hid hb1
 clear hk g0 g1 g2 g3 hb1 HO
 go_region_held3 (fun w'=>w'.cell? ⟨s0,0,none⟩ = some (.int .u64 xa) ∧ w'.cell? ⟨s0,1,none⟩ = some (.int .u64 xs) ∧ w'.cell? ⟨s0 + 1,0,none⟩ = some (.int .u64 ya) ∧ w'.cell? ⟨s0 + 1,1,none⟩ = some (.int .u64 ys) ∧ Below W.heap.size W w')
  ((refine HK.out _ ?_;repeat (first | exact Below.refl _ _ | exact lim4 (by assumption) | refine Below.drew ?_ | refine below_drewN ?_ _ | refine Below.alloc ?_ (by first | exact (lim4 (by assumption):Below W.heap.size W _).size | simp) _)))
  (first
   | (go_at_call 149;refine (cmpU_any _ _ _).mono ?_;rintro r w5 ⟨rfl,rfl⟩)
   | (go_at_call 148;refine (or_any (cmpU xa ya) (cmpU xs ys) _ _ (by simp) (by simp)).mono ?_;rintro r w6 ⟨rfl,rfl⟩;rw [← HI.out]))
 rename_i hHeld
 have HF:=Lib.hid (below_on HB1.out (lim4 hHeld))
 clear hHeld
 go_wp2
 go_ret
 exact ⟨rfl,HF.out⟩
theorem lim7 {p q r s t u v x:Prop} (h:p ∧ q ∧ r ∧ s ∧ t ∧ u ∧ v ∧ x):x:=h.2.2.2.2.2.2.2
theorem earlier_any (w:World) (p:Hp) (v:Value) (l:List It) (nx i j:Nat) (h:HeapAt w p v l nx) (hi:i < l.length) (hj:j < l.length) (hl:l.length ≤ 1000000) :
  Calls Tryz.prog 115 #[.pointer (some ⟨p.b,5,none⟩),.int .i64 (i:Int),.int .i64 (j:Int)] w fun r w'=>r = .returned (.bool (ltI (gI l i) (gI l j))) ∧ Below w.heap.size w w':=by
 obtain ⟨h1,h2,h3⟩:=h
 obtain ⟨g,cap,rfl,hcap⟩:=h2.form (by omega)
 obtain ⟨c0,-⟩:=h1 5 _ rfl
 obtain ⟨c1,c2,c3⟩:=h2.cell i hi
 obtain ⟨c4,c5,c6⟩:=h2.cell j hj
 obtain ⟨n,hn⟩:∃ n,n = l.length:=⟨_,rfl⟩
 rw [← hn] at c0 hi hj hl
 have hin:(i:Int) < (n:Int):=by omega
 have hjn:(j:Int) < (n:Int):=by omega
 have hcmp:=fun W=>compare_any (gI l i) (gI l j) W
 have hlt:=cmpI_lt (gI l i) (gI l j)
 generalize gI l i = x at *
 generalize gI l j = y at *
 obtain ⟨xa,xs,xi⟩:=x
 obtain ⟨ya,ys,yi⟩:=y
 simp only at c1 c2 c3 c4 c5 c6
 unfold itv at hcmp
 simp only at hcmp
 obtain ⟨c,hc⟩:∃ c,c = cmpI ⟨xa,xs,xi⟩ ⟨ya,ys,yi⟩:=⟨_,rfl⟩
 obtain ⟨d,hd⟩:∃ d,d = ltI ⟨xa,xs,xi⟩ ⟨ya,ys,yi⟩:=⟨_,rfl⟩
 rw [← hc] at hcmp
 rw [← hc,← hd] at hlt
 rw [← hd]
 have hk:∀ w',Below w.heap.size w w' → w'.cell? ⟨p.b,5,none⟩ = some (.slice (some ⟨g,0,none⟩) n cap) ∧ w'.cell? ⟨g,i * 3,none⟩ = some (.int .u64 xa) ∧ w'.cell? ⟨g,i * 3 + 1,none⟩ = some (.int .u64 xs) ∧ w'.cell? ⟨g,i * 3 + 2,none⟩ = some (.int .i64 xi) ∧ w'.cell? ⟨g,j * 3,none⟩ = some (.int .u64 ya) ∧ w'.cell? ⟨g,j * 3 + 1,none⟩ = some (.int .u64 ys) ∧ w'.cell? ⟨g,j * 3 + 2,none⟩ = some (.int .i64 yi) ∧ Below w.heap.size w w' :=
  fun w' hb=>⟨cell_below c0 hb,cell_below c1 hb,cell_below c2 hb,cell_below c3 hb,cell_below c4 hb,cell_below c5 hb,cell_below c6 hb,hb⟩
 have HK:=Lib.hid hk
 have HC:=Lib.hid hcmp
 have hlt':decide (c < 0) = d:=by cases d <;> simp_all
 have HLT:=Lib.hid hlt'
 clear hk hcmp hlt hlt' c0 c1 c2 c3 c4 c5 c6 h1 h2 h3 hc hd hn
 go_enter Tryz.func115,Tryz.ntmps115
 go_wp2_with fail
 go_region_held3 (fun w'=>w'.cell? ⟨p.b,5,none⟩ = some (.slice (some ⟨g,0,none⟩) n cap) ∧ w'.cell? ⟨g,i * 3,none⟩ = some (.int .u64 xa) ∧ w'.cell? ⟨g,i * 3 + 1,none⟩ = some (.int .u64 xs) ∧ w'.cell? ⟨g,i * 3 + 2,none⟩ = some (.int .i64 xi) ∧ w'.cell? ⟨g,j * 3,none⟩ = some (.int .u64 ya) ∧ w'.cell? ⟨g,j * 3 + 1,none⟩ = some (.int .u64 ys) ∧ w'.cell? ⟨g,j * 3 + 2,none⟩ = some (.int .i64 yi) ∧ Below w.heap.size w w')
  ((refine HK.out _ ?_;repeat (first | exact Below.refl _ _ | exact lim7 (by assumption) | refine below_on ?_ hb5 | refine Below.drew ?_ | refine below_drewN ?_ _)))
  (first
   | (go_at_call 138;refine (HC.out _).mono ?_;rintro r w5 ⟨rfl,hb5⟩))
 rename_i hHeld
 have HF:=Lib.hid (lim7 hHeld)
 clear hHeld hb5
 go_wp2
 go_ret
 exact ⟨ret_bool HLT.out,HF.out⟩
theorem HeapAt.swap {w:World} {p:Hp} {g n cap:Nat} {l:List It} {nx:Nat} (h:HeapAt w p (.slice (some ⟨g,0,none⟩) n cap) l nx) (hn:n = l.length) (i j:Nat) (hi:i < l.length) (hj:j < l.length) {xa xs xi ya ys yi:Int}
  (hx:gI l i = ⟨xa,xs,xi⟩) (hy:gI l j = ⟨ya,ys,yi⟩) :
  HeapAt ((((((w.setCell ⟨g,i * 3,none⟩ (.int .u64 ya)).setCell ⟨g,i * 3 + 1,none⟩ (.int .u64 ys)).setCell ⟨g,i * 3 + 2,none⟩ (.int .i64 yi)).setCell ⟨g,j * 3,none⟩ (.int .u64 xa)).setCell ⟨g,j * 3 + 1,none⟩ (.int .u64 xs)).setCell ⟨g,j * 3 + 2,none⟩ (.int .i64 xi)).drew p (.slice (some ⟨g,0,none⟩) n cap) (swI l i j) nx ∧
  Chg (p.b :: (Value.slice (some ⟨g,0,none⟩) n cap).ownBlock.toList) w ((((((w.setCell ⟨g,i * 3,none⟩ (.int .u64 ya)).setCell ⟨g,i * 3 + 1,none⟩ (.int .u64 ys)).setCell ⟨g,i * 3 + 2,none⟩ (.int .i64 yi)).setCell ⟨g,j * 3,none⟩ (.int .u64 xa)).setCell ⟨g,j * 3 + 1,none⟩ (.int .u64 xs)).setCell ⟨g,j * 3 + 2,none⟩ (.int .i64 xi)).drew:=by
 obtain ⟨h1,h2,h3⟩:=h
 have hgp:p.b ≠ g:=(h3 g (by simp [Value.ownBlock])).symm
 have k1:=h2.set i hi hn (gI l j)
 have k2:=k1.set j (by simpa using hj) (by simpa using hn) (gI l i)
 have k3:=k2.below (below_drew1 _)
 rw [hx,hy] at k3
 refine ⟨⟨((((((h1.setFar hgp).setFar hgp).setFar hgp).setFar hgp).setFar hgp).setFar hgp).below (below_drew1 _),?_,h3⟩,?_⟩
 ·unfold swI;rw [hx,hy];exact k3
 ·exact (((((((Chg.refl _ _).setCell _ (.inl (by simp [Value.ownBlock]))).setCell _ (.inl (by simp [Value.ownBlock]))).setCell _ (.inl (by simp [Value.ownBlock]))).setCell _ (.inl (by simp [Value.ownBlock]))).setCell _ (.inl (by simp [Value.ownBlock]))).setCell _ (.inl (by simp [Value.ownBlock]))).drew
theorem swap_any (w:World) (p:Hp) (v:Value) (l:List It) (nx i j:Nat) (h:HeapAt w p v l nx) (hi:i < l.length) (hj:j < l.length) (hl:l.length ≤ 1000000) :
  Calls Tryz.prog 93 #[.pointer (some ⟨p.b,5,none⟩),.int .i64 (i:Int),.int .i64 (j:Int)] w fun r w'=>r = .returned (.tuple #[]) ∧ HeapAt w' p v (swI l i j) nx ∧ Chg (p.b :: v.ownBlock.toList) w w':=by
 obtain ⟨h1,h2,h3⟩:=h
 obtain ⟨g,cap,rfl,hcap⟩:=h2.form (by omega)
 have hgp:g ≠ p.b:=h3 g (by simp [Value.ownBlock])
 obtain ⟨c0,-⟩:=h1 5 _ rfl
 obtain ⟨c1,c2,c3⟩:=h2.cell i hi
 obtain ⟨c4,c5,c6⟩:=h2.cell j hj
 have f1:=h2.free (i * 3)
 have f2:=h2.free (i * 3 + 1)
 have f3:=h2.free (i * 3 + 2)
 have f4:=h2.free (j * 3)
 have f5:=h2.free (j * 3 + 1)
 have f6:=h2.free (j * 3 + 2)
 obtain ⟨n,hn⟩:∃ n,n = l.length:=⟨_,rfl⟩
 have hsw:=fun xa xs xi ya ys yi hx hy=>HeapAt.swap (w:=w) (nx:=nx) ⟨h1,h2,h3⟩ rfl i j hi hj (xa:=xa) (xs:=xs) (xi:=xi) (ya:=ya) (ys:=ys) (yi:=yi) hx hy
 have HSW:=Lib.hid hsw
 rw [← hn] at c0
 have hin:(i:Int) < (n:Int):=by omega
 have hjn:(j:Int) < (n:Int):=by omega
 have hn6:n ≤ 1000000:=by omega
 have HL:Hid (i < l.length ∧ j < l.length ∧ n = l.length):=Lib.hid ⟨hi,hj,hn⟩
 have HX:=Lib.hid (show gI l i = ⟨(gI l i).at_,(gI l i).seq,(gI l i).id⟩ from rfl)
 have HY:=Lib.hid (show gI l j = ⟨(gI l j).at_,(gI l j).seq,(gI l j).id⟩ from rfl)
 have hi':i < n:=by omega
 have hj':j < n:=by omega
 rcases Nat.lt_trichotomy i j with hij | rfl | hij
 ·clear h1 h2 h3 hi hj hl hn hcap hsw
  generalize (gI l i).at_ = xa at *
  generalize (gI l i).seq = xs at *
  generalize (gI l i).id = xi at *
  generalize (gI l j).at_ = ya at *
  generalize (gI l j).seq = ys at *
  generalize (gI l j).id = yi at *
  have HE:=Lib.hid (HSW.out _ _ _ _ _ _ HX.out HY.out)
  clear HSW
  go_enter Tryz.func93,Tryz.ntmps93
  go_wp2_with fail
  go_region
  go_wp2
  go_end0
  exact ⟨rfl,HE.out⟩
 ·clear h1 h2 h3 hi hj hl hn hcap hsw
  generalize (gI l i).at_ = xa at *
  generalize (gI l i).seq = xs at *
  generalize (gI l i).id = xi at *
  have HE:=Lib.hid (HSW.out _ _ _ _ _ _ HX.out HY.out)
  clear HSW
  go_enter Tryz.func93,Tryz.ntmps93
  go_wp2_with fail
  go_region
  go_wp2
  go_end0
  exact ⟨rfl,HE.out⟩
 ·clear h1 h2 h3 hi hj hl hn hcap hsw
  generalize (gI l i).at_ = xa at *
  generalize (gI l i).seq = xs at *
  generalize (gI l i).id = xi at *
  generalize (gI l j).at_ = ya at *
  generalize (gI l j).seq = ys at *
  generalize (gI l j).id = yi at *
  have HE:=Lib.hid (HSW.out _ _ _ _ _ _ HX.out HY.out)
  clear HSW
  go_enter Tryz.func93,Tryz.ntmps93
  go_wp2_with fail
  go_region
  go_wp2
  go_end0
  exact ⟨rfl,HE.out⟩
end Go.Proofs.YtphfaekpckbepaaGreat
