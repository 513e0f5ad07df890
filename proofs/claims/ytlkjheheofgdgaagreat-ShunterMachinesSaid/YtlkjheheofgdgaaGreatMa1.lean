/-
  Texts put together: Base, Frame, IRow, IRow2, WRing1, WRing2, WLp1, WLp2, WLp3, WLp4, WLp5, WLp6, SegH, SegH2, SegY, Sep, Pool, RowG, RowG2, WLpA, WCh1, WCh2, WCh3.
-/
import Derived.WalkKit
import Derived.ProofKit
import Derived.Below
import Derived.WalkSpells
import Derived.WalkLawsBesides
import Derived.IntWalk
import Derived.Lib.Hide
import Derived.LoopTactic
import Derived.Deep.RegionWith
import Derived.Deep.MidRow
import Derived.Laws.IdiomCopy
import Derived.Laws.NewBlocks
import Derived.Laws.AppendOwn
import Derived.Lib.ConvBytes
import Derived.Lib.AppendStr
import Derived.ArgAppend
import Derived.Test.YtlkjheheofgdgaaGreatRows
import Derived.Deep.QuietTactic
import Derived.BigQuiet
import Derived.WalkSmall
import Derived.Deep.DeepCutAuto
import Derived.RegionTactic
import Derived.Deep.RegionHeld3
import Derived.Deep.RegionLaw
import Derived.OwnWalk
import Derived.LaidEqlPtr
set_option maxRecDepth 100000
set_option maxHeartbeats 16000000
set_option linter.unusedSimpArgs false
set_option linter.unusedVariables false
open Go Go.RowKit
namespace Go.Proofs.YtlkjheheofgdgaaGreat
theorem Qq {p:Prop}(h:p):Go.RowKit.Hid p:=Go.Lib.hid h
def Qj (n v:Nat):Array Bool:=((List.range n).map fun i=>v.testBit i).toArray
theorem QQ {α:Type _}{a:α}{l:List α}{i:Nat}:(a::l).drop (i+1)=l.drop i:=rfl
theorem QJ {α:Type _}{l:List α}:l.drop 0=l:=rfl
theorem QX {α:Type _}{a:α}{l:List α}{i:Nat}:(a::l).take (i+1)=a::l.take i:=rfl
theorem QV {α:Type _}{l:List α}:l.take 0=[]:=rfl
theorem QW {α:Type _}{l:List α}{i:Nat}{a:α}:l.toArray.setIfInBounds i a=(l.set i a).toArray:=List.setIfInBounds_toArray l i a
theorem QY {α:Type _}{a b:α}{l:List α}:(a::l).set 0 b=b::l:=rfl
theorem QZ {α:Type _}{a b:α}{l:List α}{i:Nat}:(a::l).set (i+1) b=a::l.set i b:=rfl
theorem Wx {k:IntKind}{a b:Int}(h:a=b):Ending.returned (.int k a)=.returned (.int k b):=by rw[h]
theorem Sz {a b:Bool}(h:a=b):Ending.returned (.bool a)=.returned (.bool b):=by rw[h]

theorem zA {a b c:World}(h:Below a.heap.size a b)(k:Below b.heap.size b c):Below a.heap.size a c:=h.trans (k.mono h.size)


def zF (w:World)(b:Nat)(cs:List Value):Prop:=∀j v,cs[j]?=some v→w.cell? ⟨b,j,none⟩=some v∧w.frozen? ⟨b,j,none⟩=false
theorem zF.at {w:World}{b:Nat}{cs:List Value}(h:zF w b cs)(j:Nat)(hj:j<cs.length):w.cell? ⟨b,j,none⟩=some cs[j]∧w.frozen? ⟨b,j,none⟩=false:=h j _ (List.getElem?_eq_getElem hj)
theorem zF.range {w:World}{b:Nat}{cs:List Value}(h:zF w b cs):w.rangeAt b 0 cs:=fun j v hj=>by rw[Nat.zero_add];exact(h j v hj).1
theorem zF.there {w:World}{b:Nat}{cs:List Value}(h:zF w b cs)(n:Nat)(hn:n≤cs.length):w.there b 0 n:=fun j hj=>by
 rw[Nat.zero_add];obtain⟨h1,h2⟩:=h.at j (by omega)
 exact⟨by rw[h1];rfl,h2⟩
theorem zF.new (w:World)(cs:Array Value)(t:TypeId):zF (w.alloc (.cells cs t)) w.heap.size cs.toList:=fun j v hj=>by
 refine⟨?_,World.frozen?_alloc_at _ _ _ _ rfl⟩
 rw[World.cell?_alloc_at _ _ _ _ rfl];simpa using hj
theorem zF.mk (w:World)(l:List Value)(t:TypeId)(b:Nat)(hb:b=w.heap.size):zF (w.alloc (.cells l.toArray t)) b l:=by subst hb;exact zF.new w l.toArray t
theorem zF.lt {w:World}{b:Nat}{cs:List Value}(h:zF w b cs)(h0:0<cs.length):b<w.heap.size:=World.block_lt_of_cell? w _ (h.at 0 h0).1
theorem zF.below {w w':World}{b:Nat}{cs:List Value}(h:zF w b cs)(hb:Below w.heap.size w w'):zF w' b cs:=fun j v hj=>by
 obtain⟨h1,h2⟩:=h j v hj;have hlt:=World.block_lt_of_cell? w _ h1
 exact⟨by rw[hb.cell (p:=⟨b,j,none⟩) hlt];exact h1,by rw[hb.frozen (p:=⟨b,j,none⟩) hlt];exact h2⟩
theorem zF.set {w:World}{b:Nat}{cs:List Value}(h:zF w b cs)(k:Nat)(v:Value):zF (w.setCell ⟨b,k,none⟩ v) b (cs.set k v):=fun j u hj=>by
 by_cases e:j=k
 ·subst e
  have hlt:j<cs.length:=by
   have:=(List.getElem?_eq_some_iff.1 hj).1
   simpa using this
  rw[List.getElem?_set_self hlt] at hj
  obtain rfl:v=u:=by simpa using hj
  obtain⟨h1,h2⟩:=h.at j hlt;exact⟨World.cell?_setCell_same' _ _ _ (by rw[h1];rfl),by rw[World.frozen?_setCell];exact h2⟩
 ·rw[List.getElem?_set_ne (by omega)] at hj
  obtain⟨h1,h2⟩:=h j u hj;exact⟨by rw[World.cell?_setCell_other _ _ _ _ (by simp;first|done|omega)];exact h1,by rw[World.frozen?_setCell];exact h2⟩
theorem zF.Zo {w:World}{b c k:Nat}{cs:List Value}{v:Value}(h:zF w b cs)(hne:b≠c):zF (w.setCell ⟨c,k,none⟩ v) b cs:=fun j u hj=>by
 obtain⟨h1,h2⟩:=h j u hj;exact⟨by rw[World.cell?_setCell_other _ _ _ _ (by simp;first|done|omega)];exact h1,by rw[World.frozen?_setCell];exact h2⟩
theorem zF.setCells {w:World}{b:Nat}{cs vs:List Value}(h:zF w b cs)(hl:vs.length=cs.length):zF (w.setCells b 0 vs) b vs:=fun j v hj=>by
 have hlt:=(List.getElem?_eq_some_iff.1 hj).1
 have h1:=World.rangeAt_setCells_same w b 0 vs (h.there vs.length (by omega)) j v hj
 rw[Nat.zero_add] at h1;exact⟨h1,by rw[World.frozen?_setCells];exact(h.at j (by omega)).2⟩
theorem zF.alloc {w:World}{b:Nat}{cs:List Value}(h:zF w b cs)(o:Obj):zF (w.alloc o) b cs:=h.below ((Below.refl _ _).alloc (Nat.le_refl _) _)
theorem Y8 {B:Nat}{w0 w:World}(h:Below B w0 w)(b:Nat)(hb:B≤b):∀(vs:List Value) (o:Nat),Below B w0 (w.setCells b o vs):=fun vs=>by
 induction vs generalizing w with
 | nil=>intro o;exact h
 | cons v vs ih=>intro o;rw[World.setCells];exact ih (h.setCell hb _) (o+1)
theorem xK {α:Type}:∀(l:List α) (k:Nat) (c:α),k<l.length→(l.set k c).take (k+1)=l.take k++[c]
 | [],k,c,h=>by simp at h
 | x::l,0,c,_=>by simp
 | x::l,k+1,c,h=>by
  simp only[QZ,QX,List.cons_append];rw[xK l k c (by simpa using h)]
theorem zu {P:Program}{fn:Func}{p:Tmp}{ty:TypeId}{v:Value}{w w':World}(h:fn.results=#[.cell p ty])(tmps:Array Value)(a:Addr)(hp:tmps.getD p undef=.pointer (some a))
  (hl:(loadVar ty a).run P w=.ok v w'):(results fn tmps).run P w=.ok v w':=by
 have hp':tmps[p]?.getD undef=.pointer (some a):=by simpa using hp
 simp[results,h,hp',asAddr,hl]
theorem zj {w w':World}{b o:Nat}{v:Value}(h:w.cell? ⟨b,o,none⟩=some v)(hb:Below w.heap.size w w'):w'.cell? ⟨b,o,none⟩=some v:=by
 rw[hb.cell (p:=⟨b,o,none⟩) (World.block_lt_of_cell? w _ h)];exact h
theorem below_alloc1 (w:World)(o:Obj):Below w.heap.size w (w.alloc o):=(Below.refl _ _).alloc (Nat.le_refl _) _
theorem zg (w:World):Below w.heap.size w w.drew:=(Below.refl _ _).drew
def Bytes (w:World)(b:Nat)(cs:List UInt8):Prop :=
 (∀i (h:i<cs.length),w.cell? ⟨b,i,none⟩=some (.int .u8 (cs[i].toNat:Int)))∧(∀i,i<cs.length→w.frozen? ⟨b,i,none⟩=false)
theorem Bytes.set {w:World}{b:Nat}{cs:List UInt8}(h:Bytes w b cs)(k:Nat)(hk:k<cs.length)(c:UInt8)(v:Int)(hv:v=(c.toNat:Int)) :
  Bytes (w.setCell ⟨b,k,none⟩ (.int .u8 v)) b (cs.set k c):=by
 subst hv;refine⟨fun i hi=>?_,fun i hi=>?_⟩
 ·simp at hi
  by_cases e:i=k
  ·subst e
   rw[World.cell?_setCell_same' _ _ _ (by rw[h.1 i hk];rfl)]
   simp
  ·rw[World.cell?_setCell_other _ _ _ _ (by simp;first|done|omega),h.1 i hi,List.getElem_set_ne (by omega)]
 ·simp at hi
  rw[World.frozen?_setCell];exact h.2 i hi
theorem Bytes.fresh (w:World)(t:TypeId)(n:Nat):Bytes (w.alloc (.cells (List.replicate n (Value.int .u8 0)).toArray t)) w.heap.size (List.replicate n 0):=by
 refine⟨fun i hi=>?_,fun i hi=>?_⟩
 ·simp at hi
  rw[World.cell?_alloc_mark];simp[hi]
 ·rw[World.frozen?_alloc_mark];simp

theorem MN {P:Program}{w:World}{g n cap:Nat}{cs:List UInt8}(h:Bytes w g cs)(hn:cs.length=n)(src dst e:TypeId)(hs:P.underlying src=some (.slice e))(he:P.underlying e=some (.int .u8))(hd:P.underlying dst=some .string) :
  (convert src dst (.slice (some ⟨g,0,none⟩) n cap)).run P w=.ok (.string ⟨cs.toArray⟩) w:=by
 subst hn;exact run_convert_bytes_back (P:=P) w src dst e ⟨g,0,none⟩ cap cs hs he hd (fun j hj=>by
  have:=h.1 j hj
  by_cases h0:j=0
  ·subst h0;exact this
  ·simpa [Addr.add,h0] using this)
theorem xS {P:Program}{t:TypeId}{s:Nat}(w:World)(ht:P.underlying t=some (.slice (P.elem t)))(hs:∀w,(sizeOf (P.elem t)).run P w=.ok s w)(a:Option Addr)(len cap m:Nat)(hm:m≤cap) :
  (Instr.slice t (.slice a len cap) none (some (.int .i64 (m:Int))) none).run P w=.ok (.slice a m cap) w:=by
 rw[run_slice_h (P:=P) (t:=t) (ht:=ht) (kh:=.i64) (h:=(m:Int)) (h0:=by omega) (h2:=by omega),hs]
 have:a.map (fun x:Addr=>x.add 0)=a:=by cases a<;>simp[Addr.add]
 simp[Result.andThen,sliced,this]
def XO (w:World)(a:Option Addr)(l:List ByteArray):Prop :=
 ∀i (h:i<l.length),∃b off,a=some ⟨b,off,none⟩∧w.cell? ⟨b,off+i,none⟩=some (.string l[i])
theorem XO.below {w w':World}{a:Option Addr}{l:List ByteArray}(h:XO w a l)(hb:Below w.heap.size w w'):XO w' a l:=fun i hi=>by
 obtain⟨b,off,h1,h2⟩:=h i hi;have hlt:b<w.heap.size:=World.block_lt_of_cell? w _ h2
 exact⟨b,off,h1,by rw[hb.cell (p:=⟨b,off+i,none⟩) hlt];exact h2⟩
structure zI (F:List Nat) (w w':World):Prop where
 os:w'.os=w.os
 tape:w'.tape=w.tape
 output:w'.output=w.output
 size:w.heap.size≤w'.heap.size
 block:∀k,k<w.heap.size→k∉F→w'.heap[k]?=w.heap[k]?
theorem zI.refl (F:List Nat)(w:World):zI F w w:=⟨rfl,rfl,rfl,Nat.le_refl _,fun _ _ _=>rfl⟩
theorem zI.trans {F G:List Nat}{a b c:World}(h:zI F a b)(k:zI G b c)(hg:∀x∈G,x∈F∨a.heap.size≤x):zI F a c :=
 ⟨k.os.trans h.os,k.tape.trans h.tape,k.output.trans h.output,Nat.le_trans h.size k.size,fun x hx hn=>by
  rw[k.block x (Nat.lt_of_lt_of_le hx h.size) (fun hG=>by rcases hg x hG with h1|h1;exact hn h1;omega)]
  exact h.block x hx hn⟩
theorem zI.mono {F G:List Nat}{a b:World}(h:zI F a b)(hs:∀x∈F,x∈G):zI G a b:=⟨h.os,h.tape,h.output,h.size,fun k hk hn=>h.block k hk (fun hF=>hn (hs k hF))⟩
theorem zI.zK {F:List Nat}{w w':World}(h:Below w.heap.size w w'):zI F w w':=⟨h.os,h.tape,h.output,h.size,fun k hk _=>h.block k hk⟩
theorem zI.VY {F:List Nat}{w w':World}{B:Nat}(h:zI F w w')(hF:∀x∈F,B≤x)(hB:B≤w.heap.size):Below B w w' :=
 ⟨h.os,h.tape,h.output,h.size,fun k hk=>h.block k (by omega) (fun hx=>by have:=hF k hx;omega)⟩
theorem zI.below {F:List Nat}{w0 w w':World}(h0:Below w0.heap.size w0 w)(h:zI F w w')(hF:∀x∈F,w0.heap.size≤x):Below w0.heap.size w0 w':=h0.trans (h.VY hF h0.size)
theorem zI.YB {w w':World}(h:zI [] w w'):Below w.heap.size w w':=h.VY (fun _ hx=>by simp at hx) (Nat.le_refl _)
theorem zI.setCell {F:List Nat}{w w':World}(h:zI F w w'){b k:Nat}(v:Value)(hb:b∈F∨w.heap.size≤b):zI F w (w'.setCell ⟨b,k,none⟩ v) :=
 ⟨h.os,h.tape,h.output,by rw[World.size_setCell];exact h.size,fun x hx hn=>by
  rw[Below.heap_setCell _ _ _ _ (fun e=>by
   subst e;rcases hb with hb|hb
   ·exact hn hb
   ·omega)]
  exact h.block x hx hn⟩
theorem zI.setCells {F:List Nat}{w w':World}(h:zI F w w'){b:Nat}:∀(vs:List Value) (o:Nat),(b∈F∨w.heap.size≤b)→zI F w (w'.setCells b o vs):=fun vs=>by
 induction vs generalizing w' with
 | nil=>intro o _;exact h
 | cons v vs ih=>intro o hb;rw[World.setCells];exact ih (h.setCell v hb) (o+1) hb
theorem zI.drewN {F:List Nat}{w w':World}(h:zI F w w')(n:Nat):zI F w (w'.drewN n):=⟨h.os,h.tape,h.output,h.size,h.block⟩
theorem zI.drew {F:List Nat}{w w':World}(h:zI F w w'):zI F w w'.drew:=⟨h.os,h.tape,h.output,h.size,h.block⟩
theorem cell_of_heap {w w':World}{b k:Nat}(h:w'.heap[b]?=w.heap[b]?):w'.cell? ⟨b,k,none⟩=w.cell? ⟨b,k,none⟩:=World.cell?_of_block (a:=⟨b,k,none⟩) h
theorem zF.yC {F:List Nat}{w w':World}{b:Nat}{cs:List Value}(h:zF w b cs)(c:zI F w w')(hb:b∉F):zF w' b cs:=fun j v hj=>by
 obtain⟨h1,h2⟩:=h j v hj;have hlt:=World.block_lt_of_cell? w _ h1
 have hk:=c.block b hlt hb;exact⟨by rw[cell_of_heap hk];exact h1,by rw[World.frozen?_of_block (a:=⟨b,j,none⟩) hk];exact h2⟩
theorem Zj {F:List Nat}{w w':World}{b k:Nat}{v:Value}(h:w.cell? ⟨b,k,none⟩=some v)(c:zI F w w')(hb:b∉F):w'.cell? ⟨b,k,none⟩=some v:=by
 rw[cell_of_heap (c.block b (World.block_lt_of_cell? w _ h) hb)];exact h
theorem V4 {F:List Nat}{w w':World}{base n size:Nat}{e:TypeId}{v:Value}{xs:List Value}(h:w.ownsRow base e size v n xs)(c:zI F w w')(hb:∀g,v.ownBlock=some g→g∉F):w'.ownsRow base e size v n xs:=by
 refine⟨h.1,?_⟩
 rcases h.2 with hn|⟨g,cap,cur,rfl,hbg,hg,rest⟩
 ·exact .inl hn
 ·refine .inr ⟨g,cap,cur,rfl,hbg,?_,rest⟩
  rw[c.block g (Array.getElem?_eq_some_iff.1 hg).1 (hb g rfl)];exact hg
theorem VA {w:World}{base n size:Nat}{e:TypeId}{v:Value}{xs:List Value}(h:w.ownsRow base e size v n xs)(g:Nat)(hg:v.ownBlock=some g):g<w.heap.size:=(h.lt g hg).2
theorem yF {w w':World}{row:Option Nat}(h:w.grownBy w' row):zI row.toList w w':=⟨h.os,h.tape,h.output,h.size,fun k hk hn=>h.block k hk (fun e=>hn (by rw[←e];simp))⟩
def zr (l:List Int):List Value:=l.map fun n=>.int .i64 n
theorem yE (l:List Int):(zr l).length=l.length:=by unfold zr;rw[List.length_map]
theorem ZT (l m:List Int):zr (l++m)=zr l++zr m:=by unfold zr;rw[List.map_append]
theorem XB (l:List Int)(i:Nat)(h:i<l.length):(zr l)[i]?=some (.int .i64 l[i]):=by unfold zr;rw[List.getElem?_map,List.getElem?_eq_getElem h];rfl
theorem xJ (l:List Int)(i:Nat):(zr l)[i]?=l[i]?.map (fun n=>Value.int .i64 n):=by unfold zr;rw[List.getElem?_map]
theorem ZQ (l:List Int):∀v∈zr l,v.oneCell'=true:=fun v hv=>by
 unfold zr at hv;simp only[List.mem_map] at hv;obtain⟨b,_,rfl⟩:=hv;rfl
def yf (a:Option Addr):List Nat:=(a.map (·.block)).toList
theorem Ft (a:Option Addr)(n c:Nat):Value.ownBlock (.slice a n c)=a.map (·.block):=by cases a<;>rfl
def zO (w:World)(a:Option Addr)(cap:Nat)(l:List Int):Prop :=
 l.length≤cap∧cap≤maxLen∧((a=none∧cap=0)∨∃b off,a=some ⟨b,off,none⟩∧b<w.heap.size ∧
  (∀j,j<cap→(w.cell? ⟨b,off+j,none⟩).isSome=true∧w.frozen? ⟨b,off+j,none⟩=false)∧∀j v,(zr l)[j]?=some v→w.cell? ⟨b,off+j,none⟩=some v)
theorem zO.nil (w:World):zO w none 0 []:=⟨by simp,by simp,.inl ⟨rfl,rfl⟩⟩
theorem zO.lt {w:World}{a:Option Addr}{cap:Nat}{l:List Int}(h:zO w a cap l):∀x∈yf a,x<w.heap.size:=by
 rcases h.2.2 with⟨rfl,_⟩|⟨b,off,rfl,hb,_⟩
 ·intro x hx;simp[yf] at hx
 ·intro x hx;simp[yf] at hx;subst hx;exact hb
theorem zO.yC {F:List Nat}{w w':World}{a:Option Addr}{cap:Nat}{l:List Int}(h:zO w a cap l)(c:zI F w w')(hd:∀x∈yf a,x∉F):zO w' a cap l:=by
 refine⟨h.1,h.2.1,?_⟩
 rcases h.2.2 with h0|⟨b,off,rfl,hb,h1,h2⟩
 ·exact .inl h0
 ·have hk:=c.block b hb (hd b (by simp[yf]))
  refine .inr ⟨b,off,rfl,Nat.lt_of_lt_of_le hb c.size,fun j hj=>?_,fun j v hj=>?_⟩
  ·rw[cell_of_heap hk,World.frozen?_of_block (a:=⟨b,off+j,none⟩) hk];exact h1 j hj
  ·rw[cell_of_heap hk];exact h2 j v hj
theorem zO.below {w w':World}{a:Option Addr}{cap:Nat}{l:List Int}(h:zO w a cap l)(hb:Below w.heap.size w w'):zO w' a cap l :=
 h.yC (zI.zK (F:=[]) hb) (fun _ _=>by simp)
def yR (w:World)(a:Option Addr)(l:List Int):Prop:=∀i (h:i<l.length),∃b off,a=some ⟨b,off,none⟩∧w.cell? ⟨b,off+i,none⟩=some (.int .i64 l[i])
theorem yR.below {w w':World}{a:Option Addr}{l:List Int}(h:yR w a l)(hb:Below w.heap.size w w'):yR w' a l:=fun i hi=>by
 obtain⟨b,off,h1,h2⟩:=h i hi;exact⟨b,off,h1,zj h2 hb⟩
theorem zO.ints {w:World}{a:Option Addr}{cap:Nat}{l:List Int}(h:zO w a cap l):yR w a l:=fun i hi=>by
 rcases h.2.2 with⟨rfl,h0⟩|⟨b,off,rfl,hb,h1,h2⟩
 ·have:=h.1;omega
 ·exact⟨b,off,rfl,h2 i _ (XB l i hi)⟩
theorem zO.take {w:World}{a:Option Addr}{cap:Nat}{l:List Int}(h:zO w a cap l)(m:Nat):zO w a cap (l.take m):=by
 refine⟨by have:=h.1;rw[List.length_take];omega,h.2.1,?_⟩
 rcases h.2.2 with h0|⟨b,off,rfl,hb,h1,h2⟩
 ·exact .inl h0
 ·refine .inr ⟨b,off,rfl,hb,h1,fun j v hj=>h2 j v ?_⟩
  rw[xJ,List.getElem?_take] at hj
  split at hj
  ·rw[xJ];exact hj
  ·simp at hj
theorem XU {P:Program}{t:TypeId}(ht:P.underlying t=some (.slice (P.elem t)))(hs:∀w,(sizeOf (P.elem t)).run P w=.ok 1 w){w0:World}{a:Option Addr}{cap:Nat}{l:List Int}(h:zO w0 a cap l)(m:Nat)(hm:m≤l.length) :
  ∃a',(∀w,(Instr.slice t (.slice a l.length cap) (some (.int .i64 (m:Int))) none none).run P w=.ok (.slice a' (l.length-m) (cap-m)) w)∧zO w0 a' (cap-m) (l.drop m)∧yf a'=yf a:=by
 have hl:=h.1;rcases h.2.2 with⟨rfl,rfl⟩|⟨b,off,rfl,hb,h1,h2⟩
 ·have:l=[]:=List.length_eq_zero_iff.1 (by omega)
  subst this;obtain rfl:m=0:=by simpa using hm
  refine⟨none,fun w=>?_,by simpa using zO.nil w0,rfl⟩
  rw[run_slice_l (P:=P) (t:=t) (ht:=ht) (kl:=.i64) (l:=((0:Nat):Int)) (h0:=by omega) (h1:=by simp),hs]
  simp[Result.andThen,sliced]
 ·by_cases hc:cap=m
  ·refine⟨some ⟨b,off,none⟩,fun w=>?_,⟨by rw[List.length_drop];omega,by have:=h.2.1;omega,.inr ⟨b,off,rfl,hb,fun j hj=>by omega,fun j v hj=>?_⟩⟩,rfl⟩
   ·rw[run_slice_l (P:=P) (t:=t) (ht:=ht) (kl:=.i64) (l:=(m:Int)) (h0:=by omega) (h1:=by omega),hs]
    simp[Result.andThen,sliced,hc]
   ·have:l.drop m=[]:=List.drop_of_length_le (by omega)
    rw[this] at hj;simp[zr] at hj
  ·refine⟨some ⟨b,off+m,none⟩,fun w=>?_,⟨by rw[List.length_drop];omega,by have:=h.2.1;omega,.inr ⟨b,off+m,rfl,hb,fun j hj=>?_,fun j v hj=>?_⟩⟩,rfl⟩
   ·rw[run_slice_l (P:=P) (t:=t) (ht:=ht) (kl:=.i64) (l:=(m:Int)) (h0:=by omega) (h1:=by omega),hs]
    by_cases hm0:m=0
    ·subst hm0;simp[Result.andThen,sliced,hc,Addr.add]
    ·simp[Result.andThen,sliced,hc,Addr.add,hm0]
   ·have:=h1 (m+j) (by omega)
    rwa [←Nat.add_assoc] at this
   ·have:=h2 (m+j) v (by rw[xJ] at hj ⊢;rw[List.getElem?_drop] at hj;exact hj)
    rwa [←Nat.add_assoc] at this
theorem zO.xO {w:World}{base n:Nat}{e:TypeId}{v:Value}{l:List Int}(h:w.ownsRow base e 1 v n (zr l)):∃a cap,v=.slice a l.length cap∧zO w a cap l∧n=l.length∧∀x∈yf a,base≤x:=by
 have hx:l.length=n:=by have:=h.1;rw[yE] at this;omega
 subst hx;rcases h.2 with⟨rfl,h0⟩|⟨g,cap,cur,rfl,hb,hg,h1,h2,h3,h4⟩
 ·exact⟨none,0,by rw[h0],⟨by omega,by simp,.inl ⟨rfl,rfl⟩⟩,rfl,fun x hx=>by simp[yf] at hx⟩
 ·have hlt:g<w.heap.size:=(Array.getElem?_eq_some_iff.1 hg).1
  refine⟨_,cap,rfl,⟨h1,h2,.inr ⟨g,0,rfl,hlt,fun j hj=>⟨?_,?_⟩,fun j v hj=>?_⟩⟩,rfl,fun x hx=>by simp[yf] at hx;subst hx;exact hb⟩
  ·rw[Nat.zero_add,cell_of_row w g j cur e (0,0) hg,Array.getElem?_eq_getElem (by omega)];rfl
  ·rw[Nat.zero_add];exact frozen_of_row w g j cur e hg
  ·rw[Nat.zero_add,cell_of_row w g j cur e (0,0) hg]
   rw[←h4,List.getElem?_take] at hj
   split at hj
   ·simpa using hj
   ·cases hj
theorem zO.new (w:World)(l:List Int)(t:TypeId)(hl:l.length≤maxLen){b:Nat}(hb:b=w.heap.size):zO (w.alloc (.cells (zr l).toArray t)) (some ⟨b,0,none⟩) l.length l:=by
 subst hb;have hB:=zF.new w (zr l).toArray t
 refine⟨Nat.le_refl _,hl,.inr ⟨_,0,rfl,by simp,fun j hj=>?_,fun j v hj=>?_⟩⟩
 ·rw[Nat.zero_add]
  obtain⟨h1,h2⟩:=hB j _ (XB l j hj)
  exact⟨by rw[h1];rfl,h2⟩
 ·rw[Nat.zero_add];exact(hB j v hj).1
theorem XT {P:Program}{w:World}(t ty e:TypeId)(i:TypeInfo)(z:Value)(ht:P.underlying t=some (.slice e))(hi:P.info? e=some i)(hz:i.zero=some z)(hsize:i.size=1)(hby:i.bytes=8)(hzs:z.cells.size=1)
  {a b:Option Addr} {cap c:Nat} {l m:List Int} (ha:zO w a cap l) (hb:yR w b m) (h47:l.length+m.length≤1000000000) :
  ∃a' cap' w',(Builtin.append_ #[t,t] ty #[.slice a l.length cap,.slice b m.length c]).run P w=.ok (.slice a' (l.length+m.length) cap') w'∧zO w' a' cap' (l++m)∧zI (yf a) w w'∧∀x∈yf a',x∈yf a∨w.heap.size≤x:=by
 cases b with
 | none =>
  have:m=[]:=by
   rcases Nat.eq_zero_or_pos m.length with h|h
   ·exact List.length_eq_zero_iff.1 h
   ·obtain⟨_,_,h1,_⟩:=hb 0 h;cases h1
  subst this;have hl:=ha.1;refine⟨a,cap,w,?_,by simpa using ha,zI.refl _ _,fun x hx=>.inl hx⟩
  cases a<;>simp[Builtin.append_,run_underlying ht,sizeOf,typeInfo,hi,Builtin.lenOf,Builtin.firstCells,storeCells,hl]
 | some ad =>
  have hnews:∀j u,(zr m)[j]?=some u→w.cell? (ad.add j)=some u:=fun j u hj=>by
   have hlt:j<m.length:=by rw[←yE m];exact(List.getElem?_eq_some_iff.1 hj).1
   obtain⟨b,off,h1,h2⟩:=hb j hlt;cases h1
   rw[XB m j hlt] at hj;rw[Addr.add_lit,h2];exact hj
  rcases ha.2.2 with⟨rfl,h0⟩|⟨b,off,rfl,hbl,h1,h2⟩
  ·have hl0:l=[]:=List.length_eq_zero_iff.1 (by have:=ha.1;omega)
   subst hl0;subst h0;obtain⟨v',w',hr,r1,r2,_⟩:=run_append_own (P:=P) w w.heap.size t ty e i z 1 8 ht hi hz hsize hby hzs (by omega) (.slice none 0 0) 0 [] (World.ownsRow_nil _ _ _ _) ad m.length c (zr m) (by rw[yE];omega) hnews (ZQ m) (by simp at h47;unfold maxLen;omega) (by simp at h47;omega) (Nat.le_refl _)
   simp only[List.nil_append] at r1;obtain⟨a',cap',rfl,hrow,hn,hbase⟩:=zO.xO r1;refine⟨a',cap',w',?_,by simpa using hrow,yF r2 |>.mono (by simp[Value.ownBlock,yf]),fun x hx=>.inr (hbase x hx)⟩
   simpa using hr
  ·by_cases hroom:l.length+m.length≤cap
   ·have hr:=run_append_room_cells (P:=P) w t ty e i ht hi b off l.length cap ad m.length c (zr m) (by rw[yE,hsize];omega) hnews (ZQ m) hroom
     (fun j hj=>by rw[yE] at hj;rw[hsize,Nat.mul_one];have:=(h1 (l.length+j) (by omega)).1;rwa [←Nat.add_assoc] at this)
     (fun j hj=>by rw[yE] at hj;rw[hsize,Nat.mul_one];have:=(h1 (l.length+j) (by omega)).2;rwa [←Nat.add_assoc] at this)
    rw[hsize,Nat.mul_one] at hr;have hin:=World.cell?_setCells_in b (zr m) (off+l.length) w (fun j hj=>by rw[yE] at hj;have:=(h1 (l.length+j) (by omega)).1;rwa [←Nat.add_assoc] at this)
    refine⟨_,cap,_,hr,⟨by rw[List.length_append];exact hroom,ha.2.1,.inr ⟨b,off,rfl,Nat.lt_of_lt_of_le hbl ((zI.refl [b] w).setCells (zr m) (off+l.length) (.inl (by simp))).size,fun j hj=>⟨?_,?_⟩,fun j v hj=>?_⟩⟩,(zI.refl _ _).setCells _ _ (.inl (by simp[yf])),fun x hx=>.inl hx⟩
    ·by_cases hj2:l.length≤j∧j<l.length+m.length
     ·have:=hin (j-l.length) (by rw[yE];omega)
      rw[show off+l.length+(j-l.length)=off+j by omega] at this
      rw[this];rfl
     ·rw[World.cell?_setCells_out b (zr m) _ w _ (fun _ _=>by rw[yE];simp only;omega)]
      exact(h1 j hj).1
    ·rw[World.frozen?_setCells];exact(h1 j hj).2
    ·rw[ZT] at hj
     by_cases hj2:j<l.length
     ·rw[List.getElem?_append_left (by rw[yE];exact hj2)] at hj
      rw[World.cell?_setCells_out b (zr m) _ w _ (fun _ _=>by rw[yE];simp only;omega)]
      exact h2 j v hj
     ·rw[List.getElem?_append_right (by rw[yE];omega),yE] at hj
      have hlt:j-l.length<(zr m).length:=(List.getElem?_eq_some_iff.1 hj).1
      have:=hin (j-l.length) hlt
      rw[show off+l.length+(j-l.length)=off+j by omega] at this
      rw[this];rw[List.getElem?_eq_getElem hlt] at hj
      exact hj
   ·obtain⟨v',w',hr,r1,r2⟩:=run_append_arg_grows (P:=P) w t ty e i z 1 8 ht hi hz hsize hby hzs (by omega) ⟨b,off,none⟩ l.length cap (zr l) (by rw[yE];omega) (fun j u hj=>by rw[Addr.add_lit];exact h2 j u hj) ad m.length c (zr m) (by rw[yE];omega) hnews (by omega) (by unfold maxLen;omega) (by omega)
    rw[←ZT] at r1;obtain⟨a',cap',rfl,hrow,hn,hbase⟩:=zO.xO r1;rw[List.length_append] at hr;exact⟨a',cap',w',hr,hrow,(yF r2).mono (by simp),fun x hx=>.inr (hbase x hx)⟩
theorem Zy {P:Program}{w:World}{ops:Array Oper}{rest:List Oper}{o:Oper}{ac:Act}{Q:Exit→Act→World→Prop}(hgd:o.guard=none)(sl x:Operand)(t:TypeId)
  (ho:o.op=.call { callee:=.builtin .append,args:=#[sl,x],argTypes:=#[t,t] }) (e:TypeId) (i:TypeInfo) (z:Value) (ht:P.underlying t=some (.slice e)) (hi:P.info? e=some i) (hz:i.zero=some z) (hsize:i.size=1) (hby:i.bytes=8) (hzs:z.cells.size=1)
  {a b:Option Addr} {cap c n k:Nat} {l m:List Int} (hs:ac.eval sl=.slice a n cap) (hx:ac.eval x=.slice b k c) (hn:n=l.length) (hk:k=m.length) (ha:zO w a cap l) (hb:yR w b m) (h47:l.length+m.length≤1000000000)
  (h:∀a' cap' w',zO w' a' cap' (l++m)→zI (yf a) w w'→(∀x∈yf a',x∈yf a∨w.heap.size≤x)→wpList P ops Q rest (ac.put o.dst (.slice a' (n+k) cap')) w'):wpList P ops Q (o::rest) ac w:=by
 subst hn hk;refine wpList_plain hgd fun K hK=>?_
 obtain⟨a',cap',w',hr,h2,h3,h4⟩:=XT (P:=P) (w:=w) t o.type e i z ht hi hz hsize hby hzs ha (c:=c) hb h47
 unfold Oper.wp execOp;simp only[ho,resolve,invoke,builtin,Sem.run_bind,Sem.run_pure,Result.andThen_ok,List.map_toArray,List.map_cons,List.map_nil,hs,hx,hr];exact hK _ _ (h a' cap' w' h2 h3 h4)
theorem MB (n:Nat):(madeCells #[Value.int .i64 0] (n*1)).toList=zr (List.replicate n 0):=by
 rw[Nat.mul_one,toList_madeCells_one];simp[zr]
theorem Zt:(Tryz.prog.info? 3).map (fun i=>(i.zero,i.size,i.bytes))=some (some (.int .i64 0),1,8):=by kernel_rfl
theorem zO.one (w:World)(x:Int)(t:TypeId){b:Nat}(hb:b=w.heap.size):zO (w.alloc (.cells #[.int .i64 x] t)) (some ⟨b,0,none⟩) 1 [x]:=zO.new w [x] t (by simp[maxLen]) hb
theorem zO.empty (w:World)(t:TypeId){b:Nat}(hb:b=w.heap.size):zO (w.alloc (.cells #[] t)) (some ⟨b,0,none⟩) 0 []:=zO.new w [] t (by simp[maxLen]) hb
theorem below_alloc2 (w:World)(o1 o2:Obj):Below w.heap.size w ((w.alloc o1).alloc o2):=(below_alloc1 _ _).alloc (by simp) _
theorem Wj:∀w,(sizeOf (Tryz.prog.elem 23)).run Tryz.prog w=.ok 1 w:=by
 obtain⟨i0,hi,hz0,hz1,hz2⟩:=info_parts Zt;intro w;have e:Tryz.prog.elem 23=3:=by kernel_rfl
 rw[e];simp[sizeOf,typeInfo,hi,hz1]
theorem YW:Tryz.prog.underlying 23=some (.slice (Tryz.prog.elem 23)):=by
 have e:Tryz.prog.elem 23=3:=by kernel_rfl
 rw[e];exact Tryz.underlying23
theorem Vz {P:Program}{w:World}{ops:Array Oper}{o:Oper}{ac:Act}{K:Act→World→Prop}{Q:Exit→Act→World→Prop}{E:Prop}(hgd:o.guard=none)(sl x:Operand)(t:TypeId)
  (ho:o.op=.call { callee:=.builtin .append,args:=#[sl,x],argTypes:=#[t,t] }) (e:TypeId) (i:TypeInfo) (z:Value) (ht:P.underlying t=some (.slice e)) (hi:P.info? e=some i) (hz:i.zero=some z) (hsize:i.size=1) (hby:i.bytes=8) (hzs:z.cells.size=1)
  {a b:Option Addr} {cap c n k:Nat} {l m:List Int} (hs:ac.eval sl=.slice a n cap) (hx:ac.eval x=.slice b k c) (hn:n=l.length) (hk:k=m.length) (ha:zO w a cap l) (hb:yR w b m) (h47:l.length+m.length≤1000000000)
  (h:∀a' cap' w',zO w' a' cap' (l++m)→zI (yf a) w w'→(∀x∈yf a',x∈yf a∨w.heap.size≤x)→K (ac.put o.dst (.slice a' (n+k) cap')) w'):if Region.wanted o (yielded ops ac.tmps)=true then Oper.wp P o ac w K Q else E:=by
 have hw:Region.wanted o (yielded ops ac.tmps)=true:=by simp[Region.wanted,hgd]
 rw[if_pos hw];subst hn hk;obtain⟨a',cap',w',hr,h2,h3,h4⟩:=XT (P:=P) (w:=w) t o.type e i z ht hi hz hsize hby hzs ha (c:=c) hb h47
 unfold Oper.wp execOp;simp only[ho,resolve,invoke,builtin,Sem.run_bind,Sem.run_pure,Result.andThen_ok,List.map_toArray,List.map_cons,List.map_nil,hs,hx,hr];exact h a' cap' w' h2 h3 h4
theorem II (k:Int):bits BinOp.and IntKind.i64 k 255=k%256:=by
 show IntKind.i64.wrap (((BitVec.ofInt 64 k) &&& (BitVec.ofInt 64 255)).toNat:Int)=k%256
 have e:(BitVec.ofInt 64 255).toNat=255:=by decide
 rw[BitVec.toNat_and,e,show(255:Nat)=2 ^ 8-1 from rfl,Nat.and_two_pow_sub_one_eq_mod,IntKind.wrap_i64,BitVec.toNat_ofInt];omega
theorem Ko (x:Int)(m:Nat)(hm:0<m):∃n:Nat,(bits BinOp.and IntKind.i64 x 255).tmod (m:Int)=(n:Int)∧n<m∧n≤255:=by
 rw[II];obtain⟨k,hk⟩:∃k:Nat,x%256=(k:Int):=⟨(x%256).toNat,by omega⟩
 have h1:=Nat.mod_lt k hm;have h2:=Nat.mod_le k m;exact⟨k%m,by rw[hk,Int.tmod_eq_emod_of_nonneg (by omega)];rfl,h1,by omega⟩
theorem Tv (w:World)(a:Option Addr)(n c:Nat)(l:List Int)(h:yR w a l)(hn:n=l.length)(hl:n≤1000000)(h0:a=none→c=0) :
  Calls Tryz.prog 68 #[.slice a n c] w fun r w'=>∃a' c',r=.returned (.slice a' n c')∧zO w' a' c' l∧(∀x∈yf a',w.heap.size≤x)∧Below w.heap.size w w':=by
 cases a with
 | none =>
  obtain rfl:=h0 rfl
  have hl0:l=[]:=by
   rcases Nat.eq_zero_or_pos l.length with e|e
   ·exact List.length_eq_zero_iff.1 e
   ·obtain⟨_,_,h1,_⟩:=h 0 e;cases h1
  subst hl0;obtain rfl:n=0:=hn
  clear h h0;have he:∀w:World,(binOp .eql 23 (.slice none 0 0) (.slice none 0 0)).run Tryz.prog w=.ok (.bool true) w:=fun _=>rfl
  go_enter Tryz.func68,Tryz.ntmps68
  go_wp2;go_ret;exact⟨none,0,rfl,zO.nil _,fun x hx=>by simp[yf] at hx,Below.refl _ _⟩
 | some ad =>
  obtain⟨i0,hi0,hz0,hz1,hz2⟩:=info_parts Zt;have Hi:=Qq hi0;clear hi0
  have Hz0:=Qq hz0;clear hz0
  have Hz1:=Qq hz1;clear hz1
  have Hz2:=Qq hz2;clear hz2
  have H:=Qq h;have HN:=Qq hn;clear h h0 hn;have he:∀w:World,(binOp .eql 23 (.slice (some ad) n c) (.slice none 0 0)).run Tryz.prog w=.ok (.bool false) w:=fun _=>rfl
  go_enter Tryz.func68,Tryz.ntmps68
  go_wp2_with (at_builtin;refine Zy (l:=[]) (m:=l) rfl _ _ 23 rfl 3 i0 _ Tryz.underlying23 Hi.out Hz0.out Hz1.out Hz2.out rfl rfl rfl rfl HN.out (zO.empty _ _ rfl) (H.out.below (below_alloc1 _ _)) (by have:=HN.out;simp only[List.length_nil];omega) ?_)
  intro a1 c1 w1 k1 ch1 f1;have hf:zO w1 a1 c1 l∧(∀x∈yf a1,w.heap.size≤x)∧Below w.heap.size w w1:=by
   refine⟨by simpa using k1,fun x hx=>?_,zI.below (below_alloc1 _ _) ch1 (fun x hx=>by simp[yf] at hx;omega)⟩
   rcases f1 x hx with h|h
   ·simp[yf] at h;omega
   ·omega
  have HF:=Qq hf;clear hf k1 ch1 f1;go_wp2;go_ret;exact⟨a1,c1,by simp,HF.out⟩
theorem Tg {N e i:Nat}(he:e<N)(hi:i≤N):(e+i)%N=if e+i<N then e+i else e+i-N:=by
 split
 ·exact Nat.mod_eq_of_lt ‹_›
 ·rw[Nat.mod_eq_sub_mod (by omega),Nat.mod_eq_of_lt (by omega)]
theorem EO {N e i j:Nat}(he:e<N)(hi:i<N)(hj:j<N)(h:i≠j):(e+i)%N≠(e+j)%N:=by
 rw[Tg he (by omega),Tg he (by omega)];split<;>split<;>omega
def Plain (w:World)(p:Nat):Prop:=∃ca ta,w.heap[p]?=some (.cells ca ta (0,0))
theorem Plain.yC {F:List Nat}{w w':World}{p:Nat}(h:Plain w p)(c:zI F w w')(hp:p∉F):Plain w' p:=by
 obtain⟨ca,ta,h1⟩:=h;exact⟨ca,ta,by rw[c.block p (Array.getElem?_eq_some_iff.1 h1).1 hp];exact h1⟩
theorem Plain.set {w:World}{p b k:Nat}{v:Value}(h:Plain w p):Plain (w.setCell ⟨b,k,none⟩ v) p:=by
 obtain⟨ca,ta,h1⟩:=h;by_cases e:p=b
 ·subst e;exact⟨_,ta,heap_setCell_same w p k ca ta v h1⟩
 ·exact⟨ca,ta,by rw[heap_setCell_other w _ p v e];exact h1⟩
theorem Plain.new (w:World)(cs:Array Value)(t:TypeId){p:Nat}(hp:p=w.heap.size):Plain (w.alloc (.cells cs t)) p:=by
 subst hp;exact⟨cs,t,heap_alloc_new w _⟩
structure yg (w:World) (p o g N e:Nat) (l:List Int):Prop where
 n1:1≤N
 n2:N≤1024
 ll:l.length≤N
 el:e<N
 ne:g≠p
 c0:w.cell? ⟨p,o,none⟩=some (.slice (some ⟨g,0,none⟩) N N)
 c1:w.cell? ⟨p,o+1,none⟩=some (.int .i64 (e:Int))
 c2:w.cell? ⟨p,o+2,none⟩=some (.int .i64 (l.length:Int))
 f1:w.frozen? ⟨p,o+1,none⟩=false
 f2:w.frozen? ⟨p,o+2,none⟩=false
 pl:Plain w p
 row:∃cs:List Value,cs.length=N∧zF w g cs∧∀i (h:i<l.length),cs[(e+i)%N]?=some (.int .i64 l[i])
theorem yg.yC {F:List Nat}{w w':World}{p o g N e:Nat}{l:List Int}(h:yg w p o g N e l)(c:zI F w w')(hp:p∉F)(hg:g∉F):yg w' p o g N e l:=by
 obtain⟨cs,h1,h2,h3⟩:=h.row;have hk:=c.block p (World.block_lt_of_cell? w _ h.c0) hp
 refine⟨h.n1,h.n2,h.ll,h.el,h.ne,Zj h.c0 c hp,Zj h.c1 c hp,Zj h.c2 c hp,?_,?_,h.pl.yC c hp,cs,h1,h2.yC c hg,h3⟩
 ·rw[World.frozen?_of_block (a:=⟨p,o+1,none⟩) hk];exact h.f1
 ·rw[World.frozen?_of_block (a:=⟨p,o+2,none⟩) hk];exact h.f2
theorem yg.below {w w':World}{p o g N e:Nat}{l:List Int}(h:yg w p o g N e l)(hb:Below w.heap.size w w'):yg w' p o g N e l :=
 h.yC (zI.zK (F:=[]) hb) (by simp) (by simp)
theorem yg.lt {w:World}{p o g N e:Nat}{l:List Int}(h:yg w p o g N e l):p<w.heap.size∧g<w.heap.size:=by
 obtain⟨cs,h1,h2,h3⟩:=h.row;have:=h.n1
 exact⟨World.block_lt_of_cell? w _ h.c0,h2.lt (by omega)⟩
structure xw (p o g:Nat) (w w':World):Prop where
 yC:zI [p,g] w w'
 far:∀k,k<o→w'.cell? ⟨p,k,none⟩=w.cell? ⟨p,k,none⟩∧w'.frozen? ⟨p,k,none⟩=w.frozen? ⟨p,k,none⟩
theorem xw.refl (p o g:Nat)(w:World):xw p o g w w:=⟨zI.refl _ _,fun _ _=>⟨rfl,rfl⟩⟩
theorem xw.trans {p o g:Nat}{a b c:World}(h:xw p o g a b)(k:xw p o g b c):xw p o g a c :=
 ⟨h.yC.trans k.yC (fun x hx=>.inl hx),fun i hi=>⟨(k.far i hi).1.trans (h.far i hi).1,(k.far i hi).2.trans (h.far i hi).2⟩⟩
theorem xw.zK {p o g:Nat}{w w':World}(hp:p<w.heap.size)(h:Below w.heap.size w w'):xw p o g w w' :=
 ⟨zI.zK h,fun k hk=>⟨h.cell (p:=⟨p,k,none⟩) hp,h.frozen (p:=⟨p,k,none⟩) hp⟩⟩
theorem xw.set {p o g:Nat}{w w':World}(h:xw p o g w w')(k:Nat)(v:Value)(hk:o≤k):xw p o g w (w'.setCell ⟨p,k,none⟩ v) :=
 ⟨h.yC.setCell v (.inl (by simp)),fun i hi=>by
  rw[World.cell?_setCell_other _ _ _ _ (by simp<;>omega),World.frozen?_setCell];exact h.far i hi⟩
theorem xw.ye {p o g:Nat}{w w':World}(h:xw p o g w w')(k:Nat)(v:Value)(hg:g≠p):xw p o g w (w'.setCell ⟨g,k,none⟩ v) :=
 ⟨h.yC.setCell v (.inl (by simp)),fun i hi=>by
  rw[World.cell?_setCell_other _ _ _ _ (by simp<;>omega),World.frozen?_setCell];exact h.far i hi⟩
theorem yg.push {w:World}{p o g N e:Nat}{l:List Int}(h:yg w p o g N e l)(hl:l.length<N)(v:Int) :
  yg ((w.setCell ⟨g,(e+l.length)%N,none⟩ (.int .i64 v)).setCell ⟨p,o+2,none⟩ (.int .i64 ((l.length:Int)+1))) p o g N e (l++[v])∧xw p o g w ((w.setCell ⟨g,(e+l.length)%N,none⟩ (.int .i64 v)).setCell ⟨p,o+2,none⟩ (.int .i64 ((l.length:Int)+1))):=by
 obtain⟨cs,h1,h2,h3⟩:=h.row;have hne:=h.ne;have el:=h.el;refine⟨⟨h.n1,h.n2,by simp;omega,h.el,hne,?_,?_,?_,?_,?_,h.pl.set.set,cs.set ((e+l.length)%N) (.int .i64 v),by simpa using h1,(h2.set _ _).Zo hne,?_⟩,((xw.refl _ _ _ _).ye _ _ hne).set _ _ (by omega)⟩
 ·rw[World.cell?_setCell_other _ _ _ _ (by simp),World.cell?_setCell_other _ _ _ _ (by simp<;>omega)];exact h.c0
 ·rw[World.cell?_setCell_other _ _ _ _ (by simp),World.cell?_setCell_other _ _ _ _ (by simp<;>omega)];exact h.c1
 ·rw[World.cell?_setCell_same' _ _ _ (by rw[World.cell?_setCell_other _ _ _ _ (by simp<;>omega),h.c2];rfl)];simp
 ·rw[World.frozen?_setCell,World.frozen?_setCell];exact h.f1
 ·rw[World.frozen?_setCell,World.frozen?_setCell];exact h.f2
 ·intro i hi
  simp at hi
  have hm:(e+l.length)%N<N:=Nat.mod_lt _ (by omega)
  by_cases hil:i=l.length
  ·subst hil
   rw[List.getElem?_set_self (by omega)];simp
  ·rw[List.getElem?_set_ne (fun hc=>EO el (by omega) (by omega) (by omega) hc),List.getElem_append_left (by omega)]
   exact h3 i (by omega)
theorem yg.pop {w:World}{p o g N e:Nat}{x:Int}{l:List Int}(h:yg w p o g N e (x::l)) :
  yg ((w.setCell ⟨p,o+1,none⟩ (.int .i64 (((e+1)%N:Nat):Int))).setCell ⟨p,o+2,none⟩ (.int .i64 (l.length:Int))) p o g N ((e+1)%N) l∧xw p o g w ((w.setCell ⟨p,o+1,none⟩ (.int .i64 (((e+1)%N:Nat):Int))).setCell ⟨p,o+2,none⟩ (.int .i64 (l.length:Int))):=by
 obtain⟨cs,h1,h2,h3⟩:=h.row;have hne:=h.ne;have el:=h.el;have ll:=h.ll;simp at ll
 refine⟨⟨h.n1,h.n2,by omega,Nat.mod_lt _ (by omega),hne,?_,?_,?_,?_,?_,h.pl.set.set,cs,h1,(h2.Zo hne).Zo hne,?_⟩,((xw.refl _ _ _ _).set _ _ (by omega)).set _ _ (by omega)⟩
 ·rw[World.cell?_setCell_other _ _ _ _ (by simp),World.cell?_setCell_other _ _ _ _ (by simp)];exact h.c0
 ·rw[World.cell?_setCell_other _ _ _ _ (by simp),World.cell?_setCell_same' _ _ _ (by rw[h.c1];rfl)]
 ·rw[World.cell?_setCell_same' _ _ _ (by rw[World.cell?_setCell_other _ _ _ _ (by simp),h.c2];rfl)]
 ·rw[World.frozen?_setCell,World.frozen?_setCell];exact h.f1
 ·rw[World.frozen?_setCell,World.frozen?_setCell];exact h.f2
 ·intro i hi
  have:=h3 (i+1) (by simp<;>omega)
  simp only[List.getElem_cons_succ] at this;rw[←this];congr 1
  rw[Nat.mod_add_mod,Nat.add_assoc,Nat.add_comm 1]
theorem yg.cell {w:World}{p o g N e:Nat}{l:List Int}(h:yg w p o g N e l)(i:Nat)(hi:i<l.length):w.cell? ⟨g,(e+i)%N,none⟩=some (.int .i64 l[i]):=by
 obtain⟨cs,h1,h2,h3⟩:=h.row;exact(h2 _ _ (h3 i hi)).1
theorem yg.spot {w:World}{p o g N e:Nat}{l:List Int}(h:yg w p o g N e l)(i:Nat)(hi:i<N):(w.cell? ⟨g,i,none⟩).isSome=true∧w.frozen? ⟨g,i,none⟩=false:=by
 obtain⟨cs,h1,h2,h3⟩:=h.row;obtain⟨k1,k2⟩:=h2.at i (by omega)
 exact⟨by rw[k1];rfl,k2⟩
theorem WJ (w:World)(p o g N e:Nat)(l:List Int)(h:yg w p o g N e l) :
  Calls Tryz.prog 108 #[.pointer (some ⟨p,o,none⟩)] w fun r w'=>r=.returned (.int .i64 (l.length:Int))∧w'=w:=by
 have c2:=h.c2;clear h;go_enter Tryz.func108,Tryz.ntmps108
 go_wp2;go_ret;exact⟨rfl,rfl⟩
theorem Ms (w:World)(p o g N e:Nat)(l:List Int)(h:yg w p o g N e l) :
  Calls Tryz.prog 127 #[.pointer (some ⟨p,o,none⟩)] w fun r w'=>r=.returned (.int .i64 (N:Int))∧w'=w:=by
 have c0:=h.c0;clear h;go_enter Tryz.func127,Tryz.ntmps127
 go_wp2;go_ret;exact⟨rfl,rfl⟩
theorem Td (w:World)(p o g N e:Nat)(l:List Int)(h:yg w p o g N e l)(k:Nat)(hk:k≤1024) :
  Calls Tryz.prog 87 #[.pointer (some ⟨p,o,none⟩),.int .i64 (k:Int)] w fun r w'=>r=.returned (.int .i64 (((e+k)%N:Nat):Int))∧∃m,w'=w.drewN m:=by
 have c0:=h.c0;have c1:=h.c1;have n1:=h.n1;have n2:=h.n2;have el:=h.el;clear h;go_enter Tryz.func87,Tryz.ntmps87
 go_wp2_with fail;go_quiet (fail)
 go_wp2;go_ret;exact⟨Wx (by simp),_,rfl⟩
theorem Z6 {w:World}{p o g N e:Nat}{l:List Int}(h:yg w p o g N e l)(m:Nat):yg (w.drewN m) p o g N e l:=h.below (below_drewN (Below.refl _ _) m)
theorem SN (w:World)(p o g N e:Nat)(l:List Int)(v:Int)(h:yg w p o g N e l)(hl:l.length<N) :
  Calls Tryz.prog 125 #[.pointer (some ⟨p,o,none⟩),.int .i64 v] w fun r w'=>r=.returned (.bool true)∧yg w' p o g N e (l++[v])∧xw p o g w w':=by
 have c0:=h.c0;have c1:=h.c1;have c2:=h.c2;have n1:=h.n1;have n2:=h.n2;have el:=h.el;have ll:=h.ll;have ne:=h.ne;have ne':p≠g:=fun e=>ne e.symm
 obtain⟨hpl,hgl⟩:=h.lt;have HPL:=Qq hpl;clear hpl hgl
 obtain⟨n,hn⟩:∃n,n=l.length:=⟨_,rfl⟩
 have H:=Qq h;have HL:=Qq hl;have hl':n<N:=by omega
 have hb:((n:Int)==(N:Int))=false:=by rw[beq_eq_false_iff_ne];omega
 rw[←hn] at c2;have hs:∀w',Below w.heap.size w w'→yg ((w'.setCell ⟨g,(e+n)%N,none⟩ (.int .i64 v)).setCell ⟨p,o+2,none⟩ (.int .i64 ((n:Int)+1))) p o g N e (l++[v])∧xw p o g w ((w'.setCell ⟨g,(e+n)%N,none⟩ (.int .i64 v)).setCell ⟨p,o+2,none⟩ (.int .i64 ((n:Int)+1))):=fun w' hb=>by
  have:=(h.below hb).push HL.out v
  rw[←hn] at this;exact⟨this.1,(xw.zK HPL.out hb).trans this.2⟩
 have HS:=Qq hs;obtain⟨s1,s2⟩:=h.spot ((e+n)%N) (Nat.mod_lt _ (by omega))
 obtain⟨v0,s1⟩:=Option.isSome_iff_exists.1 s1;have f2:=h.f2;have hm:(((e+n)%N:Nat):Int)<(N:Int):=by have:=Nat.mod_lt (e+n) (show 0<N by omega);omega
 obtain⟨k,hk⟩:∃k,k=(e+n)%N:=⟨_,rfl⟩
 rw[←hk] at s1 s2 hm HS;clear h hs hl;have HK:=Qq hk;clear hk
 have HN:=Qq hn;clear hn
 go_enter Tryz.func125,Tryz.ntmps125
 go_wp2_with fail;go_quiet (fail)
 go_wp2_with fail;go_region_with (go_at_call 87;refine(Td _ p o g N e l (Z6 H.out _) n (by omega)).mono ?_;rintro r w1 ⟨rfl,mq,rfl⟩;rw[←HK.out])
 all_goals
  go_wp2;go_ret;exact⟨rfl,HS.out _ (below_drewN (Below.refl _ _) _)⟩
theorem Nd (w:World)(p o g N e:Nat)(l:List Int)(v:Int)(h:yg w p o g N e l)(hl:¬l.length<N) :
  Calls Tryz.prog 125 #[.pointer (some ⟨p,o,none⟩),.int .i64 v] w fun r w'=>r=.returned (.bool false)∧yg w' p o g N e l∧xw p o g w w':=by
 have c0:=h.c0;have c2:=h.c2;have ll:=h.ll;obtain⟨hpl,hgl⟩:=h.lt;have HPL:=Qq hpl;clear hpl hgl
 obtain⟨n,hn⟩:∃n,n=l.length:=⟨_,rfl⟩
 have H:=Qq h;have hb:((n:Int)==(N:Int))=true:=by rw[beq_iff_eq];omega
 rw[←hn] at c2;clear h hl ll;have HN:=Qq hn;clear hn
 go_enter Tryz.func125,Tryz.ntmps125
 go_wp2_with fail;go_quiet (fail)
 go_wp2;go_ret;exact⟨rfl,Z6 H.out _,xw.zK HPL.out (below_drewN (Below.refl _ _) _)⟩
theorem L5 (w:World)(p o g N e:Nat)(h:yg w p o g N e []) :
  Calls Tryz.prog 93 #[.pointer (some ⟨p,o,none⟩)] w fun r w'=>r=.returned (.tuple #[.int .i64 0,.bool false])∧yg w' p o g N e []∧xw p o g w w':=by
 have c2:w.cell? ⟨p,o+2,none⟩=some (.int .i64 0):=h.c2
 obtain⟨hpl,hgl⟩:=h.lt;have HPL:=Qq hpl;clear hpl hgl
 have H:=Qq h;clear h;go_enter Tryz.func93,Tryz.ntmps93
 go_wp2;go_ret2
 exact⟨rfl,H.out,xw.refl _ _ _ _⟩
theorem PQ (w:World)(p o g N e:Nat)(x:Int)(l:List Int)(h:yg w p o g N e (x::l)) :
  Calls Tryz.prog 93 #[.pointer (some ⟨p,o,none⟩)] w fun r w'=>r=.returned (.tuple #[.int .i64 x,.bool true])∧yg w' p o g N ((e+1)%N) l∧xw p o g w w':=by
 have c0:=h.c0;have c1:=h.c1;have c2:=h.c2;have n1:=h.n1;have n2:=h.n2;have el:=h.el;have ll:=h.ll;have f1:=h.f1;have f2:=h.f2;obtain⟨hpl,hgl⟩:=h.lt;have HPL:=Qq hpl;clear hpl hgl
 have H:=Qq h;simp only[List.length_cons] at ll c2;obtain⟨n,hn⟩:∃n,n=l.length:=⟨_,rfl⟩
 rw[←hn] at c2 ll;have hx:w.cell? ⟨g,e,none⟩=some (.int .i64 x):=by
  have:=h.cell 0 (by simp)
  rwa [Nat.add_zero,Nat.mod_eq_of_lt el] at this
 have hb:(((n+1:Nat):Int)==0)=false:=by rw[beq_eq_false_iff_ne];omega
 have hel:(e:Int)<(N:Int):=by omega
 have hs:∀w',Below w.heap.size w w'→yg ((w'.setCell ⟨p,o+1,none⟩ (.int .i64 (((e+1)%N:Nat):Int))).setCell ⟨p,o+2,none⟩ (.int .i64 (n:Int))) p o g N ((e+1)%N) l∧xw p o g w ((w'.setCell ⟨p,o+1,none⟩ (.int .i64 (((e+1)%N:Nat):Int))).setCell ⟨p,o+2,none⟩ (.int .i64 (n:Int))):=fun w' hb=>by
  have:=(h.below hb).pop
  rw[←hn] at this;exact⟨this.1,(xw.zK HPL.out hb).trans this.2⟩
 have HS:=Qq hs;clear hs h
 have HN:=Qq hn;clear hn
 obtain⟨k,hk⟩:∃k,k=(e+1)%N:=⟨_,rfl⟩
 rw[←hk] at HS ⊢;have HK:=Qq hk;clear hk
 go_enter Tryz.func93,Tryz.ntmps93
 go_wp2_with fail;go_quiet (fail)
 go_wp2_with fail;refine(Td _ p o g N e (x::l) (Z6 H.out _) 1 (by omega)).mono ?_
 rintro r w1 ⟨rfl,mq,rfl⟩;rw[←HK.out];go_wp2;go_ret2
 refine⟨rfl,?_⟩
 have:=HS.out _ (below_drewN (below_drewN (Below.refl _ _) nq) mq)
 simpa using this
def Zu (z:Int):Nat:=(max 1 (min z 1024)).toNat
theorem Tk (z:Int):1≤Zu z∧Zu z≤1024:=by unfold Zu;omega
def fill (L:List Int)(K i:Nat):List Int:=L.take i++List.replicate (K-i) 0
theorem KF (L:List Int)(K i:Nat)(hK:K≤L.length)(hi:i≤K):(fill L K i).length=K:=by
 unfold fill;rw[List.length_append,List.length_take,List.length_replicate];omega
theorem Km (L:List Int)(K i:Nat)(hK:K≤L.length)(hi:i<K):(fill L K i).set i (L[i]'(by omega))=fill L K (i+1):=by
 unfold fill;have hl:(L.take i).length=i:=by rw[List.length_take];omega
 have h1:L.take (i+1)=L.take i++[L[i]'(by omega)]:=by rw[List.take_add_one,List.getElem?_eq_getElem (by omega)];rfl
 rw[List.set_append_right _ _ (by omega),hl,Nat.sub_self,show K-i=(K-(i+1))+1 by omega,List.replicate_succ,QY,h1,List.append_assoc]
 rfl
theorem Lx (L:List Int)(K:Nat):fill L K K=L.take K:=by unfold fill;simp
theorem Nf (L:List Int)(K:Nat):fill L K 0=List.replicate K 0:=by unfold fill;simp
theorem JK (l:List Int)(i:Nat)(v:Int):zr (l.set i v)=(zr l).set i (.int .i64 v):=by unfold zr;rw[List.map_set]
theorem zO.Du {w:World}{b:Nat}{l:List Int}(h:zF w b (zr l))(hb:b<w.heap.size)(hl:l.length≤maxLen):zO w (some ⟨b,0,none⟩) l.length l:=by
 refine⟨Nat.le_refl _,hl,.inr ⟨_,0,rfl,hb,fun j hj=>?_,fun j v hj=>?_⟩⟩
 ·rw[Nat.zero_add]
  obtain⟨h1,h2⟩:=h j _ (XB l j hj)
  exact⟨by rw[h1];rfl,h2⟩
 ·rw[Nat.zero_add];exact(h j v hj).1
theorem zF.xO {w:World}{base n g cap:Nat}{e:TypeId}{xs:List Value}(h:w.ownsRow base e 1 (.slice (some ⟨g,0,none⟩) n cap) n xs):zF w g xs∧g<w.heap.size:=by
 rcases h.2 with⟨h0,_⟩|⟨g',cap',cur,hv,hb,hg,h1,h2,h3,h4⟩
 ·cases h0
 ·simp only[Value.slice.injEq,Option.some.injEq,Addr.mk.injEq,and_true,true_and] at hv
  obtain⟨rfl,rfl⟩:=hv;refine⟨fun j v hj=>?_,(Array.getElem?_eq_some_iff.1 hg).1⟩
  rw[cell_of_row w g j cur e (0,0) hg]
  refine⟨?_,frozen_of_row w g j cur e hg⟩
  rw[←h4,List.getElem?_take] at hj
  split at hj
  ·simpa using hj
  ·cases hj
theorem Ta (w:World)(n:Nat)(hn:n≤1000000):∃w1,(Instr.makeSlice 23 (.int .i64 (n:Int)) (.int .i64 (n:Int))).run Tryz.prog w=.ok (.slice (some ⟨w.heap.size,0,none⟩) n n) w1∧w1.ownsRow 0 3 1 (.slice (some ⟨w.heap.size,0,none⟩) n n) n (zr (List.replicate n 0))∧w.grownBy w1 none:=by
 obtain⟨i0,hi,hz0,hz1,hz2⟩:=info_parts Zt;obtain⟨w1,h1,h2,h3⟩:=run_make_full (P:=Tryz.prog) w 0 23 3 i0 _ 1 Tryz.underlying23 hi hz0 hz1 .i64 .i64 n (by rw[hz2];omega) (by unfold maxLen;omega) (Nat.zero_le _)
 rw[show(Value.int .i64 0).cells=#[Value.int .i64 0] from rfl,MB] at h2
 exact⟨w1,h1,h2,h3⟩
theorem yg.new (w:World)(p g N:Nat)(h1:1≤N)(h2:N≤1024)(hne:g≠p)(hg:zF w g (zr (List.replicate N 0)))(hp:zF w p [.slice (some ⟨g,0,none⟩) N N,.int .i64 0,.int .i64 0])(hpl:Plain w p):yg w p 0 g N 0 []:=by
 refine⟨h1,h2,by simp,by omega,hne,(hp 0 _ rfl).1,(hp 1 _ rfl).1,(hp 2 _ rfl).1,(hp 1 _ rfl).2,(hp 2 _ rfl).2,hpl,_,?_,hg,fun i hi=>by simp at hi⟩
 rw[yE,List.length_replicate]
theorem KD (z:Int)(w:World):Calls Tryz.prog 67 #[.int .i64 z] w fun r w'=>∃p g,r=.returned (.pointer (some ⟨p,0,none⟩))∧yg w' p 0 g (Zu z) 0 []∧w.heap.size≤p∧w.heap.size≤g∧Below w.heap.size w w':=by
 obtain⟨N,hN⟩:∃N,N=Zu z:=⟨_,rfl⟩
 obtain⟨h1,h2⟩:=Tk z;have hm:min (max z 1) 1024=(N:Int):=by rw[hN];unfold Zu;omega
 rw[←hN] at h1 h2 ⊢;clear hN;obtain⟨w1,hmk,hown,hgrow⟩:=Ta w N (by omega)
 have hb1:Below w.heap.size w w1:=(yF hgrow).YB
 obtain⟨hblk,hlt⟩:=zF.xO hown;obtain⟨g,hg⟩:∃g,g=w.heap.size:=⟨_,rfl⟩
 have hpg:g<w1.heap.size:=by omega
 rw[←hg] at hmk hblk;have HB:=Qq hblk;clear hblk hown hgrow
 have HB1:=Qq hb1;clear hb1
 have HG:=Qq hg;clear hg hlt
 have HP:=Qq hpg;clear hpg
 have hend:∀cs,cs=[Value.slice (some ⟨g,0,none⟩) N N,.int .i64 0,.int .i64 0]→yg (w1.alloc (.cells cs.toArray 170)) w1.heap.size 0 g N 0 []∧w.heap.size≤w1.heap.size∧w.heap.size≤g∧Below w.heap.size w (w1.alloc (.cells cs.toArray 170)):=fun cs hcs=>by
  subst hcs;have hs:=HB1.out.size;have hg:=HG.out;exact⟨yg.new _ _ _ _ h1 h2 (by have:=HP.out;omega) (HB.out.alloc _) (zF.mk _ _ _ _ rfl) (Plain.new _ _ _ rfl),hs,by omega,HB1.out.alloc hs _⟩
 have HE:=Qq hend;clear hend
 have hV:(N:Int)=1∧z<1∨(N:Int)=z∧1≤z∧z≤1024∨(N:Int)=1024∧1024<z:=by omega
 rcases hV with⟨hV,hz⟩|⟨hV,hz,hz'⟩|⟨hV,hz⟩
 all_goals
  rw[hV] at hmk;have HV:=Qq hV;clear hV hm
  go_enter Tryz.func67,Tryz.ntmps67
  go_wp2;go_ret;exact⟨_,g,rfl,HE.out _ rfl⟩
def xk (k:Int)(n:Nat):Nat:=min k.toNat n
theorem Rb (k:Int)(n:Nat):xk k n≤n:=by unfold xk;omega
theorem Tc (w:World)(p o g N e:Nat)(l:List Int)(k:Int)(h:yg w p o g N e l) :
  Calls Tryz.prog 110 #[.pointer (some ⟨p,o,none⟩),.int .i64 k] w fun r w'=>∃q e',r=.returned (.slice (some ⟨q,0,none⟩) (xk k l.length) (xk k l.length))∧w.heap.size≤q∧zO w' (some ⟨q,0,none⟩) (xk k l.length) (l.take (xk k l.length)) ∧
   yg w' p o g N e' (l.drop (xk k l.length))∧xw p o g w w':=by
 obtain⟨K,hK⟩:∃K,K=xk k l.length:=⟨_,rfl⟩
 have hKl:=Rb k l.length;have hKn:K=min k.toNat l.length:=by rw[hK];rfl
 have ll:=h.ll;have n2:=h.n2;have c2:=h.c2;have ne:=h.ne;obtain⟨hpl,hgl⟩:=h.lt;rw[←hK] at hKl ⊢;have hV:((K:Int)=0∧k<0)∨((K:Int)=k∧0≤k∧k≤(l.length:Int))∨((K:Int)=(l.length:Int)∧0≤k∧(l.length:Int)<k):=by omega
 clear hK hKn;obtain⟨w1,hmk,hown,hgrow⟩:=Ta w K (by omega)
 have hb1:Below w.heap.size w w1:=(yF hgrow).YB
 obtain⟨hblk,hlt⟩:=zF.xO hown;obtain⟨q,hq⟩:∃q,q=w.heap.size:=⟨_,rfl⟩
 have hlt':q<w1.heap.size:=by omega
 rw[←hq] at hmk hblk;have hst:yg w1 p o g N ((e+0)%N) (l.drop 0)∧xw p o g w w1∧zF w1 q (zr (fill l K 0))∧q<w1.heap.size:=⟨by rw[Nat.add_zero,Nat.mod_eq_of_lt h.el];exact h.below hb1,xw.zK hpl hb1,by rw[Nf];exact hblk,hlt'⟩
 have HST:=Qq hst;have HQ:Hid (q=w.heap.size∧q≠p∧q≠g∧g≠p):=Qq ⟨hq,by omega,by omega,ne⟩
 have hstep:∀(i:Nat) (w2 w3:World) (hi:i<K),xw p o g w w2→zF w2 q (zr (fill l K i))→q<w2.heap.size→yg w3 p o g N ((e+(i+1))%N) (l.drop (i+1))→xw p o g w2 w3 →
   (w3.cell? ⟨q,i,none⟩).isSome=true∧w3.frozen? ⟨q,i,none⟩=false∧(yg (w3.setCell ⟨q,i,none⟩ (.int .i64 (l[i]'(by omega)))) p o g N ((e+(i+1))%N) (l.drop (i+1))∧xw p o g w (w3.setCell ⟨q,i,none⟩ (.int .i64 (l[i]'(by omega)))) ∧
    zF (w3.setCell ⟨q,i,none⟩ (.int .i64 (l[i]'(by omega)))) q (zr (fill l K (i+1)))∧q<(w3.setCell ⟨q,i,none⟩ (.int .i64 (l[i]'(by omega)))).heap.size):=fun i w2 w3 hi r2 b2 q2 r3 c3=>by
  obtain⟨e1,e2,e3,e4⟩:=HQ.out;have b3:=b2.yC c3.yC (by simp<;>omega)
  obtain⟨s1,s2⟩:=b3.at i (by rw[yE,KF l K i hKl (by omega)];exact hi)
  have cs:zI [q] w3 (w3.setCell ⟨q,i,none⟩ (.int .i64 (l[i]'(by omega)))):=(zI.refl _ _).setCell _ (.inl (by simp))
  have r13:=r2.trans c3;refine⟨by rw[s1];rfl,s2,r3.yC cs (by simp<;>omega) (by simp<;>omega),⟨r13.yC.trans cs (fun x hx=>.inr (by simp at hx;omega)),fun j hj=>?_⟩,?_,by rw[World.size_setCell];exact Nat.lt_of_lt_of_le q2 c3.yC.size⟩
  ·rw[World.cell?_setCell_other _ _ _ _ (by simp<;>omega),World.frozen?_setCell];exact r13.far j hj
  ·rw[←Km l K i hKl hi,JK]
   exact b3.set i _
 have HSP:=Qq hstep;clear hst hstep hb1 hblk hlt hlt' hown hgrow h hgl hpl ne;obtain⟨n,hn⟩:∃n,n=l.length:=⟨_,rfl⟩
 have hKl2:=hKl;rw[←hn] at c2 hV hKl2 ll;have HN:=Qq hn;clear hn
 clear hq;rcases hV with⟨hV,hz⟩|⟨hV,hz,hz'⟩|⟨hV,hz,hz'⟩
 all_goals
  rw[hV] at hmk;have HV:=Qq hV;clear hV
  go_enter Tryz.func110,Tryz.ntmps110
  go_wp2_with fail;go_loopw [17] (fun iv wr=>∃i:Nat,i≤K∧iv=.int .i64 i∧Hid (yg wr p o g N ((e+i)%N) (l.drop i)∧xw p o g w wr∧zF wr q (zr (fill l K i))∧q<wr.heap.size)) (fun iv _=>K-(intOf iv).toNat)
  case atStart=>exact⟨0,by omega,rfl,HST.out⟩
  case round =>
   obtain⟨i,hi,rfl,hr⟩:=hrel;by_cases hlt:i<K
   ·have hil:i<l.length:=by have:=HN.out;omega
    have hring:yg wr p o g N ((e+i)%N) (l[i]::l.drop (i+1)):=by
     rw[←List.drop_eq_getElem_cons hil];exact hr.out.1
    have HR:=Qq hring;clear hring
    go_wp2_with fail;refine(PQ wr p o g N _ _ _ HR.out).mono ?_
    rintro r w3 ⟨rfl,r3,c3⟩;rw[Nat.mod_add_mod,Nat.add_assoc] at r3;obtain⟨s1,s2,s3⟩:=HSP.out i wr w3 hlt hr.out.2.1 hr.out.2.2.1 hr.out.2.2.2 r3 c3;obtain⟨v0,s1⟩:=Option.isSome_iff_exists.1 s1;have S3:=Qq s3;clear s3 r3 c3
    have hli:(i:Int)<(K:Int):=by omega
    go_wp2;exact⟨⟨i+1,by omega,by go_num,S3⟩,by simp[intOf];omega⟩
   ·obtain rfl:i=K:=by omega
    go_wp2;go_ret;obtain⟨t1,t2,t3,t4⟩:=hr.out;rw[Lx] at t3;have t5:=zO.Du t3 t4 (by rw[List.length_take];unfold maxLen;omega)
    rw[List.length_take,Nat.min_eq_left (by have:=HN.out;omega)] at t5
    exact⟨q,_,rfl,by have:=HQ.out.1;omega,t5,t1,t2⟩
theorem Kc (w:World)(a b:Option Addr)(c d:Nat)(l:List Int)(h:yR w a l)(k:yR w b l)(hl:l.length≤maxLen) :
  Calls Tryz.prog 17 #[.slice a l.length c,.slice b l.length d] w fun r w'=>r=.returned (.int .i64 0)∧∃m,w'=w.drewN m:=by
 obtain⟨K,hK⟩:∃K,K=l.length:=⟨_,rfl⟩
 rw[←hK] at hl ⊢;unfold maxLen at hl;have H:=Qq h;clear h
 have J:=Qq k;clear k
 have HK:=Qq hK;clear hK
 go_enter Tryz.func17,Tryz.ntmps17
 go_wp2_with fail;go_loopw [13] (fun iv wr=>∃i m:Nat,i≤K∧iv=.int .i64 i∧wr=w.drewN m) (fun iv _=>K-(intOf iv).toNat)
 case atStart=>exact⟨0,0,by omega,rfl,rfl⟩
 case round =>
  obtain⟨i,m,hi,rfl,rfl⟩:=hrel;by_cases hlt:i<K
  ·obtain⟨b1,o1,rfl,g1⟩:=H.out i (by have:=HK.out;omega)
   obtain⟨b2,o2,rfl,g2⟩:=J.out i (by have:=HK.out;omega)
   have hli:(i:Int)<(K:Int):=by omega
   go_wp2_with fail;go_quiet (fail)
   go_wp2;exact⟨⟨i+1,_,by omega,by go_num,rfl⟩,by simp[intOf];omega⟩
  ·obtain rfl:i=K:=by omega
   go_wp2;go_ret;exact⟨rfl,_,rfl⟩
theorem xw.more {p o g:Nat}{F:List Nat}{w w2 w3:World}(h:xw p o g w w2)(c:zI F w2 w3)(hp:p∉F)(hF:∀x∈F,w.heap.size≤x)(hpl:p<w2.heap.size):xw p o g w w3 :=
 ⟨h.yC.trans c (fun x hx=>.inr (hF x hx)),fun k hk=>by
  have:=c.block p hpl hp
  rw[cell_of_heap this,World.frozen?_of_block (a:=⟨p,k,none⟩) this];exact h.far k hk⟩
structure Gp where
 b:Nat
 c0:Value
 c1:Value
 c2:Value
 c3:Value
 c4:Value
 c5:Value
 c6:Value
 c7:Value
 c8:Value
 c9:Value
 c10:Value
 ZW:Value
 ZB:Value
 x6:Value
 T:List Value
def Gp.cs (p:Gp)(v:Value):List Value:=p.c0::p.c1::p.c2::p.c3::p.c4::p.c5::p.c6::p.c7::p.c8::p.c9::p.c10::p.ZW::p.ZB::p.x6::v::p.T
def xf (w:World)(b:Gp)(gl:List Int)(F:List Nat):Prop:=∃a cap,F=b.b::yf a∧b.b∉yf a∧zF w b.b (b.cs (.slice a gl.length cap))∧zO w a cap gl
theorem xf.yC {w w':World}{b:Gp}{gl:List Int}{F G:List Nat}(h:xf w b gl F)(c:zI G w w')(hd:∀x∈F,x∉G):xf w' b gl F:=by
 obtain⟨a,cap,rfl,h2,h3,h4⟩:=h;exact⟨a,cap,rfl,h2,h3.yC c (hd b.b (by simp)),h4.yC c (fun x hx=>hd x (by simp[hx]))⟩
theorem xf.below {w w':World}{b:Gp}{gl:List Int}{F:List Nat}(h:xf w b gl F)(hb:Below w.heap.size w w'):xf w' b gl F:=h.yC (zI.zK (F:=[]) hb) (fun _ _=>by simp)
theorem xf.lt {w:World}{b:Gp}{gl:List Int}{F:List Nat}(h:xf w b gl F):∀x∈F,x<w.heap.size:=by
 obtain⟨a,cap,rfl,h2,h3,h4⟩:=h;intro x hx;simp at hx
 rcases hx with rfl|hx
 ·exact h3.lt (by simp[Gp.cs])
 ·exact h4.lt x hx
theorem RL (w:World)(b:Gp)(gl:List Int)(F:List Nat)(h:xf w b gl F)(a:Option Addr)(n c:Nat)(m:List Int)(hn:n=m.length)(hm:yR w a m)(hl:gl.length+m.length≤1000000000) :
  Calls Tryz.prog 39 #[.pointer (some ⟨b.b,14,none⟩),.slice a n c] w fun r w'=>r=.returned (.tuple #[])∧zI F w w'∧∃F',xf w' b (gl++m) F'∧∀x∈F',x∈F∨w.heap.size≤x:=by
 have hFlt:=h.lt;obtain⟨a0,cap,rfl,h2,h3,h4⟩:=h;obtain⟨g0,f0⟩:=h3 14 _ rfl;obtain⟨i0,hi0,hz0,hz1,hz2⟩:=info_parts Zt;have Hi:=Qq hi0;clear hi0
 have Hz0:=Qq hz0;clear hz0
 have Hz1:=Qq hz1;clear hz1
 have Hz2:=Qq hz2;clear hz2
 have HM:=Qq hm;clear hm
 have H2:=Qq h2;have H3:=Qq h3;have H4:=Qq h4;have HF:=Qq hFlt;have HN:=Qq hn;clear h2 h3 h4 hFlt hn;go_enter Tryz.func39,Tryz.ntmps39
 go_wp2_with (at_builtin;refine Zy (l:=gl) (m:=m) rfl _ _ 23 rfl 3 i0 _ Tryz.underlying23 Hi.out Hz0.out Hz1.out Hz2.out rfl rfl rfl rfl HN.out H4.out HM.out hl ?_)
 intro a1 c1 w1 k1 ch1 f1;have hb:=H3.out.yC ch1 H2.out;obtain⟨g1,f2⟩:=hb 14 _ rfl;have hb1:b.b∉yf a1:=fun hx=>by
  rcases f1 b.b hx with h|h
  ·exact H2.out h
  ·have:=HF.out b.b (by simp);omega
 have cs:zI [b.b] w1 (w1.setCell ⟨b.b,14,none⟩ (.slice a1 (gl.length+n) c1)):=(zI.refl _ _).setCell _ (.inl (by simp))
 have hfin:zI (b.b::yf a0) w (w1.setCell ⟨b.b,14,none⟩ (.slice a1 (gl.length+n) c1))∧∃F',xf (w1.setCell ⟨b.b,14,none⟩ (.slice a1 (gl.length+n) c1)) b (gl++m) F'∧∀x∈F',x∈b.b::yf a0∨w.heap.size≤x:=by
  refine⟨(ch1.mono (fun x hx=>by simp[hx])).trans cs (fun x hx=>by simp at hx;simp[hx]),b.b::yf a1,⟨a1,c1,rfl,hb1,?_,k1.yC cs (fun x hx=>by simp;intro e;subst e;exact hb1 hx)⟩,fun x hx=>?_⟩
  ·rw[List.length_append,←HN.out];exact hb.set 14 _
  ·simp at hx
   rcases hx with rfl|hx
   ·simp
   ·rcases f1 x hx with h|h
    ·simp[h]
    ·exact .inr h
 have HFIN:=Qq hfin;clear hfin cs hb1 hb k1 ch1 f1;go_wp2;go_end0
 exact⟨rfl,HFIN.out⟩
structure LQ where
 nx:Option Int
 l:List Int
def yu (w:World)(p g N:Nat)(q:LQ):Prop :=
 (∃e,yg w p 2 g N e q.l)∧(w.cell? ⟨p,0,none⟩=some (.bool q.nx.isSome)∧w.frozen? ⟨p,0,none⟩=false)∧(w.cell? ⟨p,1,none⟩=some (.int .i64 (q.nx.getD 0))∧w.frozen? ⟨p,1,none⟩=false)
theorem yu.yC {w w':World}{p g N:Nat}{q:LQ}{G:List Nat}(h:yu w p g N q)(c:zI G w w')(hp:p∉G)(hg:g∉G):yu w' p g N q:=by
 obtain⟨⟨e,h1⟩,⟨h2,h3⟩,h4,h5⟩:=h;have hk:=c.block p h1.lt.1 hp;refine⟨⟨e,h1.yC c hp hg⟩,⟨Zj h2 c hp,?_⟩,Zj h4 c hp,?_⟩
 ·rw[World.frozen?_of_block (a:=⟨p,0,none⟩) hk];exact h3
 ·rw[World.frozen?_of_block (a:=⟨p,1,none⟩) hk];exact h5
theorem yu.below {w w':World}{p g N:Nat}{q:LQ}(h:yu w p g N q)(hb:Below w.heap.size w w'):yu w' p g N q:=h.yC (zI.zK (F:=[]) hb) (by simp) (by simp)
theorem yu.lt {w:World}{p g N:Nat}{q:LQ}(h:yu w p g N q):p<w.heap.size∧g<w.heap.size:=by obtain⟨⟨e,h1⟩,_⟩:=h;exact h1.lt
theorem yu.ll {w:World}{p g N:Nat}{q:LQ}(h:yu w p g N q):q.l.length≤N∧1≤N∧N≤1024∧g≠p:=by obtain⟨⟨e,h1⟩,_⟩:=h;exact⟨h1.ll,h1.n1,h1.n2,h1.ne⟩
theorem yu.ring {w w':World}{p g N e':Nat}{q:LQ}{l':List Int}(h:yu w p g N q)(h1:yg w' p 2 g N e' l')(h2:xw p 2 g w w'):yu w' p g N ⟨q.nx,l'⟩:=by
 obtain⟨_,⟨k2,k3⟩,k4,k5⟩:=h;have f0:=h2.far 0 (by omega)
 have f1:=h2.far 1 (by omega)
 exact⟨⟨e',h1⟩,⟨by rw[f0.1];exact k2,by rw[f0.2];exact k3⟩,by rw[f1.1];exact k4,by rw[f1.2];exact k5⟩
theorem yu.T7 {w:World}{p g N:Nat}{q:LQ}(h:yu w p g N q)(nx:Option Int) :
  yu ((w.setCell ⟨p,0,none⟩ (.bool nx.isSome)).setCell ⟨p,1,none⟩ (.int .i64 (nx.getD 0))) p g N ⟨nx,q.l⟩∧zI [p,g] w ((w.setCell ⟨p,0,none⟩ (.bool nx.isSome)).setCell ⟨p,1,none⟩ (.int .i64 (nx.getD 0))):=by
 obtain⟨⟨e,h1⟩,⟨k2,k3⟩,k4,k5⟩:=h;obtain⟨cs,r1,r2,r3⟩:=h1.row;have hne:=h1.ne;refine⟨⟨⟨e,h1.n1,h1.n2,h1.ll,h1.el,hne,?_,?_,?_,?_,?_,h1.pl.set.set,cs,r1,(r2.Zo hne).Zo hne,r3⟩,⟨?_,?_⟩,?_,?_⟩,((zI.refl _ _).setCell _ (.inl (by simp))).setCell _ (.inl (by simp))⟩
 ·rw[World.cell?_setCell_other _ _ _ _ (by simp),World.cell?_setCell_other _ _ _ _ (by simp)];exact h1.c0
 ·rw[World.cell?_setCell_other _ _ _ _ (by simp),World.cell?_setCell_other _ _ _ _ (by simp)];exact h1.c1
 ·rw[World.cell?_setCell_other _ _ _ _ (by simp),World.cell?_setCell_other _ _ _ _ (by simp)];exact h1.c2
 ·rw[World.frozen?_setCell,World.frozen?_setCell];exact h1.f1
 ·rw[World.frozen?_setCell,World.frozen?_setCell];exact h1.f2
 ·rw[World.cell?_setCell_other _ _ _ _ (by simp),World.cell?_setCell_same' _ _ _ (by rw[k2];rfl)]
 ·rw[World.frozen?_setCell,World.frozen?_setCell];exact k3
 ·rw[World.cell?_setCell_same' _ _ _ (by rw[World.cell?_setCell_other _ _ _ _ (by simp),k4];rfl)]
 ·rw[World.frozen?_setCell,World.frozen?_setCell];exact k5
def LQ.num (q:LQ):Int:=q.nx.getD (-1)
theorem Tx (w:World)(p g N:Nat)(q:LQ)(h:yu w p g N q) :
  Calls Tryz.prog 56 #[.pointer (some ⟨p,0,none⟩)] w fun r w'=>r=.returned (.int .i64 q.num)∧w'=w:=by
 obtain⟨-,⟨k2,-⟩,k4,-⟩:=h;unfold LQ.num;cases hq:q.nx with
 | none =>
  rw[hq] at k2 k4;simp only[Option.isSome_none,Option.getD_none] at k2 k4 ⊢
  clear hq;go_enter Tryz.func56,Tryz.ntmps56
  go_wp2;go_ret;exact⟨rfl,rfl⟩
 | some v =>
  rw[hq] at k2 k4;simp only[Option.isSome_some,Option.getD_some] at k2 k4 ⊢
  clear hq;go_enter Tryz.func56,Tryz.ntmps56
  go_wp2;go_ret;exact⟨rfl,rfl⟩
def Z5 (N:Nat)(q:LQ)(v:Int)(g:List Int):LQ×List Int×Nat :=
 if q.l.length<N then(⟨q.nx,q.l++[v]⟩,g,0) else(⟨q.nx,q.l.drop (q.l.length / 2)⟩,g++(q.l.take (q.l.length / 2)++[v]),q.l.length / 2+1)
def mTurn (N:Nat)(q:LQ)(g:List Int):LQ×List Int×Nat:=match q.nx with|none=>(q,g,0)|some v=>Z5 N ⟨none,q.l⟩ v g
def xt (N:Nat)(q:LQ)(v:Int)(g:List Int):LQ×List Int×Nat:=(⟨some v,(mTurn N q g).1.l⟩,(mTurn N q g).2.1,(mTurn N q g).2.2)
def mGet (q:LQ):LQ×Option Int:=match q.nx with
 | some v=>(⟨none,q.l⟩,some v)
 | none=>match q.l with
  | []=>(q,none)
  | x::t=>(⟨none,t⟩,some x)
theorem Kx (N:Nat)(q:LQ)(v:Int)(g:List Int):(Z5 N q v g).2.1.length≤g.length+q.l.length+1:=by
 unfold Z5;split
 ·simp;omega
 ·simp only[List.length_append,List.length_take,List.length_singleton];omega
theorem Gx (N:Nat)(q:LQ)(v:Int)(g:List Int)(h:q.l.length≤N):(Z5 N q v g).1.l.length≤N:=by
 unfold Z5;split
 ·simp;omega
 ·simp only[List.length_drop];omega
theorem Iy {p g B:Nat}(hp:p<B)(hg:g<B):∀x∈yf (some ⟨B,0,none⟩),x∉[p,g]:=fun x hx=>by
 simp[yf] at hx;subst hx;simp;omega
theorem YD (w:World)(p g N:Nat)(q:LQ)(h:yu w p g N q) :
  Calls Tryz.prog 92 #[.pointer (some ⟨p,0,none⟩)] w fun r w'=>r=.returned (.tuple #[.int .i64 q.num,.bool q.nx.isSome])∧yu w' p g N ⟨none,q.l⟩∧zI [p,g] w w':=by
 have hb:∀m,yu (w.drewN m) p g N q:=fun m=>h.below (below_drewN (Below.refl _ _) m)
 have hf:∀m,yu (((w.drewN m).setCell ⟨p,0,none⟩ (.bool false)).setCell ⟨p,1,none⟩ (.int .i64 0)) p g N ⟨none,q.l⟩∧zI [p,g] w (((w.drewN m).setCell ⟨p,0,none⟩ (.bool false)).setCell ⟨p,1,none⟩ (.int .i64 0)):=fun m =>
  ⟨((hb m).T7 none).1,(zI.zK (below_drewN (Below.refl _ _) m)).trans ((hb m).T7 none).2 (fun x hx=>.inl hx)⟩
 obtain⟨-,⟨k2,f2⟩,k4,f4⟩:=h;have HB:=Qq hb;have HF:=Qq hf;clear hb hf;obtain⟨s,hs⟩:∃s,s=q.nx.isSome:=⟨_,rfl⟩
 obtain⟨v,hv⟩:∃v,v=q.num:=⟨_,rfl⟩
 rw[←hs] at k2 ⊢;rw[←hv];have hcall:∀m,Calls Tryz.prog 56 #[.pointer (some ⟨p,0,none⟩)] (w.drewN m) fun r w'=>r=.returned (.int .i64 v)∧w'=w.drewN m:=fun m=>by rw[hv];exact Tx _ p g N q (HB.out m)
 have HC:=Qq hcall;clear hcall hs hv;go_enter Tryz.func92,Tryz.ntmps92
 go_wp2_with fail;go_quiet ((go_at_call 56;exact Calls.quiet_of_same (HC.out _)))
 go_wp2;go_ret2
 exact⟨rfl,HF.out _⟩
theorem MZ (w:World)(p g N:Nat)(b:Gp)(q:LQ)(gl:List Int)(F:List Nat)(v:Int)(h:yu w p g N q)(hg:xf w b gl F)(hp:p∉F)(hgF:g∉F)(hl:gl.length≤1000000) :
  Calls Tryz.prog 105 #[.pointer (some ⟨p,0,none⟩),.int .i64 v,.pointer (some ⟨b.b,14,none⟩)] w fun r w'=>r=.returned (.int .i64 ((Z5 N q v gl).2.2:Int))∧yu w' p g N (Z5 N q v gl).1 ∧
   zI (p::g::F) w w'∧∃F',xf w' b (Z5 N q v gl).2.1 F'∧∀x∈F',x∈F∨w.heap.size≤x:=by
 obtain⟨e,h1⟩:=h.1;have ll:=h1.ll;have n2:=h1.n2;have H:=Qq h;clear h
 have H1:=Qq h1;have HG:=Qq hg;have HD:Hid (p∉F∧g∉F):=Qq ⟨hp,hgF⟩
 obtain⟨hpl,hgl⟩:=h1.lt;have hgp:=h1.ne;clear h1 hp hgF hg;by_cases hroom:q.l.length<N
 ·have e1:Z5 N q v gl=(⟨q.nx,q.l++[v]⟩,gl,0):=by unfold Z5;rw[if_pos hroom]
  rw[e1];clear e1;have HR:=Qq hroom;go_enter Tryz.func105,Tryz.ntmps105
  go_wp2_with fail;refine(SN _ _ _ _ _ _ _ v H1.out HR.out).mono ?_
  rintro r w1 ⟨rfl,k1,k2⟩;have hfin:yu w1 p g N ⟨q.nx,q.l++[v]⟩∧zI (p::g::F) w w1∧∃F',xf w1 b gl F'∧∀x∈F',x∈F∨w.heap.size≤x :=
   ⟨H.out.ring k1 k2,k2.yC.mono (fun x hx=>by simp at hx ⊢;omega),F,HG.out.yC k2.yC (fun x hx hc=>by simp at hc;rcases hc with rfl|rfl;exact HD.out.1 hx;exact HD.out.2 hx),fun x hx=>.inl hx⟩
  have HFIN:=Qq hfin;clear hfin k1 k2;go_wp2;go_ret;exact⟨rfl,HFIN.out⟩
 ·have e1:Z5 N q v gl=(⟨q.nx,q.l.drop (q.l.length / 2)⟩,gl++(q.l.take (q.l.length / 2)++[v]),q.l.length / 2+1):=by unfold Z5;rw[if_neg hroom]
  rw[e1];clear e1;have HR:=Qq hroom;obtain⟨n,hn⟩:∃n,n=q.l.length:=⟨_,rfl⟩
  obtain⟨k,hk⟩:∃k,k=n / 2:=⟨_,rfl⟩
  rw[←hn,←hk];rw[←hn] at ll hroom;have hkn:k≤n:=by omega
  have hquo:(n:Int).tdiv 2=(k:Int):=by rw[hk,Int.tdiv_eq_ediv_of_nonneg (by omega)];rfl
  have hw:IntKind.i64.wrap (k:Int)=(k:Int):=by rw[IntKind.wrap_i64];omega
  have hT:xk (k:Int) q.l.length=k:=by unfold xk;omega
  have HT:=Qq hT;have HN:=Qq hn;clear hT hn hk;obtain⟨i0,hi0,hz0,hz1,hz2⟩:=info_parts Zt;have Hi:=Qq hi0;clear hi0
  have Hz0:=Qq hz0;clear hz0
  have Hz1:=Qq hz1;clear hz1
  have Hz2:=Qq hz2;clear hz2
  go_enter Tryz.func105,Tryz.ntmps105
  go_wp2_with fail;refine(Nd _ _ _ _ _ _ _ v H1.out HR.out).mono ?_
  rintro r w1 ⟨rfl,k1,k2⟩;have R1:=Qq k1;have C1:=Qq k2;obtain⟨hpl1,hgl1⟩:=k1.lt;clear k1 k2;go_wp2_with fail;go_region_law (first
   | (go_simp;go_at_call 108;refine(WJ _ p 2 g N e q.l (by first|exact R1.out.below (zg _)|exact R1.out.below ((zg _).alloc (by simp) _)|exact R1.out.below (below_alloc1 _ _).drew)).mono ?_;rw[←HN.out];rintro r w2 ⟨rfl,rfl⟩)
   | (go_simp;go_at_call 110;refine(Tc _ p 2 g N e q.l _ (by first|exact R1.out.below (zg _)|exact R1.out.below ((zg _).alloc (by simp) _)|exact R1.out.below (below_alloc1 _ _).drew)).mono ?_;rw[HT.out];rintro r w3 ⟨bq,eq,rfl,k3,k4,k5,k6⟩)
   | (refine Vz (l:=q.l.take k) (m:=[v]) (by rfl) _ _ 23 (by rfl) 3 i0 _ Tryz.underlying23 Hi.out Hz0.out Hz1.out Hz2.out rfl (by rfl) (by rfl) (by rw[List.length_take,←HN.out];omega) (by rfl) (by first|exact k4|exact k4.below (below_alloc1 _ _)) (by first|exact(zO.one _ _ _ rfl).ints|exact((zO.one w1.drew v 3 (b:=w1.heap.size) rfl).yC k6.yC (Iy hpl1 hgl1)).ints) (by rw[List.length_take,List.length_singleton];omega) ?_;intro a2 c2 w4 k7 c7 f7))
  all_goals
   have c34:zI (yf (some ⟨bq,0,none⟩)) w3 w4:=by first|exact c7|exact(zI.zK (below_alloc1 _ _)).trans c7 (fun x hx=>.inl hx)
   have r13:xw p 2 g w1 w3:=by first|exact(xw.zK hpl1 (zg _)).trans k6|exact(xw.zK hpl1 ((zg _).alloc (Nat.le_refl _) _)).trans k6
   have hbq:w1.heap.size≤bq:=by first|exact k3|exact Nat.le_trans (by simp) k3
   have hpl3:=k5.lt;have r4:=k5.yC c34 (by simp[yf];omega) (by simp[yf];omega)
   have r14:=r13.more c34 (by simp[yf];omega) (fun x hx=>by simp[yf] at hx;omega) hpl3.1
   have L4:=(H.out.ring R1.out C1.out).ring r4 r14
   have G4:=(HG.out.yC C1.out.yC (fun x hx hc=>by simp at hc;rcases hc with rfl|rfl;exact HD.out.1 hx;exact HD.out.2 hx)).yC r14.yC (fun x hx hc=>by simp at hc;rcases hc with rfl|rfl;exact HD.out.1 hx;exact HD.out.2 hx)
   have C4:=C1.out.yC.trans r14.yC (fun x hx=>.inl hx)
   have HL4:=Qq L4;have HG4:=Qq G4;have HC4:=Qq C4;have HI:=Qq k7.ints;clear L4 G4 C4 r14 r4 hpl3 hbq r13 c34 k3 k4 k5 k6 k7 c7 f7;go_wp2_with fail;refine(RL w4 b gl F HG4.out a2 (k+1) c2 (q.l.take k++[v]) (by rw[List.length_append,List.length_take,List.length_singleton,←HN.out];omega) HI.out (by rw[List.length_append,List.length_take,List.length_singleton,←HN.out];omega)).mono ?_
   rintro r w5 ⟨rfl,c5,F',k8,k9⟩;have hfin:yu w5 p g N ⟨q.nx,q.l.drop k⟩∧zI (p::g::F) w w5∧∃F',xf w5 b (gl++(q.l.take k++[v])) F'∧∀x∈F',x∈F∨w.heap.size≤x:=by
    refine⟨HL4.out.yC c5 HD.out.1 HD.out.2,(HC4.out.mono (fun x hx=>by simp at hx ⊢;omega)).trans c5 (fun x hx=>.inl (by simp[hx])),F',k8,fun x hx=>?_⟩
    rcases k9 x hx with h|h
    ·exact .inl h
    ·exact .inr (Nat.le_trans HC4.out.size h)
   have HFIN:=Qq hfin;clear hfin c5 k8 k9;go_wp2;go_ret;exact⟨Wx (by simp),HFIN.out⟩
theorem Tr (w:World)(p g N:Nat)(b:Gp)(q:LQ)(gl:List Int)(F:List Nat)(h:yu w p g N q)(hg:xf w b gl F)(hp:p∉F)(hgF:g∉F)(hl:gl.length≤1000000) :
  Calls Tryz.prog 94 #[.pointer (some ⟨p,0,none⟩),.pointer (some ⟨b.b,14,none⟩)] w fun r w'=>r=.returned (.int .i64 ((mTurn N q gl).2.2:Int))∧yu w' p g N ⟨none,(mTurn N q gl).1.l⟩ ∧
   zI (p::g::F) w w'∧∃F',xf w' b (mTurn N q gl).2.1 F'∧∀x∈F',x∈F∨w.heap.size≤x:=by
 have H:=Qq h;clear h
 have HG:=Qq hg;clear hg
 have HD:Hid (p∉F∧g∉F):=Qq ⟨hp,hgF⟩
 clear hp hgF;cases hq:q.nx with
 | none =>
  have e1:mTurn N q gl=(q,gl,0):=by unfold mTurn;rw[hq]
  have e2:q.nx.isSome=false:=by rw[hq];rfl
  rw[e1];have hc:=YD w p g N q H.out;rw[e2] at hc;have HC:=Qq hc;clear e1 e2 hq hc;go_enter Tryz.func94,Tryz.ntmps94
  go_wp2_with fail;refine HC.out.mono ?_
  rintro r w1 ⟨rfl,h1,c1⟩;have hfin:yu w1 p g N ⟨none,q.l⟩∧zI (p::g::F) w w1∧∃F',xf w1 b gl F'∧∀x∈F',x∈F∨w.heap.size≤x :=
   ⟨h1,c1.mono (fun x hx=>by simp at hx ⊢;omega),F,HG.out.yC c1 (fun x hx hc=>by simp at hc;rcases hc with rfl|rfl;exact HD.out.1 hx;exact HD.out.2 hx),fun x hx=>.inl hx⟩
  have HFIN:=Qq hfin;clear hfin h1 c1;go_wp2;go_ret;exact⟨rfl,HFIN.out⟩
 | some v =>
  have e1:mTurn N q gl=Z5 N ⟨none,q.l⟩ v gl:=by unfold mTurn;rw[hq]
  have e2:q.num=v:=by unfold LQ.num;rw[hq];rfl
  have e4:q.nx.isSome=true:=by rw[hq];rfl
  have e3:(Z5 N ⟨none,q.l⟩ v gl).1=⟨none,(Z5 N ⟨none,q.l⟩ v gl).1.l⟩:=by unfold Z5;split<;>rfl
  have hp2:=fun w1 h1 h2=>MZ w1 p g N b ⟨none,q.l⟩ gl F v h1 h2 HD.out.1 HD.out.2 hl
  obtain⟨M,hM⟩:∃M,M=Z5 N ⟨none,q.l⟩ v gl:=⟨_,rfl⟩
  rw[e1];rw[←hM] at e3 hp2 ⊢;have hc:=YD w p g N q H.out;rw[e2,e4] at hc;have HC:=Qq hc;have HP:=Qq hp2;have E3:=Qq e3;clear e1 e2 e3 e4 hq hc hp2 hM;go_enter Tryz.func94,Tryz.ntmps94
  go_wp2_with fail;refine HC.out.mono ?_
  rintro r w1 ⟨rfl,h1,c1⟩;have G1:=Qq (HG.out.yC c1 (fun x hx hc=>by simp at hc;rcases hc with rfl|rfl;exact HD.out.1 hx;exact HD.out.2 hx))
  have H1:=Qq h1;have C1:=Qq c1;clear h1 c1 HC;go_wp2_with fail;refine(HP.out _ H1.out G1.out).mono ?_
  rintro r w2 ⟨rfl,h2,c2,F',h3,h4⟩;have hfin:yu w2 p g N ⟨none,M.1.l⟩∧zI (p::g::F) w w2∧∃F',xf w2 b M.2.1 F'∧∀x∈F',x∈F∨w.heap.size≤x:=by
   refine⟨by rw[←E3.out];exact h2,(C1.out.mono (fun x hx=>by simp at hx ⊢;omega)).trans c2 (fun x hx=>.inl hx),F',h3,fun x hx=>?_⟩
   rcases h4 x hx with h|h
   ·exact .inl h
   ·exact .inr (Nat.le_trans C1.out.size h)
  have HFIN:=Qq hfin;clear hfin h2 c2 h3 h4;go_wp2;go_ret;exact⟨rfl,HFIN.out⟩
theorem QD (w:World)(p g N:Nat)(b:Gp)(q:LQ)(gl:List Int)(F:List Nat)(v:Int)(h:yu w p g N q)(hg:xf w b gl F)(hp:p∉F)(hgF:g∉F)(hl:gl.length≤1000000) :
  Calls Tryz.prog 86 #[.pointer (some ⟨p,0,none⟩),.int .i64 v,.pointer (some ⟨b.b,14,none⟩)] w fun r w'=>r=.returned (.int .i64 ((xt N q v gl).2.2:Int))∧yu w' p g N (xt N q v gl).1 ∧
   zI (p::g::F) w w'∧∃F',xf w' b (xt N q v gl).2.1 F'∧∀x∈F',x∈F∨w.heap.size≤x:=by
 have H:=Qq h;clear h
 have HG:=Qq hg;clear hg
 have HD:Hid (p∉F∧g∉F):=Qq ⟨hp,hgF⟩
 clear hp hgF;unfold xt;have ht:=Tr w p g N b q gl F H.out HG.out HD.out.1 HD.out.2 hl;obtain⟨M,hM⟩:∃M,M=mTurn N q gl:=⟨_,rfl⟩
 rw[←hM] at ht ⊢;have HTT:=Qq ht;clear ht hM;go_enter Tryz.func86,Tryz.ntmps86
 go_wp2_with fail;refine HTT.out.mono ?_
 rintro r w1 ⟨rfl,h1,c1,F',h2,h3⟩;obtain⟨s1,s2⟩:=h1.T7 (some v)
 have hFn:p∉F'∧g∉F':=⟨fun hx=>by rcases h3 p hx with h|h;exact HD.out.1 h;exact absurd H.out.lt.1 (by omega),fun hx=>by rcases h3 g hx with h|h;exact HD.out.2 h;exact absurd H.out.lt.2 (by omega)⟩
 have hfin:yu ((w1.setCell ⟨p,0,none⟩ (.bool true)).setCell ⟨p,1,none⟩ (.int .i64 v)) p g N ⟨some v,M.1.l⟩∧zI (p::g::F) w ((w1.setCell ⟨p,0,none⟩ (.bool true)).setCell ⟨p,1,none⟩ (.int .i64 v)) ∧
   ∃F',xf ((w1.setCell ⟨p,0,none⟩ (.bool true)).setCell ⟨p,1,none⟩ (.int .i64 v)) b M.2.1 F'∧∀x∈F',x∈F∨w.heap.size≤x :=
  ⟨s1,c1.trans s2 (fun x hx=>by simp at hx;simp;omega),F',h2.yC s2 (fun x hx hc=>by simp at hc;rcases hc with rfl|rfl;exact hFn.1 hx;exact hFn.2 hx),h3⟩
 have HFIN:=Qq hfin;obtain⟨-,⟨k2,f2⟩,k4,f4⟩:=h1;clear hfin hFn s1 s2 h2 h3 c1;go_wp2;go_ret;exact⟨rfl,HFIN.out⟩
def Zh (x:Option Int):Value:=.tuple #[.int .i64 (x.getD (-1)),.bool x.isSome]
theorem Lz (w:World)(p g N:Nat)(q:LQ)(h:yu w p g N q) :
  Calls Tryz.prog 83 #[.pointer (some ⟨p,0,none⟩)] w fun r w'=>r=.returned (Zh (mGet q).2)∧yu w' p g N (mGet q).1∧zI [p,g] w w':=by
 have H:=Qq h;clear h
 go_enter Tryz.func83,Tryz.ntmps83
 go_wp2_with fail;refine(YD _ _ _ _ _ H.out).mono ?_
 rintro r w1 ⟨rfl,h1,c1⟩;have H1:=Qq h1;have C1:=Qq c1;clear h1 c1;obtain⟨nx,l⟩:=q;cases nx with
 | some v =>
  simp only[LQ.num,Option.getD_some,Option.isSome_some];go_wp2;go_ret2
  exact⟨rfl,H1.out,C1.out⟩
 | none =>
  obtain⟨⟨e,r1⟩,-⟩:=H1.out;cases l with
  | nil =>
   simp only[LQ.num,Option.getD_none,Option.isSome_none];have R1:=Qq r1;clear r1
   go_wp2_with fail;refine(L5 _ _ _ _ _ _ R1.out).mono ?_
   rintro r w2 ⟨rfl,h2,c2⟩;have H2:=Qq (H1.out.ring h2 c2)
   have C2:=Qq (C1.out.trans c2.yC (fun x hx=>.inl hx))
   clear h2 c2;go_wp2;go_ret2
   exact⟨rfl,H2.out,C2.out⟩
  | cons x t =>
   simp only[LQ.num,Option.getD_none,Option.isSome_none];have R1:=Qq r1;clear r1
   go_wp2_with fail;refine(PQ _ _ _ _ _ _ _ _ R1.out).mono ?_
   rintro r w2 ⟨rfl,h2,c2⟩;have H2:=Qq (H1.out.ring h2 c2)
   have C2:=Qq (C1.out.trans c2.yC (fun x hx=>.inl hx))
   clear h2 c2;go_wp2;go_ret2
   exact⟨rfl,H2.out,C2.out⟩
theorem Jq (z:Int)(w:World):Calls Tryz.prog 38 #[.int .i64 z] w fun r w'=>∃p g,r=.returned (.pointer (some ⟨p,0,none⟩))∧yu w' p g (Zu z) ⟨none,[]⟩∧w.heap.size≤p∧w.heap.size≤g∧Below w.heap.size w w':=by
 have hr:=KD z w;generalize Zu z=N at hr ⊢
 have HR:=Qq hr;clear hr;go_enter Tryz.func38,Tryz.ntmps38
 go_wp2_with fail;refine HR.out.mono ?_
 rintro r w1 ⟨p0,g,rfl,h1,h2,h3,h4⟩;have c0:=h1.c0;have c1:=h1.c1;have c2:=h1.c2;have hs:∀o:Obj,o=.cells #[.bool false,.int .i64 0,.slice (some ⟨g,0,none⟩) N N,.int .i64 0,.int .i64 0] 174→yu (w1.alloc o) w1.heap.size g N ⟨none,[]⟩∧w.heap.size≤w1.heap.size∧w.heap.size≤g∧Below w.heap.size w (w1.alloc o):=fun o ho=>by
  subst ho;obtain⟨cs,r1,r2,r3⟩:=h1.row;have hgl:=h1.lt.2;have hB:=zF.mk w1 [.bool false,.int .i64 0,.slice (some ⟨g,0,none⟩) N N,.int .i64 0,.int .i64 0] 174 _ rfl
  exact⟨⟨⟨0,h1.n1,h1.n2,by simp,by have:=h1.n1;omega,by omega,(hB 2 _ rfl).1,(hB 3 _ rfl).1,(hB 4 _ rfl).1,(hB 3 _ rfl).2,(hB 4 _ rfl).2,Plain.new _ _ _ rfl,cs,r1,r2.alloc _,fun i hi=>by simp at hi⟩,hB 0 _ rfl,hB 1 _ rfl⟩,h4.size,h3,h4.alloc h4.size _⟩
 have HS:=Qq hs;clear hs h1;go_wp2;go_ret;exact⟨_,g,rfl,HS.out _ rfl⟩
theorem Kj (w:World)(b:Gp)(gl:List Int)(F:List Nat)(h:xf w b gl F) :
  Calls Tryz.prog 126 #[.pointer (some ⟨b.b,14,none⟩)] w fun r w'=>r=.returned (.int .i64 (gl.length:Int))∧w'=w:=by
 obtain⟨a0,cap,rfl,h2,h3,h4⟩:=h;obtain⟨g0,f0⟩:=h3 14 _ rfl;clear h2 h3 h4;go_enter Tryz.func126,Tryz.ntmps126
 go_wp2;go_ret;exact⟨rfl,rfl⟩
theorem U7 (w:World)(p g N:Nat)(q:LQ)(h:yu w p g N q) :
  Calls Tryz.prog 111 #[.pointer (some ⟨p,0,none⟩)] w fun r w'=>r=.returned (.int .i64 ((N-q.l.length+1:Nat):Int))∧∃m,w'=w.drewN m:=by
 obtain⟨⟨e,h1⟩,-⟩:=h;have ll:=h1.ll;have n2:=h1.n2;obtain⟨n,hn⟩:∃n,n=q.l.length:=⟨_,rfl⟩
 rw[←hn] at ll ⊢;have hR:∀m,Calls Tryz.prog 127 #[.pointer (some ⟨p,2,none⟩)] (w.drewN m) fun r w'=>r=.returned (.int .i64 (N:Int))∧w'=w.drewN m:=fun m=>Ms _ _ _ _ _ _ _ (Z6 h1 m)
 have hL:∀m,Calls Tryz.prog 108 #[.pointer (some ⟨p,2,none⟩)] (w.drewN m) fun r w'=>r=.returned (.int .i64 (n:Int))∧w'=w.drewN m:=fun m=>by rw[hn];exact WJ _ _ _ _ _ _ _ (Z6 h1 m)
 have HR:=Qq hR;have HL:=Qq hL;clear hR hL h1 hn;go_enter Tryz.func111,Tryz.ntmps111
 go_wp2_with fail;go_quiet (first
  | (go_at_call 127;exact Calls.quiet_of_same (HR.out _))
  | (go_at_call 108;exact Calls.quiet_of_same (HL.out _)))
 go_wp2;go_ret;exact⟨Wx (by omega),_,rfl⟩
theorem Q7 (w:World)(p:Nat)(a:Option Addr)(c:Nat) :
  Calls Tryz.prog 109 #[.pointer (some ⟨p,0,none⟩),.slice a 0 c] w fun r w'=>r=.returned (Zh none)∧w'=w:=by
 go_enter Tryz.func109,Tryz.ntmps109
 go_wp2;go_ret2
 exact⟨rfl,rfl⟩
theorem UX (w:World)(p g N:Nat)(q:LQ)(a:Option Addr)(n c:Nat)(x:Int)(t:List Int)(h:yu w p g N q)(hr:zO w a c (x::t))(hn:n=t.length+1)(hd:∀y∈yf a,y≠p∧y≠g)(hl:q.l.length+t.length≤N) :
  Calls Tryz.prog 109 #[.pointer (some ⟨p,0,none⟩),.slice a n c] w fun r w'=>r=.returned (Zh (some x))∧yu w' p g N ⟨q.nx,q.l++t⟩∧zI [p,g] w w':=by
 have hll:=h.ll;obtain⟨a',hs1,hr1,hk1⟩:=XU YW Wj hr 1 (by simp)
 rw[show(x::t).length=n by rw[hn];rfl] at hs1
 simp only[QQ,QJ] at hr1;obtain⟨m,hm⟩:∃m,m=t.length:=⟨_,rfl⟩
 rw[show n-1=m by omega] at hs1
 rw[show n=m+1 by omega] at hs1 ⊢
 have H:=Qq h;have HR1:=Qq hr1;have HR:=Qq hr;have HD:=Qq hd;have HD1:Hid (∀y∈yf a',y≠p∧y≠g):=Qq (by rw[hk1];exact hd)
 have HL:Hid (q.l.length+t.length≤N):=Qq hl
 have hm1:m≤1024:=by omega
 have HM:=Qq hm;clear h hr1 hr hd hk1 hl hm hn hll;go_enter Tryz.func109,Tryz.ntmps109
 have hs1':∀w,(Instr.slice 23 (.slice a (m+1) c) (some (.int .i64 1)) none none).run Tryz.prog w=.ok (.slice a' m (c-1)) w:=hs1
 clear hs1;have hb0:((m:Int)+1==0)=false:=by rw[beq_eq_false_iff_ne];omega
 go_wp2_with fail;go_loopw [14] (fun iv wr=>∃i:Nat,i≤m∧iv=.int .i64 i∧Hid (yu wr p g N ⟨q.nx,q.l++t.take i⟩∧zI [p,g] w wr)) (fun iv _=>m-(intOf iv).toNat)
 case atStart=>exact⟨0,by omega,rfl,⟨by rw[QV,List.append_nil];exact H.out,zI.refl _ _⟩⟩
 case round =>
  obtain⟨i,hi,rfl,hr⟩:=hrel;by_cases hlt:i<m
  ·have hit:i<t.length:=by have:=HM.out;omega
   obtain⟨b9,o9,rfl,g9⟩:=(HR1.out.yC hr.out.2 (fun y hy=>by have:=HD1.out y hy;simp;omega)).ints i hit
   have hts:t.take (i+1)=t.take i++[t[i]]:=by rw[List.take_add_one,List.getElem?_eq_getElem hit];rfl
   have HTS:=Qq hts;clear hts
   generalize t[i]=y at g9 HTS
   have hli:(i:Int)<(m:Int):=by omega
   obtain⟨e,r1⟩:=hr.out.1.1;have R1:=Qq r1;clear r1
   go_wp2_with fail;refine(SN _ _ _ _ _ _ _ y R1.out (by have:=HL.out;simp only[List.length_append,List.length_take];omega)).mono ?_
   rintro r w1 ⟨rfl,k1,k2⟩;have h2:yu w1 p g N ⟨q.nx,q.l++t.take (i+1)⟩∧zI [p,g] w w1:=⟨by rw[HTS.out,←List.append_assoc];exact hr.out.1.ring k1 k2,hr.out.2.trans k2.yC (fun x hx=>.inl hx)⟩
   have H2:=Qq h2;clear h2 k1 k2
   go_wp2;exact⟨⟨i+1,by omega,by go_num,H2⟩,by simp[intOf];omega⟩
  ·obtain rfl:i=m:=by omega
   obtain⟨b9,o9,rfl,g9⟩:=(HR.out.yC hr.out.2 (fun y hy=>by have:=HD.out y hy;simp;omega)).ints 0 (by simp)
   simp only[List.getElem_cons_zero,Nat.add_zero] at g9;have h2:yu wr p g N ⟨q.nx,q.l++t⟩∧zI [p,g] w wr:=by
    have:=hr.out
    rwa [List.take_of_length_le (by have:=HM.out;omega)] at this
   have H2:=Qq h2;clear h2 hr
   go_wp2;go_ret2
   exact⟨rfl,H2.out⟩
theorem SR:∃j,Tryz.prog.info? 174=some j:=by
 cases h:Tryz.prog.info? 174 with
 | some j=>exact⟨j,rfl⟩
 | none =>
  have e:(Tryz.prog.info? 174).isSome=true:=by kernel_rfl
  rw[h] at e;cases e
theorem UK:∀j,Tryz.prog.info? 174=some j→j.size≠0:=fun j hj=>by
 have e:(Tryz.prog.info? 174).map (·.size)=some 5:=by kernel_rfl
 rw[hj] at e;simp at e;omega
theorem I4 (w:World)(p p2 g g2 N N2:Nat)(q f:LQ)(h:yu w p g N q)(h2:yu w p2 g2 N2 f)(hne:p2≠p) :
  (binOp .eql 122 (.pointer (some ⟨p2,0,none⟩)) (.pointer (some ⟨p,0,none⟩))).run Tryz.prog w=.ok (.bool false) w:=by
 obtain⟨⟨e,h1⟩,-⟩:=h;obtain⟨⟨e2,h3⟩,-⟩:=h2;obtain⟨ca,ta,k1⟩:=h1.pl;obtain⟨cb,tb,k2⟩:=h3.pl;obtain⟨j,hj⟩:=SR;exact run_eql_ptr_other w Tryz.underlying122 hj (UK j hj) (fun e=>hne (by injection e)) k2 k1
def mSteal (N:Nat)(q f:LQ):LQ×LQ×Option Int:=match f.l with
 | []=>(q,⟨none,[]⟩,f.nx)
 | x::t=>(⟨q.nx,q.l++(f.l.take (min ((f.l.length+1) / 2) (N-q.l.length+1))).tail⟩,⟨f.nx,f.l.drop (min ((f.l.length+1) / 2) (N-q.l.length+1))⟩,some x)
theorem Rh (w:World)(p:Nat) :
  Calls Tryz.prog 96 #[.pointer (some ⟨p,0,none⟩),.pointer (some ⟨p,0,none⟩)] w fun r w'=>r=.returned (Zh none)∧w'=w:=by
 have heq:=run_eql_ptr_same (P:=Tryz.prog) w (tp:=122) ⟨p,0,none⟩ Tryz.underlying122 SR.choose_spec
 go_enter Tryz.func96,Tryz.ntmps96
 go_wp2;go_ret2
 exact⟨rfl,rfl⟩
theorem Q3 (w:World)(p g N p2 g2 N2:Nat)(q f:LQ)(h:yu w p g N q)(h2:yu w p2 g2 N2 f)(d1:p≠p2)(d2:p≠g2)(d3:g≠p2)(d4:g≠g2) :
  Calls Tryz.prog 96 #[.pointer (some ⟨p,0,none⟩),.pointer (some ⟨p2,0,none⟩)] w fun r w'=>r=.returned (Zh (mSteal N q f).2.2)∧yu w' p g N (mSteal N q f).1∧yu w' p2 g2 N2 (mSteal N q f).2.1∧zI [p,g,p2,g2] w w':=by
 have H:=Qq h;have H2:=Qq h2;have hll:=h.ll;have hll2:=h2.ll;obtain⟨⟨e2,r2⟩,-⟩:=h2;have R2:=Qq r2;clear r2
 have HD:Hid (p≠p2∧p≠g2∧g≠p2∧g≠g2):=Qq ⟨d1,d2,d3,d4⟩
 have heq:=I4 w p p2 g g2 N N2 q f h H2.out (fun e=>d1 e.symm)
 obtain⟨fx,fl⟩:=f;cases fl with
 | nil =>
  simp only[mSteal];have hc:=fun w hw=>YD w p2 g2 N2 ⟨fx,[]⟩ hw
  have hlen:Calls Tryz.prog 108 #[.pointer (some ⟨p2,2,none⟩)] w fun r w'=>r=.returned (.int .i64 0)∧w'=w:=WJ _ _ _ _ _ _ _ R2.out
  have HLEN:=Qq hlen;clear hlen d2 d3 d4 hc h;have hgv:Value.tuple #[.int .i64 (LQ.num ⟨fx,[]⟩),.bool fx.isSome]=Zh fx:=rfl
  have HGV:=Qq hgv;clear hgv
  go_enter Tryz.func96,Tryz.ntmps96
  go_wp2_with fail;refine HLEN.out.mono ?_
  rintro r w1 ⟨rfl,rfl⟩;go_wp2_with fail;refine(YD _ p2 g2 N2 ⟨fx,[]⟩ H2.out).mono ?_
  rintro r w2 ⟨rfl,k1,k2⟩;have K1:=Qq k1;have K2:=Qq k2;clear k1 k2;go_wp2;go_ret2
  refine⟨rfl,H.out.yC K2.out (by have:=HD.out;simp;omega) (by have:=HD.out;simp;omega),K1.out,K2.out.mono (fun x hx=>by simp at hx ⊢;omega)⟩
 | cons x t =>
  simp only[mSteal];obtain⟨n,hn⟩:∃n,n=(x::t).length:=⟨_,rfl⟩
  obtain⟨mo,hmo⟩:∃mo,mo=N-q.l.length+1:=⟨_,rfl⟩
  obtain⟨hf,hhf⟩:∃hf,hf=(n+1) / 2:=⟨_,rfl⟩
  obtain⟨k,hk⟩:∃k,k=min hf mo:=⟨_,rfl⟩
  have hnt:n=t.length+1:=by rw[hn];rfl
  have hn2:n≤1024:=by have:=hll2.1;rw[←hn] at this;omega
  have hk1:1≤k∧k≤n:=by omega
  rw[←hn,←hhf,←hmo,←hk];have e1:(x::t).take k=x::t.take (k-1):=by
   obtain⟨j,rfl⟩:∃j,k=j+1:=⟨k-1,by omega⟩
   simp
  rw[e1,List.tail_cons];have hT:xk (k:Int) (x::t).length=k:=by rw[←hn];unfold xk;omega
  have hquo:((n:Int)+1).tdiv 2=(hf:Int):=by rw[hhf,Int.tdiv_eq_ediv_of_nonneg (by omega)];rfl
  have hcase:((hf:Int)≤(mo:Int)∧k=hf)∨((mo:Int)<(hf:Int)∧k=mo):=by omega
  have hw1:IntKind.i64.wrap ((n:Int)+1)=(n:Int)+1:=by rw[IntKind.wrap_i64];omega
  have hw2:IntKind.i64.wrap (hf:Int)=(hf:Int):=by rw[IntKind.wrap_i64];omega
  have hcl:∀w',Below w.heap.size w w'→Calls Tryz.prog 111 #[.pointer (some ⟨p,0,none⟩)] w' fun r w''=>r=.returned (.int .i64 (mo:Int))∧∃m,w''=w'.drewN m:=fun w' hb=>by rw[hmo];exact U7 w' p g N q (H.out.below hb)
  have hct:∀w',Below w.heap.size w w'→Calls Tryz.prog 110 #[.pointer (some ⟨p2,2,none⟩),.int .i64 (k:Int)] w' fun r w''=>∃bq e',r=.returned (.slice (some ⟨bq,0,none⟩) k k)∧w'.heap.size≤bq∧zO w'' (some ⟨bq,0,none⟩) k (x::t.take (k-1)) ∧
    yg w'' p2 2 g2 N2 e' ((x::t).drop k)∧xw p2 2 g2 w' w'':=fun w' hb=>by
   have:=Tc w' p2 2 g2 N2 e2 (x::t) (k:Int) (R2.out.below hb)
   rw[hT,e1] at this;exact this
  have hlen:Calls Tryz.prog 108 #[.pointer (some ⟨p2,2,none⟩)] w fun r w'=>r=.returned (.int .i64 (n:Int))∧w'=w:=by rw[hn];exact WJ _ _ _ _ _ _ _ R2.out
  have hnp:(0:Int)<(n:Int):=by omega
  have hlq:q.l.length+(t.take (k-1)).length≤N:=by rw[List.length_take];have:=hll.1;omega
  have hkt:k=(t.take (k-1)).length+1:=by rw[List.length_take];omega
  have HCL:=Qq hcl;have HCT:=Qq hct;have HLEN:=Qq hlen;have HLQ:=Qq hlq;have HKT:=Qq hkt;have hlt:=H.out.lt;have hlt2:=H2.out.lt;have HLT:Hid (p<w.heap.size∧g<w.heap.size):=Qq hlt
  generalize hD:(x::t).drop k=D at *
  generalize hE:t.take (k-1)=E at *
  clear hcl hct hlen hlq hkt e1 hT hk1 hnt hn hmo hhf hk h hll hll2 hlt hlt2 d1 d2 d3 d4 R2 hD hE;rcases hcase with⟨hle,rfl⟩|⟨hle,rfl⟩
  all_goals
   go_enter Tryz.func96,Tryz.ntmps96
   go_wp2_with fail;refine HLEN.out.mono ?_
   rintro r w1 ⟨rfl,rfl⟩;go_wp2_with fail;go_region_with (first
    | (go_at_call 111;refine(HCL.out w1.drew (zg w1)).mono ?_;rintro r w2 ⟨rfl,mq,rfl⟩)
    | (go_at_call 110;(first|(with_reducible refine(HCT.out (w1.drew.drewN mq) (below_drewN (zg _) _)).mono ?_)|(with_reducible refine(HCT.out (w1.drewN (mq+1)) (below_drewN (Below.refl _ _) _)).mono ?_)|(with_reducible refine(HCT.out (w1.drewN (1+mq)) (below_drewN (Below.refl _ _) _)).mono ?_));rintro r w3 ⟨bq,eq,rfl,k3,k4,k5,k6⟩)
    | (go_at_call 109;refine(UX w3 p g N q _ _ _ x E ((H.out.below (by first|exact below_drewN (zg _) mq|exact below_drewN (Below.refl _ _) _)).yC k6.yC (by have:=HD.out;simp;omega) (by have:=HD.out;simp;omega)) k4 HKT.out (fun y hy=>by simp[yf] at hy;have:=HLT.out;simp at k3;omega) HLQ.out).mono ?_;simp only[Zh,Option.getD_some,Option.isSome_some];rintro r w4 ⟨rfl,k7,k8⟩))
   all_goals
    have b1:Below w1.heap.size w1 (w1.drewN (1+mq)):=below_drewN (Below.refl _ _) _
    have L2:=((H2.out.below b1).ring k5 k6).yC k8 (by have:=HD.out;simp;omega) (by have:=HD.out;simp;omega)
    have C4:zI [p,g,p2,g2] w1 w4:=(((zI.zK (F:=[p,g,p2,g2]) b1).trans k6.yC (fun y hy=>by simp at hy;simp;omega))).trans k8 (fun y hy=>by simp at hy;simp;omega)
    have HL2:=Qq L2;have HC4:=Qq C4;have HK7:=Qq k7;clear b1 L2 C4 k3 k4 k5 k6 k7 k8;go_wp2;go_ret2
    exact⟨rfl,HK7.out,HL2.out,HC4.out⟩
theorem Nt (w:World)(b:Gp)(gl:List Int)(F:List Nat)(h:xf w b gl F)(hl:gl.length≤1000000) :
  Calls Tryz.prog 42 #[.pointer (some ⟨b.b,14,none⟩)] w fun r w'=>∃a' c',r=.returned (.slice a' gl.length c')∧zO w' a' c' gl∧(∀x∈yf a',w.heap.size≤x)∧Below w.heap.size w w':=by
 obtain⟨a0,cap,rfl,h2,h3,h4⟩:=h;obtain⟨g0,f0⟩:=h3 14 _ rfl;have hc:=Tv w a0 gl.length cap gl h4.ints rfl hl (fun e=>by
  rcases h4.2.2 with⟨_,h⟩|⟨_,_,h,_⟩
  ·exact h
  ·rw[e] at h;cases h)
 have HC:=Qq hc;clear hc h2 h3 h4 f0;go_enter Tryz.func42,Tryz.ntmps42
 go_wp2_with fail;refine HC.out.mono ?_
 rintro r w1 ⟨a',c',rfl,k⟩;have K:=Qq k;clear k
 go_wp2;go_ret;exact⟨a',c',rfl,K.out⟩
theorem U6 (w:World)(b:Gp)(gl:List Int)(F:List Nat)(k:Int)(h:xf w b gl F)(hl:gl.length≤1000000) :
  Calls Tryz.prog 106 #[.pointer (some ⟨b.b,14,none⟩),.int .i64 k] w fun r w'=>∃a' c',r=.returned (.slice a' (xk k gl.length) c')∧zO w' a' c' (gl.take (xk k gl.length))∧(∀x∈yf a',w.heap.size≤x) ∧
   xf w' b (gl.drop (xk k gl.length)) F∧zI F w w':=by
 have hFlt:=h.lt;obtain⟨a0,cap,rfl,h2,h3,h4⟩:=h;obtain⟨K,hK⟩:∃K,K=xk k gl.length:=⟨_,rfl⟩
 have hKl:=Rb k gl.length;have hV:(K=0∧k<0)∨(K=0∧k=0)∨(k=(K:Int)∧0<K∧K<gl.length)∨(K=gl.length∧0<gl.length∧k=(gl.length:Int))∨(K=gl.length∧0<gl.length∧(gl.length:Int)<k)∨(K=0∧gl.length=0∧0<k):=by rw[hK];unfold xk;omega
 rw[←hK] at hKl ⊢;obtain⟨a1,hs1,hr1,hk1⟩:=XU YW Wj h4 K hKl;have hcap:=h4.1;have hs0:∀w',(Instr.slice 23 (.slice a0 gl.length cap) none (some (.int .i64 (K:Int))) none).run Tryz.prog w'=.ok (.slice a0 K cap) w':=fun w'=>xS w' YW Wj a0 gl.length cap K (by omega)
 have hc:=Tv w a0 K cap (gl.take K) (h4.take K).ints (by rw[List.length_take];omega) (by omega) (fun e=>by
  rcases h4.2.2 with⟨_,h⟩|⟨_,_,h,_⟩
  ·exact h
  ·rw[e] at h;cases h)
 have HC:=Qq hc;have H2:=Qq h2;have H3:=Qq h3;have HR1:=Qq hr1;have HK1:=Qq hk1;have HF:=Qq hFlt;obtain⟨g0,f0⟩:=h3 14 _ rfl;have hld:(gl.drop K).length=gl.length-K:=List.length_drop
 have HLD:=Qq hld;clear hc h2 h3 h4 hr1 hk1 hK hcap hld hFlt;obtain⟨n,hn⟩:∃n,n=gl.length:=⟨_,rfl⟩
 rw[←hn] at hV hs1 hs0 g0 hKl hl HLD;have HN:=Qq hn;clear hn
 go_enter Tryz.func106,Tryz.ntmps106
 go_upto_region 1 with fail
 go_cut [1] (fun s1 wx=>s1=.int .i64 (K:Int)∧Hid (wx=w))
 case first =>
  clear hs0 hs1;rcases hV with⟨rfl,hz⟩|⟨rfl,rfl⟩|⟨rfl,hz,hz'⟩|⟨rfl,hz,rfl⟩|⟨rfl,hz,hz'⟩|⟨rfl,rfl,hz⟩
  all_goals
   go_wp2_with fail;go_meet;exact⟨rfl,rfl⟩
 obtain⟨rfl,hr⟩:=hcut;obtain rfl:w=wc:=hr.out.symm
 clear hV hr;go_wp2_with fail;refine HC.out.mono ?_
 rintro r w1 ⟨a',c',rfl,k1,k2,b1⟩;have B1:=(H3.out).below b1
 obtain⟨g1,f1⟩:=B1 14 _ rfl;have hlt:=HF.out;have cs:zI [b.b] w1 (w1.setCell ⟨b.b,14,none⟩ (.slice a1 (n-K) (cap-K))):=(zI.refl _ _).setCell _ (.inl (by simp))
 have hfin:zO (w1.setCell ⟨b.b,14,none⟩ (.slice a1 (n-K) (cap-K))) a' c' (gl.take K)∧(∀x∈yf a',w.heap.size≤x)∧xf (w1.setCell ⟨b.b,14,none⟩ (.slice a1 (n-K) (cap-K))) b (gl.drop K) (b.b::yf a0)∧zI (b.b::yf a0) w (w1.setCell ⟨b.b,14,none⟩ (.slice a1 (n-K) (cap-K))):=by
  refine⟨k1.yC cs (fun x hx=>by have:=k2 x hx;have:=hlt b.b (by simp);simp;omega),k2,⟨a1,cap-K,by rw[HK1.out],by rw[HK1.out];exact H2.out,?_,(HR1.out.below b1).yC cs (fun x hx=>by rw[HK1.out] at hx;simp;intro e;subst e;exact H2.out hx)⟩,(zI.zK b1).trans cs (fun x hx=>.inl (by simp at hx;simp[hx]))⟩
  rw[HLD.out];exact B1.set 14 _
 have HFIN:=Qq hfin;have hcell:w1.cell? ⟨b.b,14,none⟩=some (.slice a0 n cap):=by rw[HN.out];exact g1
 clear hfin B1 g1 cs k1 k2 b1 hlt;go_wp2;go_ret;exact⟨a',c',rfl,HFIN.out⟩
def YN (N:Nat)(q:LQ)(gl:List Int)(k:Int):Nat:=min (if 0<k then 1+gl.length / k.toNat else 1) (N-q.l.length+1)
def mFetch (N:Nat)(q:LQ)(gl:List Int)(k:Int):LQ×List Int×Option Int:=match gl with
 | []=>(q,[],none)
 | x::t=>(⟨q.nx,q.l++(gl.take (YN N q gl k)).tail⟩,gl.drop (YN N q gl k),some x)
theorem PB (N:Nat)(q:LQ)(gl:List Int)(k:Int):1≤YN N q gl k:=by unfold YN;generalize gl.length / k.toNat=d;split<;>omega
theorem QE (w:World)(p g N:Nat)(b:Gp)(q:LQ)(gl:List Int)(F:List Nat)(k:Int)(h:yu w p g N q)(hg:xf w b gl F)(hp:p∉F)(hgF:g∉F)(hl:gl.length≤1000000) :
  Calls Tryz.prog 107 #[.pointer (some ⟨p,0,none⟩),.pointer (some ⟨b.b,14,none⟩),.int .i64 k] w fun r w'=>r=.returned (Zh (mFetch N q gl k).2.2)∧yu w' p g N (mFetch N q gl k).1 ∧
   zI (p::g::F) w w'∧xf w' b (mFetch N q gl k).2.1 F:=by
 obtain⟨S,hS⟩:∃S,S=if 0<k then 1+gl.length / k.toNat else 1:=⟨_,rfl⟩
 obtain⟨M,hM⟩:∃M,M=N-q.l.length+1:=⟨_,rfl⟩
 obtain⟨m,hm⟩:∃m,m=min S M:=⟨_,rfl⟩
 have hms:YN N q gl k=m:=by unfold YN;rw[←hS,←hM,←hm]
 have hS1:1≤S:=by rw[hS];generalize gl.length / k.toNat=d;split<;>omega
 have hll:=h.ll;have hSb:S≤gl.length+1:=by
  rw[hS];split
  ·have:=Nat.div_le_self gl.length k.toNat;omega
  ·omega
 have hM2:M≤1025:=by omega
 have hcase:((S:Int)≤(M:Int)∧m=S)∨((M:Int)<(S:Int)∧m=M):=by omega
 have hm1:1≤m:=by omega
 obtain⟨T,hT⟩:∃T,T=xk (m:Int) gl.length:=⟨_,rfl⟩
 have hTl:T=min m gl.length:=by rw[hT];rfl
 have hpl:=h.lt;have hFl:=hg.lt;have cG:Calls Tryz.prog 126 #[.pointer (some ⟨b.b,14,none⟩)] w fun r w'=>r=.returned (.int .i64 (gl.length:Int))∧w'=w:=Kj w b gl F hg
 have cM:Calls Tryz.prog 111 #[.pointer (some ⟨p,0,none⟩)] w fun r w'=>r=.returned (.int .i64 (M:Int))∧∃j,w'=w.drewN j:=by rw[hM];exact U7 w p g N q h
 have cT:∀j,Calls Tryz.prog 106 #[.pointer (some ⟨b.b,14,none⟩),.int .i64 (m:Int)] (w.drewN j) fun r w'=>∃a' c',r=.returned (.slice a' T c')∧zO w' a' c' (gl.take T)∧(∀x∈yf a',w.heap.size≤x)∧xf w' b (gl.drop T) F∧zI F w w':=fun j=>by
  refine(U6 (w.drewN j) b gl F (m:Int) (hg.below (below_drewN (Below.refl _ _) j)) hl).mono ?_
  rw[←hT];rintro r w' ⟨a',c',e1,k1,k2,k3,k4⟩;exact⟨a',c',e1,k1,k2,k3,(zI.zK (below_drewN (Below.refl _ _) j)).trans k4 (fun x hx=>.inl hx)⟩
 have cO:∀w1 a' c',zO w1 a' c' (gl.take T)→(∀x∈yf a',w.heap.size≤x)→zI F w w1→Calls Tryz.prog 109 #[.pointer (some ⟨p,0,none⟩),.slice a' T c'] w1 fun r w'=>r=.returned (Zh (mFetch N q gl k).2.2)∧yu w' p g N (mFetch N q gl k).1∧zI [p,g] w1 w':=fun w1 a' c' k1 k2 k4=>by
  have hL1:=h.yC k4 hp hgF;cases gl with
  | nil =>
   obtain rfl:T=0:=by rw[hTl];simp
   exact(Q7 w1 p a' c').mono (by rintro r w' ⟨rfl,rfl⟩;exact⟨rfl,hL1,zI.refl _ _⟩)
  | cons x t =>
   simp only[mFetch,hms];obtain⟨T',rfl⟩:∃T',T=T'+1:=⟨T-1,by simp at hTl;omega⟩
   have e:(x::t).take m=x::t.take T':=by
    obtain⟨m',rfl⟩:∃m',m=m'+1:=⟨m-1,by omega⟩
    rw[QX];congr 1
    simp at hTl
    rw[List.take_eq_take_iff];omega
   rw[e,List.tail_cons];rw[QX] at k1;refine UX w1 p g N q a' (T'+1) c' x (t.take T') hL1 k1 (by rw[List.length_take];simp at hTl;omega) (fun y hy=>by have:=k2 y hy;omega) (by rw[List.length_take];omega)
 have hdrop:gl.drop T=(mFetch N q gl k).2.1:=by
  cases gl with
  | nil=>simp[mFetch]
  | cons x t =>
   simp only[mFetch,hms];by_cases e:m≤(x::t).length
   ·rw[show T=m by omega]
   ·rw[List.drop_of_length_le (by omega),List.drop_of_length_le (by omega)]
 have hfin:∀w1 w2,xf w1 b (gl.drop T) F→zI F w w1→zI [p,g] w1 w2→zI (p::g::F) w w2∧xf w2 b (mFetch N q gl k).2.1 F:=fun w1 w2 k1 k2 k3=>by
  refine⟨(k2.mono (fun x hx=>by simp[hx])).trans k3 (fun x hx=>.inl (by simp at hx;simp;omega)),?_⟩
  rw[←hdrop];exact k1.yC k3 (fun x hx hc=>by simp at hc;rcases hc with rfl|rfl;exact hp hx;exact hgF hx)
 generalize (mFetch N q gl k).2.2=V at *
 generalize (mFetch N q gl k).2.1=GL at *
 generalize (mFetch N q gl k).1=Q at *
 have CG:=Qq cG;have CM:=Qq cM;have CT:=Qq cT;have CO:=Qq cO;have HFIN:=Qq hfin;clear cG cM cT cO hfin hdrop hTl hT hms hll hpl hFl hm1 h hg hp hgF hm hM;obtain⟨n,hn⟩:∃n,n=gl.length:=⟨_,rfl⟩
 have hk:(0<k∧∃d:Nat,(n:Int).tdiv k=(d:Int)∧S=1+d∧d≤n)∨(¬0<k∧S=1):=by
  rw[←hn] at hS;by_cases h0:0<k
  ·left
   rw[if_pos h0] at hS;obtain⟨kk,rfl⟩:=Int.eq_ofNat_of_zero_le (show 0≤k by omega)
   exact⟨h0,n / kk,by rw[Int.tdiv_eq_ediv_of_nonneg (by omega)];rfl,hS,Nat.div_le_self _ _⟩
  ·exact .inr ⟨h0,by rw[if_neg h0] at hS;exact hS⟩
 rw[←hn] at CG hl hSb;clear hS hn;have HCA:Hid (((S:Int)≤(M:Int)∧m=S)∨((M:Int)<(S:Int)∧m=M)):=hcase
 clear hcase;rcases hk with⟨hk0,d,hd,rfl,hdn⟩|⟨hk0,rfl⟩
 ·have hw1:IntKind.i64.wrap (d:Int)=(d:Int):=by rw[IntKind.wrap_i64];omega
  have hb0:(k==0)=false:=by rw[beq_eq_false_iff_ne];omega
  go_enter Tryz.func107,Tryz.ntmps107
  go_wp2_with fail;refine CG.out.mono ?_
  rintro r w1 ⟨rfl,rfl⟩;go_wp2_with fail;refine CM.out.mono ?_
  rintro r w2 ⟨rfl,mq,rfl⟩;rcases HCA.out with⟨hle,rfl⟩|⟨hle,rfl⟩
  all_goals
   have CT':=Qq (CT.out mq)
   try rw[show((1+d:Nat):Int)=1+(d:Int) by omega] at CT'
   go_wp2_with fail;refine CT'.out.mono ?_
   rintro r w3 ⟨a',c',rfl,k1,k2,k3,k4⟩;have c5:=CO.out _ _ _ k1 k2 k4;simp only[Zh] at c5 ⊢
   have C5:=Qq c5;have K3:=Qq k3;have K4:=Qq k4;clear k1 k2 k3 k4 c5;go_wp2_with fail;refine C5.out.mono ?_
   rintro r w4 ⟨rfl,k5,k6⟩;have K5:=Qq k5;have K6:=Qq (HFIN.out _ _ K3.out K4.out k6)
   clear k5 k6;go_wp2;go_ret2
   exact⟨rfl,K5.out,K6.out⟩
 ·go_enter Tryz.func107,Tryz.ntmps107
  go_wp2_with fail;refine CM.out.mono ?_
  rintro r w2 ⟨rfl,mq,rfl⟩;rcases HCA.out with⟨hle,rfl⟩|⟨hle,rfl⟩
  all_goals
   have CT':=Qq (CT.out mq)
   try rw[show((1:Nat):Int)=1 by rfl] at CT'
   go_wp2_with fail;refine CT'.out.mono ?_
   rintro r w3 ⟨a',c',rfl,k1,k2,k3,k4⟩;have c5:=CO.out _ _ _ k1 k2 k4;simp only[Zh] at c5 ⊢
   have C5:=Qq c5;have K3:=Qq k3;have K4:=Qq k4;clear k1 k2 k3 k4 c5;go_wp2_with fail;refine C5.out.mono ?_
   rintro r w4 ⟨rfl,k5,k6⟩;have K5:=Qq k5;have K6:=Qq (HFIN.out _ _ K3.out K4.out k6)
   clear k5 k6;go_wp2;go_ret2
   exact⟨rfl,K5.out,K6.out⟩
section
variable {P:Program} {ops:Array Oper} {Q:Exit→Act→World→Prop} {S:World→Prop}
def xn (P:Program)(ops:Array Oper)(S:World→Prop)(K:Act→Prop):List Oper→Act→Prop
 | [],a=>K a
 | o::l,a=>(Region.wanted o (yielded ops a.tmps)=true∧∃v,(∀w,S w→(execOp a.eval o).run P w=.ok (.value v) w)∧xn P ops S K l (a.put o.dst v)) ∨
  (Region.wanted o (yielded ops a.tmps)=false∧xn P ops S K l (a.put o.dst undef))
theorem zb {K:Act→Prop}{a:Act}(h:K a):xn P ops S K [] a:=h
theorem VO {K:Act→Prop}{a:Act}{o:Oper}{l:List Oper}(hw:Region.wanted o (yielded ops a.tmps)=true)(h:∃v,(∀w,S w→(execOp a.eval o).run P w=.ok (.value v) w)∧xn P ops S K l (a.put o.dst v)):xn P ops S K (o::l) a:=.inl ⟨hw,h⟩
theorem Nx {K:Act→Prop}{a:Act}{o:Oper}{l:List Oper}(hw:Region.wanted o (yielded ops a.tmps)=false)(h:xn P ops S K l (a.put o.dst undef)):xn P ops S K (o::l) a:=.inr ⟨hw,h⟩
theorem Qx {K:Act→Prop}{a:Act}{o:Oper}{l:List Oper}(hw:Region.wanted o (yielded ops a.tmps)=false:=by rfl)(h:xn P ops S K l (a.put o.dst undef)):xn P ops S K (o::l) a:=Nx hw h
theorem Qv {K:Act→Prop}{a:Act}{o:Oper}{l:List Oper}{v:Value}(hw:Region.wanted o (yielded ops a.tmps)=true:=by rfl)(hv:∀w,S w→(execOp a.eval o).run P w=.ok (.value v) w:=by intro wx hS;(try dsimp only at hS);go_simp;first|done|with_reducible rfl)(h:xn P ops S K l (a.put o.dst v)):xn P ops S K (o::l) a:=VO hw ⟨v,hv,h⟩
theorem Qw {K:Act→Prop}{a:Act}{o:Oper}{l:List Oper}{v:Value}(hw:Region.wanted o (yielded ops a.tmps)=true:=by rfl)(hv:∀w,S w→(execOp a.eval o).run P w=.ok (.value v) w:=by rintro wx ⟨nq,rfl⟩;go_simp;first|done|with_reducible rfl)(h:xn P ops S K l (a.put o.dst v)):xn P ops S K (o::l) a:=VO hw ⟨v,hv,h⟩
def segB (ops:Array Oper):Nat→Nat→Array Bool→Bool
 | 0,_,_=>true
 | f+1,k,listed=>(Region.ready .any ops listed).contains k&&Region.free .any ops listed k&&segB ops f (k+1) (listed.setIfInBounds k true)
def marks:Nat→Nat→Array Bool→Array Bool
 | 0,_,listed=>listed
 | f+1,k,listed=>marks f (k+1) (listed.setIfInBounds k true)
theorem Xj (hs:Region.noSelect ops=true)(hQ:∀(d:Option Tmp) (v:Value) c a w,Q (.panic c) (a.put d v) w→Q (.panic c) a w)(fuel:Nat)(w:World)(hS:S w) :
  ∀(l:List Oper) (k:Nat) (listed:Array Bool) (a:Act),(∀j,j<l.length→l[j]?=ops[k+j]?)→segB ops l.length k listed=true →
   xn P ops S (fun a'=>wpAnyH P .any ops Q S fuel (marks l.length k listed) a' w) l a→wpAnyH P .any ops Q S (l.length+fuel) listed a w
 | [],k,listed,a,_,_,h=>by rw[List.length_nil,Nat.zero_add];exact h
 | o::l,k,listed,a,hl,hB,h=>by
  have h0:ops[k]?=some o:=by simpa using (hl 0 (by simp)).symm
  simp only[List.length_cons,segB,Bool.and_eq_true] at hB;obtain⟨⟨hr,hf⟩,hB⟩:=hB;have hl':∀j,j<l.length→l[j]?=ops[k+1+j]?:=fun j hj=>by have:=hl (j+1) (by simp;omega);simpa [Nat.add_assoc,Nat.add_comm 1 j] using this
  rw[List.length_cons,show l.length+1+fuel=(l.length+fuel)+1 by omega]
  rcases h with⟨hw,v,hv,h⟩|⟨hw,h⟩
  ·exact wpAnyH_take h0 hs hf hr (fun c a w=>hQ o.dst v c a w) (.inl ⟨hw,hv⟩) hS (Xj hs hQ fuel w hS l (k+1) _ _ hl' hB h)
  ·exact wpAnyH_take h0 hs hf hr (fun c a w=>hQ o.dst undef c a w) (.inr ⟨hw,rfl⟩) hS (Xj hs hQ fuel w hS l (k+1) _ _ hl' hB h)
theorem zq {l:List Oper}(k n:Nat)(listed listed':Array Bool)(fuel:Nat){a:Act}{w:World}(hs:Region.noSelect l.toArray=true)(hQ:∀(d:Option Tmp) (v:Value) c a w,Q (.panic c) (a.put d v) w→Q (.panic c) a w)(hS:S w)
  (hB:(segB l.toArray n k listed&&decide (k+n≤l.length)&&(marks n k listed==listed'))=true) (h:xn P l.toArray S (fun a'=>wpAnyH P .any l.toArray Q S fuel listed' a' w) ((l.drop k).take n) a):wpAnyH P .any l.toArray Q S (n+fuel) listed a w:=by
 simp only[Bool.and_eq_true,decide_eq_true_eq,beq_iff_eq] at hB;obtain⟨⟨hB,hn⟩,rfl⟩:=hB;have hln:((l.drop k).take n).length=n:=by rw[List.length_take,List.length_drop];omega
 have:=Xj (P:=P) (Q:=Q) (S:=S) hs hQ fuel w hS ((l.drop k).take n) k listed a (fun j hj=>by
  rw[hln] at hj;rw[List.getElem?_take,if_pos hj,List.getElem?_drop];simp) (by rw[hln];exact hB) (by rw[hln];exact h)
 rwa [hln] at this
def Zq (P:Program)(ops:Array Oper)(Q:Exit→Act→World→Prop)(K:Act→World→Prop)(a:Act)(w:World):List Oper→Prop
 | []=>False
 | o::_=>Region.wanted o (yielded ops a.tmps)=true∧o.wp P a w K Q
theorem zc {K:Act→World→Prop}{a:Act}{w:World}{o:Oper}{l:List Oper}(hw:Region.wanted o (yielded ops a.tmps)=true)(h:o.wp P a w K Q):Zq P ops Q K a w (o::l):=⟨hw,h⟩
theorem zn {l:List Oper}(k:Nat)(listed listed':Array Bool)(fuel:Nat){a:Act}{w:World}(hB:(decide (Region.ready .any l.toArray listed=[k])&&(listed.setIfInBounds k true==listed'))=true)
  (h:∀K:Act→World→Prop,(∀a' w',S w'→wpAnyH P .any l.toArray Q S fuel listed' a' w'→K a' w')→Zq P l.toArray Q K a w (l.drop k)):wpAnyH P .any l.toArray Q S (fuel+1) listed a w:=by
 simp only[Bool.and_eq_true,decide_eq_true_eq,beq_iff_eq] at hB;obtain⟨hr,rfl⟩:=hB;refine wpAnyH_all hr (by simp) (fun i hi=>?_)
 have hik:i=k:=by simpa using hi
 subst hik;have h1:=h (fun a' w'=>S w'∧wpAnyH P .any l.toArray Q S fuel (listed.setIfInBounds i true) a' w') (fun a' w' h2 h3=>⟨h2,h3⟩)
 cases hd:l.drop i with
 | nil=>rw[hd] at h1;exact h1.elim
 | cons o r =>
  rw[hd] at h1;have h0:l.toArray[i]?=some o:=by
   have:(l.drop i)[0]?=some o:=by rw[hd];rfl
   rw[List.getElem?_drop] at this
   simpa using this
  unfold wpOp;simp only[h0];rw[if_pos h1.1];exact .inl h1.2
theorem yd {id:Nat}{a:Act}{w:World}{l:List Oper}(S:World→Prop)(fuel:Nat)(listed:Array Bool)(hm:P.follows .mixedOrders=true)(hB:(decide (l.length=fuel)&&(Array.replicate l.length false==listed))=true)
  (h:wpAnyH P .any l.toArray (NoPanic Q) S fuel listed a w.drew):(Code.region id l.toArray true).wp P Q a w:=by
 simp only[Bool.and_eq_true,decide_eq_true_eq,beq_iff_eq] at hB;obtain⟨rfl,rfl⟩:=hB;exact wp_region_noPanic (wp_region_held hm (by simpa using h))
theorem za (d:Option Tmp)(v:Value)(c:_)(a:Act)(w:World):NoPanic Q (.panic c) (a.put d v) w→NoPanic Q (.panic c) a w:=fun h=>h
end
end Go.Proofs.YtlkjheheofgdgaaGreat
open Go Go.RowKit
namespace Go.Proofs.YtlkjheheofgdgaaGreat
section
variable {P:Program} {Q:Exit→Act→World→Prop} {S:World→Prop}
theorem yJ {l:List Oper}(k k':Nat)(listed listed' listed'':Array Bool)(fuel:Nat){a:Act}{w:World}(hB:(decide (Region.ready .any l.toArray listed=[k,k'])&&(listed.setIfInBounds k true==listed')&&(listed.setIfInBounds k' true==listed''))=true)
  (h1:∀K:Act→World→Prop,(∀a' w',S w'→wpAnyH P .any l.toArray Q S fuel listed' a' w'→K a' w')→Zq P l.toArray Q K a w (l.drop k))
  (h2:∀K:Act→World→Prop,(∀a' w',S w'→wpAnyH P .any l.toArray Q S fuel listed'' a' w'→K a' w')→Zq P l.toArray Q K a w (l.drop k')):wpAnyH P .any l.toArray Q S (fuel+1) listed a w:=by
 simp only[Bool.and_eq_true,decide_eq_true_eq,beq_iff_eq] at hB;obtain⟨⟨hr,rfl⟩,rfl⟩:=hB;refine wpAnyH_all hr (by simp) (fun i hi=>?_)
 have h:∀K:Act→World→Prop,(∀a' w',S w'→wpAnyH P .any l.toArray Q S fuel (listed.setIfInBounds i true) a' w'→K a' w')→Zq P l.toArray Q K a w (l.drop i):=by
  have hik:i=k∨i=k':=by simpa using hi
  rcases hik with rfl|rfl
  ·exact h1
  ·exact h2
 have h1:=h (fun a' w'=>S w'∧wpAnyH P .any l.toArray Q S fuel (listed.setIfInBounds i true) a' w') (fun a' w' h2 h3=>⟨h2,h3⟩)
 cases hd:l.drop i with
 | nil=>rw[hd] at h1;exact h1.elim
 | cons o r =>
  rw[hd] at h1;have h0:l.toArray[i]?=some o:=by
   have:(l.drop i)[0]?=some o:=by rw[hd];rfl
   rw[List.getElem?_drop] at this
   simpa using this
  unfold wpOp;simp only[h0];rw[if_pos h1.1];exact .inl h1.2
end
end Go.Proofs.YtlkjheheofgdgaaGreat
open Go Go.RowKit
namespace Go.Proofs.YtlkjheheofgdgaaGreat
section
variable {P:Program} {ops:Array Oper} {Q:Exit→Act→World→Prop} {S:World→Prop} {md:Region.Mode}
def XA (md:Region.Mode)(ops:Array Oper)(K i:Nat):Bool:=(List.range ops.size).all fun j=>decide (j<K)||(match ops[j]? with
 | some o=>o.after.any fun e=>Region.binds md e&&e.on==i
 | none=>false)
def Zf (P:Program)(md:Region.Mode)(ops:Array Oper)(Q:Exit→Act→World→Prop)(S:World→Prop)(K:Nat):Nat→Array Bool→Act→World→Prop
 | 0,listed,a,w=>Region.ready md ops listed=[]∧Q .normal a w
 | fuel+1,listed,a,w =>
  (Region.ready md ops listed=[]→Q .normal a w) ∧
  ∀i∈Region.ready md ops listed,wpOp P ops Q i (fun a' w'=>(K≤i∨(S w→S w'))∧Zf P md ops Q S K fuel (listed.setIfInBounds i true) a' w') a w
theorem UA {K:Nat}:∀(fuel:Nat) (listed:Array Bool) (a:Act) (w:World),Zf P md ops Q S K fuel listed a w→wpAny P md ops Q fuel listed a w
 | 0,_,_,_,h=>h
 | fuel+1,_,_,_,h=>⟨h.1,fun i hi=>wpOp_mono (fun a' w' h'=>UA fuel _ a' w' h'.2) (h.2 i hi)⟩
theorem QS {K i j:Nat}{listed:Array Bool}(hj:j∈Region.ready md ops listed)(hi:i∈Region.ready md ops listed)(hK:K≤j)(he:XA md ops K i=true):False:=by
 obtain⟨_,oj,hoj,hall⟩:=mem_ready.1 hj;have hjl:j<ops.size:=(Array.getElem?_eq_some_iff.1 hoj).1
 unfold XA at he;rw[List.all_eq_true] at he;have h1:=he j (List.mem_range.2 hjl)
 rw[hoj,Bool.or_eq_true] at h1;rcases h1 with h1|h1
 ·have:=of_decide_eq_true h1;omega
 ·obtain⟨e,he1,he2⟩:=Array.any_eq_true'.1 h1
  rw[Bool.and_eq_true] at he2;have h2:=hall e he1 he2.1;have h3:e.on=i:=by simpa using he2.2
  rw[h3] at h2;have h0:=(mem_ready.1 hi).1
  rcases Nat.lt_or_ge i listed.size with h'|h'
  ·simp[h'] at h0 h2;rw[h0] at h2;cases h2
  ·simp[Array.getElem?_eq_none h'] at h2
theorem YP {K i:Nat}{oi:Oper}{v:Value}{T:World→Prop}(hi:ops[i]?=some oi)(hsel:∀(j:Nat) (o:Oper) cs b,ops[j]?=some o→o.op≠.select cs b)
  (hQ:∀c a w,Q (.panic c) (a.put oi.dst v) w→Q (.panic c) a w) (hT:(T=S∧XA md ops K i=true)∨∀w,T w) :
  ∀(fuel:Nat) (listed:Array Bool) (a:Act) (w:World),
   (∀j oj,ops[j]?=some oj→j≠i→listed.getD j true=false→(∀e∈oj.after,Region.binds md e=true→e.on≠i)→oi.apart ops oj=true) →
   i∈Region.ready md ops listed→YieldsIf P ops T oi v a→T w →
   Zf P md ops Q S K fuel (listed.setIfInBounds i true) (a.put oi.dst v) w→Zf P md ops Q S K (fuel+1) listed a w
 | 0,listed,a,w,_,hr,hy,hS,H=>by
  refine⟨fun h=>(by rw[h] at hr;cases hr),fun j hj=>?_⟩
  by_cases hji:j=i
  ·subst hji;exact hy.wpOp hi hS ⟨.inr id,H⟩
  ·have:=ready_mono hj hji
   rw[H.1] at this;cases this
 | fuel+1,listed,a,w,hfree,hr,hy,hS,H=>by
  refine⟨fun h=>(by rw[h] at hr;cases hr),fun j hj=>?_⟩
  by_cases hji:j=i
  ·subst hji;exact hy.wpOp hi hS ⟨.inr id,H⟩
  ·have h1:=H.2 j (ready_mono hj hji)
   obtain⟨hjun,oj,hoj,hall⟩:=mem_ready.1 hj;have hnot:∀e∈oj.after,Region.binds md e=true→e.on≠i:=fun e he hb heq=>by
    have h2:=hall e he hb;have h0:=(mem_ready.1 hr).1
    rw[heq] at h2;rcases Nat.lt_or_ge i listed.size with h'|h'
    ·simp[h'] at h0 h2;rw[h0] at h2;cases h2
    ·simp[Array.getElem?_eq_none h'] at h2
   refine wpOp_mono (fun a' w' h3=>?_) (wpOp_putIf hoj (hfree j oj hoj hji hjun hnot) (fun cs b=>hsel i oi cs b hi) (fun cs b=>hsel j oj cs b hoj) hQ hy h1)
   have hS':T w':=by
    rcases hT with⟨rfl,hw⟩|hT
    ·rcases h3.2.1 with h4|h4
     ·exact(QS hj hr h4 hw).elim
     ·exact h4 hS
    ·exact hT w'
   refine⟨h3.2.1,YP hi hsel hQ hT fuel (listed.setIfInBounds j true) a' w' (fun k ok hk hki hun hno=>hfree k ok hk hki ?_ hno) (ready_mono hr (Ne.symm hji)) h3.1 hS' ?_⟩
   ·by_cases hjk:j=k
    ·subst hjk;exact hjun
    ·rw[getD_set_ne true hjk] at hun;exact hun
   ·rw[Array.setIfInBounds_comm _ _ hji]
    exact h3.2.2
theorem Yo {K:Nat}{T:World→Prop}(hs:Region.noSelect ops=true)(hQ:∀(d:Option Tmp) (v:Value) c a w,Q (.panic c) (a.put d v) w→Q (.panic c) a w)(fuel:Nat)(w:World)(hS:T w) :
  ∀(l:List Oper) (k:Nat) (listed:Array Bool) (a:Act),(∀j,j<l.length→l[j]?=ops[k+j]?)→segB ops l.length k listed=true→(∀j,j<l.length→(T=S∧XA .any ops K (k+j)=true)∨∀w,T w) →
   xn P ops T (fun a'=>Zf P .any ops Q S K fuel (marks l.length k listed) a' w) l a→Zf P .any ops Q S K (l.length+fuel) listed a w
 | [],k,listed,a,_,_,_,h=>by rw[List.length_nil,Nat.zero_add];exact h
 | o::l,k,listed,a,hl,hB,hT,h=>by
  have h0:ops[k]?=some o:=by simpa using (hl 0 (by simp)).symm
  simp only[List.length_cons,segB,Bool.and_eq_true] at hB;obtain⟨⟨hr,hf⟩,hB⟩:=hB;have hl':∀j,j<l.length→l[j]?=ops[k+1+j]?:=fun j hj=>by have:=hl (j+1) (by simp;omega);simpa [Nat.add_assoc,Nat.add_comm 1 j] using this
  have hT':∀j,j<l.length→(T=S∧XA .any ops K (k+1+j)=true)∨∀w,T w:=fun j hj=>by have:=hT (j+1) (by simp;omega);rwa [show k+(j+1)=k+1+j by omega] at this
  rw[List.length_cons,show l.length+1+fuel=(l.length+fuel)+1 by omega]
  have hr':k∈Region.ready .any ops listed:=by simpa using hr
  have hT0:=hT 0 (by simp)
  rw[Nat.add_zero] at hT0;rcases h with⟨hw,v,hv,h⟩|⟨hw,h⟩
  ·exact YP h0 (Region.noSelect_spec hs) (fun c a w=>hQ o.dst v c a w) hT0 _ listed a w (Region.free_spec h0 hf) hr' (.inl ⟨hw,hv⟩) hS (Yo hs hQ fuel w hS l (k+1) _ _ hl' hB hT' h)
  ·exact YP h0 (Region.noSelect_spec hs) (fun c a w=>hQ o.dst undef c a w) hT0 _ listed a w (Region.free_spec h0 hf) hr' (.inr ⟨hw,rfl⟩) hS (Yo hs hQ fuel w hS l (k+1) _ _ hl' hB hT' h)
theorem yw {K:Nat}{l:List Oper}(k n:Nat)(listed listed':Array Bool)(fuel:Nat){a:Act}{w:World}(hs:Region.noSelect l.toArray=true)(hQ:∀(d:Option Tmp) (v:Value) c a w,Q (.panic c) (a.put d v) w→Q (.panic c) a w)(hS:S w)
  (hB:(segB l.toArray n k listed&&decide (k+n≤l.length)&&(marks n k listed==listed')&&(List.range n).all fun j=>XA .any l.toArray K (k+j))=true) (h:xn P l.toArray S (fun a'=>Zf P .any l.toArray Q S K fuel listed' a' w) ((l.drop k).take n) a):Zf P .any l.toArray Q S K (n+fuel) listed a w:=by
 simp only[Bool.and_eq_true,decide_eq_true_eq,beq_iff_eq] at hB;obtain⟨⟨⟨hB,hn⟩,rfl⟩,hw⟩:=hB;have hln:((l.drop k).take n).length=n:=by rw[List.length_take,List.length_drop];omega
 have:=Yo (P:=P) (Q:=Q) (S:=S) (K:=K) hs hQ fuel w hS ((l.drop k).take n) k listed a (fun j hj=>by
  rw[hln] at hj;rw[List.getElem?_take,if_pos hj,List.getElem?_drop];simp) (by rw[hln];exact hB) (fun j hj=>.inl ⟨rfl,List.all_eq_true.1 hw j (List.mem_range.2 (by rw[hln] at hj;exact hj))⟩) (by rw[hln];exact h)
 rwa [hln] at this
theorem xF {K:Nat}{l:List Oper}(k n:Nat)(listed listed':Array Bool)(fuel:Nat){a:Act}{w:World}(hs:Region.noSelect l.toArray=true)(hQ:∀(d:Option Tmp) (v:Value) c a w,Q (.panic c) (a.put d v) w→Q (.panic c) a w)
  (hB:(segB l.toArray n k listed&&decide (k+n≤l.length)&&(marks n k listed==listed'))=true) (h:xn P l.toArray (fun _=>True) (fun a'=>Zf P .any l.toArray Q S K fuel listed' a' w) ((l.drop k).take n) a):Zf P .any l.toArray Q S K (n+fuel) listed a w:=by
 simp only[Bool.and_eq_true,decide_eq_true_eq,beq_iff_eq] at hB;obtain⟨⟨hB,hn⟩,rfl⟩:=hB;have hln:((l.drop k).take n).length=n:=by rw[List.length_take,List.length_drop];omega
 have:=Yo (P:=P) (Q:=Q) (S:=S) (K:=K) (T:=fun _=>True) hs hQ fuel w trivial ((l.drop k).take n) k listed a (fun j hj=>by
  rw[hln] at hj;rw[List.getElem?_take,if_pos hj,List.getElem?_drop];simp) (by rw[hln];exact hB) (fun j hj=>.inr fun _=>trivial) (by rw[hln];exact h)
 rwa [hln] at this
theorem FL {l:List Oper}{i:Nat}{a:Act}{w:World}{K:Act→World→Prop}(h1:Zq P l.toArray Q K a w (l.drop i)):wpOp P l.toArray Q i K a w:=by
 cases hd:l.drop i with
 | nil=>rw[hd] at h1;exact h1.elim
 | cons o r =>
  rw[hd] at h1;have h0:l.toArray[i]?=some o:=by
   have:(l.drop i)[0]?=some o:=by rw[hd];rfl
   rw[List.getElem?_drop] at this
   simpa using this
  unfold wpOp;simp only[h0];rw[if_pos h1.1];exact .inl h1.2
theorem yk {K0:Nat}{l:List Oper}(k:Nat)(listed listed':Array Bool)(fuel:Nat){a:Act}{w:World}(hB:(decide (Region.ready .any l.toArray listed=[k])&&(listed.setIfInBounds k true==listed'))=true)
  (h:∀K:Act→World→Prop,(∀a' w',S w'→Zf P .any l.toArray Q S K0 fuel listed' a' w'→K a' w')→Zq P l.toArray Q K a w (l.drop k)):Zf P .any l.toArray Q S K0 (fuel+1) listed a w:=by
 simp only[Bool.and_eq_true,decide_eq_true_eq,beq_iff_eq] at hB;obtain⟨hr,rfl⟩:=hB;refine⟨fun h0=>(by rw[hr] at h0;cases h0),fun i hi=>?_⟩
 rw[hr] at hi;have hik:i=k:=by simpa using hi
 subst hik;exact FL (h _ (fun a' w' h2 h3=>⟨.inr fun _=>h2,h3⟩))
theorem xH {K0:Nat}{l:List Oper}(k:Nat)(listed listed':Array Bool)(fuel:Nat){a:Act}{w:World}(hB:(decide (Region.ready .any l.toArray listed=[k])&&(listed.setIfInBounds k true==listed')&&decide (K0≤k))=true)
  (h:∀K:Act→World→Prop,(∀a' w',Zf P .any l.toArray Q S K0 fuel listed' a' w'→K a' w')→Zq P l.toArray Q K a w (l.drop k)):Zf P .any l.toArray Q S K0 (fuel+1) listed a w:=by
 simp only[Bool.and_eq_true,decide_eq_true_eq,beq_iff_eq] at hB;obtain⟨⟨hr,rfl⟩,he⟩:=hB;refine⟨fun h0=>(by rw[hr] at h0;cases h0),fun i hi=>?_⟩
 rw[hr] at hi;have hik:i=k:=by simpa using hi
 subst hik;exact FL (h _ (fun a' w' h3=>⟨.inl he,h3⟩))
theorem xG {K:Nat}{listed:Array Bool}{a:Act}{w:World}(hr:Region.ready md ops listed=[])(h:Q .normal a w):∀fuel,Zf P md ops Q S K fuel listed a w
 | 0=>⟨hr,h⟩
 | _+1=>⟨fun _=>h,by rw[hr];simp⟩
theorem xg {id:Nat}{a:Act}{w:World}{l:List Oper}(S:World→Prop)(K:Nat)(fuel:Nat)(listed:Array Bool)(hm:P.follows .mixedOrders=true)(hB:(decide (l.length=fuel)&&(Array.replicate l.length false==listed))=true)
  (h:Zf P .any l.toArray (NoPanic Q) S K fuel listed a w.drew):(Code.region id l.toArray true).wp P Q a w:=by
 simp only[Bool.and_eq_true,decide_eq_true_eq,beq_iff_eq] at hB;obtain⟨rfl,rfl⟩:=hB;exact wp_region_noPanic (wp_region_any hm (UA _ _ _ _ (by simpa using h)))
end
end Go.Proofs.YtlkjheheofgdgaaGreat
open Go Go.RowKit
namespace Go.Proofs.YtlkjheheofgdgaaGreat
structure zy where
 at_:World→List Nat→Prop
 lt:∀{w F},at_ w F→∀x∈F,x<w.heap.size
 yC:∀{w w' F G},at_ w F→zI G w w'→(∀x∈F,x∉G)→at_ w' F
def Sep (w:World):List zy→List Nat→Prop
 | [],F=>F=[]
 | A::As,F=>∃F1 F2,F=F1++F2∧A.at_ w F1∧(∀x∈F1,x∉F2)∧Sep w As F2
theorem Sep.lt {w:World}:∀{As:List zy} {F:List Nat},Sep w As F→∀x∈F,x<w.heap.size
 | [],F,h,x,hx=>by unfold Sep at h;subst h;simp at hx
 | A::As,F,h,x,hx=>by
  obtain⟨F1,F2,rfl,h1,h2,h3⟩:=h;rcases List.mem_append.1 hx with hx|hx
  ·exact A.lt h1 x hx
  ·exact h3.lt x hx
theorem Sep.yC {w w':World}{G:List Nat}(c:zI G w w'):∀{As:List zy} {F:List Nat},Sep w As F→(∀x∈F,x∉G)→Sep w' As F
 | [],F,h,_=>h
 | A::As,F,h,hd=>by
  obtain⟨F1,F2,rfl,h1,h2,h3⟩:=h;exact⟨F1,F2,rfl,A.yC h1 c (fun x hx=>hd x (by simp[hx])),h2,Sep.yC c h3 (fun x hx=>hd x (by simp[hx]))⟩
theorem Sep.perm {w:World}{As Bs:List zy}(hp:As.Perm Bs):∀{F:List Nat},Sep w As F→∃F',Sep w Bs F'∧∀x,x∈F'↔x∈F:=by
 induction hp with
 | nil=>exact fun h=>⟨_,h,fun _=>Iff.rfl⟩
 | cons A _ ih =>
  intro F h;obtain⟨F1,F2,rfl,h1,h2,h3⟩:=h;obtain⟨F',h4,h5⟩:=ih h3;exact⟨F1++F',⟨F1,F',rfl,h1,fun x hx hc=>h2 x hx ((h5 x).1 hc),h4⟩,fun x=>by simp[h5]⟩
 | swap A B l =>
  intro F h;obtain⟨F1,_,rfl,h1,h2,F2,F3,rfl,h3,h4,h5⟩:=h;exact⟨F2++(F1++F3),⟨F2,_,rfl,h3,fun x hx hc=>by
   rcases List.mem_append.1 hc with h|h
   ·exact h2 x h (by simp[hx])
   ·exact h4 x hx h,F1,F3,rfl,h1,fun x hx hc=>h2 x hx (by simp[hc]),h5⟩,fun x=>by simp;constructor<;>(intro h;rcases h with h|h|h<;>simp[h])⟩
 | trans _ _ i1 i2 =>
  intro F h;obtain⟨F1,h1,e1⟩:=i1 h;obtain⟨F2,h2,e2⟩:=i2 h1;exact⟨F2,h2,fun x=>(e2 x).trans (e1 x)⟩
theorem Sep.split {w:World}:∀{As Bs:List zy} {F:List Nat},Sep w (As++Bs) F→∃F1 F2,F=F1++F2∧Sep w As F1∧(∀x∈F1,x∉F2)∧Sep w Bs F2
 | [],Bs,F,h=>⟨[],F,rfl,rfl,fun x hx=>by simp at hx,h⟩
 | A::As,Bs,F,h=>by
  obtain⟨F1,F2,rfl,h1,h2,h3⟩:=h;obtain⟨F3,F4,rfl,h4,h5,h6⟩:=h3.split;exact⟨F1++F3,F4,by simp,⟨F1,F3,rfl,h1,fun x hx hc=>h2 x hx (by simp[hc]),h4⟩,fun x hx hc=>by
   rcases List.mem_append.1 hx with h|h
   ·exact h2 x h (by simp[hc])
   ·exact h5 x h hc,h6⟩
theorem Sep.app {w:World}:∀{As Bs:List zy} {F G:List Nat},Sep w As F→Sep w Bs G→(∀x∈F,x∉G)→Sep w (As++Bs) (F++G)
 | [],Bs,F,G,h,k,_=>by unfold Sep at h;subst h;exact k
 | A::As,Bs,F,G,h,k,d=>by
  obtain⟨F1,F2,rfl,h1,h2,h3⟩:=h;exact⟨F1,F2++G,by simp,h1,fun x hx hc=>by
   rcases List.mem_append.1 hc with h|h
   ·exact h2 x hx h
   ·exact d x (by simp[hx]) h,h3.app k (fun x hx=>d x (by simp[hx]))⟩
def Own (w0 w:World)(As:List zy):Prop:=Below w0.heap.size w0 w∧∃F,Sep w As F∧∀x∈F,w0.heap.size≤x
theorem Own.bel {w0 w:World}{As:List zy}(h:Own w0 w As):Below w0.heap.size w0 w:=h.1
theorem Own.nil {w0 w:World}(h:Below w0.heap.size w0 w):Own w0 w []:=⟨h,[],rfl,fun x hx=>by simp at hx⟩
theorem Own.perm {w0 w:World}{As Bs:List zy}(h:Own w0 w As)(hp:As.Perm Bs):Own w0 w Bs:=by
 obtain⟨h1,F,h2,h3⟩:=h;obtain⟨F',h4,h5⟩:=h2.perm hp;exact⟨h1,F',h4,fun x hx=>h3 x ((h5 x).1 hx)⟩
theorem Own.drop {w0 w:World}{A:zy}{As:List zy}(h:Own w0 w (A::As)):Own w0 w As:=by
 obtain⟨h1,F,⟨F1,F2,rfl,h2,h3,h4⟩,h5⟩:=h;exact⟨h1,F2,h4,fun x hx=>h5 x (by simp[hx])⟩
theorem Own.Ze {w0 w:World}{As Bs:List zy}(h:Own w0 w (As++Bs)):Own w0 w Bs:=by
 induction As with
 | nil=>exact h
 | cons A As ih=>exact ih h.drop
theorem Own.head {w0 w:World}{A:zy}{As:List zy}(h:Own w0 w (A::As)):∃F,A.at_ w F∧∀x∈F,w0.heap.size≤x:=by
 obtain⟨h1,F,⟨F1,F2,rfl,h2,h3,h4⟩,h5⟩:=h;exact⟨F1,h2,fun x hx=>h5 x (by simp[hx])⟩
theorem Own.step {w0 w w':World}{As:List zy}(h:Own w0 w As)(hb:Below w.heap.size w w'):Own w0 w' As:=by
 obtain⟨h1,F,h2,h3⟩:=h;exact⟨zA h1 hb,F,h2.yC (zI.zK (F:=[]) hb) (fun _ _=>by simp),h3⟩
theorem Own.add {w0 w w':World}{As:List zy}(h:Own w0 w As)(hb:Below w.heap.size w w'){A:zy}{F:List Nat}(hA:A.at_ w' F)(hF:∀x∈F,w.heap.size≤x):Own w0 w' (A::As):=by
 obtain⟨h1,F2,h2,h3⟩:=h;exact⟨zA h1 hb,F++F2,⟨F,F2,rfl,hA,fun x hx hc=>by have:=h2.lt x hc;have:=hF x hx;omega,h2.yC (zI.zK (F:=[]) hb) (fun _ _=>by simp)⟩,fun x hx=>by
  rcases List.mem_append.1 hx with h|h
  ·exact Nat.le_trans h1.size (hF x h)
  ·exact h3 x h⟩
theorem Own.PM {w0 w w':World}{As As' R:List zy}(h:Own w0 w (As++R))(hc:∀F,Sep w As F→∃F',Sep w' As' F'∧zI F w w'∧∀x∈F',x∈F∨w.heap.size≤x):Own w0 w' (As'++R):=by
 obtain⟨h1,F,h2,h3⟩:=h;obtain⟨F1,F2,rfl,h4,h5,h6⟩:=h2.split;obtain⟨F',k1,k2,k3⟩:=hc F1 h4;have hs:=h1.size;refine⟨zI.below h1 k2 (fun x hx=>h3 x (by simp[hx])),F'++F2,k1.app (h6.yC k2 (fun x hx hc=>h5 x hc hx)) (fun x hx hc=>?_),fun x hx=>?_⟩
 ·rcases k3 x hx with h|h
  ·exact h5 x h hc
  ·have:=h6.lt x hc;omega
 ·rcases List.mem_append.1 hx with h|h
  ·rcases k3 x h with h|h
   ·exact h3 x (by simp[h])
   ·omega
  ·exact h3 x (by simp[h])
theorem Own.call {w0 w:World}{As R:List zy}(h:Own w0 w (As++R)){P:Program}{f:FuncId}{args:Array Value}{post:Ending→List zy→Prop}
  (hc:∀F,Sep w As F→Calls P f args w fun r w'=>∃As',post r As'∧∃F',Sep w' As' F'∧zI F w w'∧∀x∈F',x∈F∨w.heap.size≤x) :
  Calls P f args w fun r w'=>∃As',post r As'∧Own w0 w' (As'++R):=by
 have h':=h;obtain⟨h1,F,h2,h3⟩:=h';obtain⟨F1,F2,rfl,h4,h5,h6⟩:=h2.split;have hs:=h1.size;refine(hc F1 h4).mono ?_
 rintro r w' ⟨As',hp,F',k1,k2,k3⟩;refine⟨As',hp,zI.below h1 k2 (fun x hx=>h3 x (by simp[hx])),F'++F2,k1.app (h6.yC k2 (fun x hx hc=>h5 x hc hx)) (fun x hx hc=>?_),fun x hx=>?_⟩
 ·rcases k3 x hx with h|h
  ·exact h5 x h hc
  ·have:=h6.lt x hc;omega
 ·rcases List.mem_append.1 hx with h|h
  ·rcases k3 x h with h|h
   ·exact h3 x (by simp[h])
   ·omega
  ·exact h3 x (by simp[h])
theorem xo {w:World}{A:zy}{F:List Nat}:Sep w [A] F↔A.at_ w F:=by
 constructor
 ·rintro⟨F1,F2,rfl,h1,h2,h3⟩
  unfold Sep at h3;subst h3;simpa using h1
 ·intro h;exact⟨F,[],by simp,h,fun _ _=>by simp,rfl⟩
theorem Own.P8 {w0 w:World}{A A':zy}{R:List zy}(h:Own w0 w (A::R)){P:Program}{f:FuncId}{args:Array Value}{ret:Ending→Prop}
  (hc:∀F,A.at_ w F→Calls P f args w fun r w'=>ret r∧∃F',A'.at_ w' F'∧zI F w w'∧∀x∈F',x∈F∨w.heap.size≤x) :
  Calls P f args w fun r w'=>ret r∧Own w0 w' (A'::R):=by
 have:=Own.call (As:=[A]) (R:=R) h (P:=P) (f:=f) (args:=args) (post:=fun r l=>ret r∧l=[A']) (fun F hF=>(hc F (xo.1 hF)).mono (by
  rintro r w' ⟨h1,F',h2,h3,h4⟩;exact⟨[A'],⟨h1,rfl⟩,F',xo.2 h2,h3,h4⟩))
 refine this.mono ?_
 rintro r w' ⟨_,⟨h1,rfl⟩,h2⟩;exact⟨h1,h2⟩
theorem Own.call2 {w0 w:World}{A B A' B':zy}{R:List zy}(h:Own w0 w (A::B::R)){P:Program}{f:FuncId}{args:Array Value}{ret:Ending→Prop}
  (hc:∀F G,A.at_ w F→B.at_ w G→(∀x∈F,x∉G)→Calls P f args w fun r w'=>ret r∧∃F' G',A'.at_ w' F'∧B'.at_ w' G'∧(∀x∈F',x∉G')∧zI (F++G) w w'∧(∀x∈F',x∈F++G∨w.heap.size≤x)∧∀x∈G',x∈F++G∨w.heap.size≤x) :
  Calls P f args w fun r w'=>ret r∧Own w0 w' (A'::B'::R):=by
 have:=Own.call (As:=[A,B]) (R:=R) h (P:=P) (f:=f) (args:=args) (post:=fun r l=>ret r∧l=[A',B']) (fun F hF=>by
  obtain⟨F1,F2,rfl,h1,h2,h3⟩:=hF;refine(hc F1 F2 h1 (xo.1 h3) h2).mono ?_
  rintro r w' ⟨k1,F',G',k2,k3,k4,k5,k6,k7⟩;exact⟨[A',B'],⟨k1,rfl⟩,F'++G',⟨F',G',rfl,k2,k4,xo.2 k3⟩,k5,fun x hx=>by
   rcases List.mem_append.1 hx with h|h
   ·exact k6 x h
   ·exact k7 x h⟩)
 refine this.mono ?_
 rintro r w' ⟨_,⟨h1,rfl⟩,h2⟩;exact⟨h1,h2⟩
theorem Zb {α:Type}:∀(l:List α) (i:Nat) (a:α),l[i]?=some a→l.Perm (a::l.eraseIdx i)
 | [],i,a,h=>by simp at h
 | x::l,0,a,h=>by simp at h;subst h;simp
 | x::l,i+1,a,h=>by
  simp only[List.getElem?_cons_succ] at h
  exact((Zb l i a h).cons x).trans (.swap a x _)
theorem Z2 {α:Type}:∀(l:List α) (i:Nat) (a:α),i<l.length→(a::l.eraseIdx i).Perm (l.set i a)
 | [],i,a,h=>by simp at h
 | x::l,0,a,h=>by simp
 | x::l,i+1,a,h=>by
  simp only[List.eraseIdx_cons_succ,QZ];exact(List.Perm.swap x a _).trans ((Z2 l i a (by simpa using h)).cons x)
theorem Own.pick {w0 w:World}{As:List zy}(h:Own w0 w As)(i:Nat){A:zy}(hi:As[i]?=some A):Own w0 w (A::As.eraseIdx i):=h.perm (Zb As i A hi)
theorem Own.back {w0 w:World}{As:List zy}{A:zy}{i:Nat}(h:Own w0 w (A::As.eraseIdx i))(hi:i<As.length):Own w0 w (As.set i A):=h.perm (Z2 As i A hi)
theorem Own.fact {w0 w:World}{As:List zy}(h:Own w0 w As)(i:Nat){A:zy}(hi:As[i]?=some A):∃F,A.at_ w F∧∀x∈F,w0.heap.size≤x:=(h.pick i hi).head
theorem VL {α:Type}(l:List α)(i k:Nat)(a b:α)(hi:l[i]?=some a)(hk:l[k]?=some b)(hne:i≠k):∃R,l.Perm (a::b::R)∧∀x y,(x::y::R).Perm ((l.set i x).set k y):=by
 have hil:=(List.getElem?_eq_some_iff.1 hi).1
 have hkl:=(List.getElem?_eq_some_iff.1 hk).1
 obtain⟨k',hk',hs⟩:∃k',(l.eraseIdx i)[k']?=some b∧∀y x,(x::(l.eraseIdx i).set k' y).Perm ((l.set i x).set k y):=by
  by_cases h:i<k
  ·refine⟨k-1,by rw[List.getElem?_eraseIdx_of_ge (by omega),show k-1+1=k by omega];exact hk,fun y x=>?_⟩
   have e:(l.eraseIdx i).set (k-1) y=(l.set k y).eraseIdx i:=by
    apply List.ext_getElem?
    intro j;simp only[List.getElem?_set,List.getElem?_eraseIdx,List.length_eraseIdx]
    split<;>split<;>(try split)<;>(try split)<;>(try split)<;>simp_all<;>omega
   rw[e,List.set_comm _ _ hne];exact Z2 _ i x (by simpa using hil)
  ·refine⟨k,by rw[List.getElem?_eraseIdx_of_lt (by omega)];exact hk,fun y x=>?_⟩
   have e:(l.eraseIdx i).set k y=(l.set k y).eraseIdx i:=by
    apply List.ext_getElem?
    intro j;simp only[List.getElem?_set,List.getElem?_eraseIdx,List.length_eraseIdx]
    split<;>split<;>(try split)<;>(try split)<;>(try split)<;>simp_all<;>omega
   rw[e,List.set_comm _ _ hne];exact Z2 _ i x (by simpa using hil)
 refine⟨(l.eraseIdx i).eraseIdx k',(Zb l i a hi).trans ((Zb _ k' b hk').cons a),fun x y=>?_⟩
 exact((Z2 _ k' y (List.getElem?_eq_some_iff.1 hk').1).cons x).trans (hs y x)
def zf (b:Nat)(cs:List Value):zy where
 at_ w F:=F=[b]∧b<w.heap.size∧zF w b cs
 lt:=by rintro w F ⟨rfl,h1,h2⟩ x hx;simp at hx;subst hx;exact h1
 yC:=by
  rintro w w' F G ⟨rfl,h1,h2⟩ c hd
  exact⟨rfl,Nat.lt_of_lt_of_le h1 c.size,h2.yC c (hd b (by simp))⟩
def VR (a:Option Addr)(cap:Nat)(l:List Int):zy where
 at_ w F:=F=yf a∧zO w a cap l
 lt:=by rintro w F ⟨rfl,h1⟩ x hx;exact h1.lt x hx
 yC:=by rintro w w' F G ⟨rfl,h1⟩ c hd;exact⟨rfl,h1.yC c hd⟩
theorem Own.zo {w0 w:World}{As:List zy}(h:Own w0 w As)(i:Nat){b:Nat}{cs:List Value}(hi:As[i]?=some (zf b cs)):zF w b cs:=by
 obtain⟨F,⟨_,_,h1⟩,_⟩:=h.fact i hi;exact h1
theorem Own.row {w0 w:World}{As:List zy}(h:Own w0 w As)(i:Nat){a:Option Addr}{cap:Nat}{l:List Int}(hi:As[i]?=some (VR a cap l)):zO w a cap l:=by
 obtain⟨F,⟨_,h1⟩,_⟩:=h.fact i hi;exact h1
theorem Own.alloc {w0 w:World}{As:List zy}(h:Own w0 w As)(l:List Value)(t:TypeId){b:Nat}(hb:b=w.heap.size):Own w0 (w.alloc (.cells l.toArray t)) (zf b l::As) :=
 h.add (below_alloc1 _ _) (F:=[b]) ⟨rfl,by subst hb;simp,zF.mk w l t b hb⟩ (fun x hx=>by simp at hx;omega)
theorem Own.set {w0 w:World}{As:List zy}{b:Nat}{cs:List Value}(h:Own w0 w (zf b cs::As))(k:Nat)(v:Value):Own w0 (w.setCell ⟨b,k,none⟩ v) (zf b (cs.set k v)::As):=by
 refine Own.PM (As:=[zf b cs]) (As':=[zf b (cs.set k v)]) (R:=As) h (fun F hF=>?_)
 obtain⟨rfl,h1,h2⟩:=xo.1 hF;exact⟨[b],xo.2 ⟨rfl,by rw[World.size_setCell];exact h1,h2.set k v⟩,(zI.refl _ _).setCell _ (.inl (by simp)),fun x hx=>.inl hx⟩
theorem Own.setAt {w0 w:World}{As:List zy}(h:Own w0 w As)(i:Nat){b:Nat}{cs:List Value}(hi:As[i]?=some (zf b cs))(k:Nat)(v:Value):Own w0 (w.setCell ⟨b,k,none⟩ v) (As.set i (zf b (cs.set k v))) :=
 ((h.pick i hi).set k v).back (List.getElem?_eq_some_iff.1 hi).1
theorem Ef {p q r s t:Prop}(h:p∧q∧r∧s∧t):t:=h.2.2.2.2
def Cp:zy where
 at_ w F:=F=[]
 lt:=by rintro w F rfl x hx;simp at hx
 yC:=by rintro w w' F G rfl c hd;rfl
theorem Own.Bc {w0 w:World}{A:zy}{As:List zy}(h:Own w0 w (A::As)):Own w0 w (As++[A]):=h.perm (List.perm_append_singleton A As).symm
def zU (s:Nat)(w:World)(a:Option Addr)(cap n:Nat)(cs:List Value):Prop :=
 cs.length=n*s∧n≤cap∧cap≤maxLen∧((a=none∧cap=0)∨∃b off,a=some ⟨b,off,none⟩∧b<w.heap.size ∧
  (∀j,j<cap*s→(w.cell? ⟨b,off+j,none⟩).isSome=true∧w.frozen? ⟨b,off+j,none⟩=false)∧∀j v,cs[j]?=some v→w.cell? ⟨b,off+j,none⟩=some v)
def zt (w:World)(a:Option Addr)(cs:List Value):Prop:=∀j v,cs[j]?=some v→∃b off,a=some ⟨b,off,none⟩∧w.cell? ⟨b,off+j,none⟩=some v
theorem zt.below {w w':World}{a:Option Addr}{cs:List Value}(h:zt w a cs)(hb:Below w.heap.size w w'):zt w' a cs:=fun j v hj=>by
 obtain⟨b,off,h1,h2⟩:=h j v hj;exact⟨b,off,h1,zj h2 hb⟩
theorem zU.nil (s:Nat)(w:World):zU s w none 0 0 []:=⟨by simp,by simp,by simp,.inl ⟨rfl,rfl⟩⟩
theorem zU.cells {s:Nat}{w:World}{a:Option Addr}{cap n:Nat}{cs:List Value}(h:zU s w a cap n cs):zt w a cs:=fun j v hj=>by
 obtain⟨h1,h2,h3,h4⟩:=h;rcases h4 with⟨rfl,h0⟩|⟨b,off,rfl,hb,h5,h6⟩
 ·have hl:=(List.getElem?_eq_some_iff.1 hj).1
  have:n=0:=by omega
  subst this;simp at h1;subst h1;simp at hl
 ·exact⟨b,off,rfl,h6 j v hj⟩
theorem zU.lt {s:Nat}{w:World}{a:Option Addr}{cap n:Nat}{cs:List Value}(h:zU s w a cap n cs):∀x∈yf a,x<w.heap.size:=by
 rcases h.2.2.2 with⟨rfl,_⟩|⟨b,off,rfl,hb,_⟩
 ·intro x hx;simp[yf] at hx
 ·intro x hx;simp[yf] at hx;subst hx;exact hb
theorem zU.DN {s:Nat}{w:World}{a:Option Addr}{cap n:Nat}{cs:List Value}(h:zU s w a cap n cs)(e:a=none):cap=0:=by
 rcases h.2.2.2 with⟨_,h⟩|⟨_,_,h,_⟩
 ·exact h
 ·rw[e] at h;cases h
theorem zU.yC {s:Nat}{F:List Nat}{w w':World}{a:Option Addr}{cap n:Nat}{cs:List Value}(h:zU s w a cap n cs)(c:zI F w w')(hd:∀x∈yf a,x∉F):zU s w' a cap n cs:=by
 refine⟨h.1,h.2.1,h.2.2.1,?_⟩
 rcases h.2.2.2 with h0|⟨b,off,rfl,hb,h1,h2⟩
 ·exact .inl h0
 ·have hk:=c.block b hb (hd b (by simp[yf]))
  refine .inr ⟨b,off,rfl,Nat.lt_of_lt_of_le hb c.size,fun j hj=>?_,fun j v hj=>?_⟩
  ·rw[cell_of_heap hk,World.frozen?_of_block (a:=⟨b,off+j,none⟩) hk];exact h1 j hj
  ·rw[cell_of_heap hk];exact h2 j v hj
theorem zU.below {s:Nat}{w w':World}{a:Option Addr}{cap n:Nat}{cs:List Value}(h:zU s w a cap n cs)(hb:Below w.heap.size w w'):zU s w' a cap n cs :=
 h.yC (zI.zK (F:=[]) hb) (fun _ _=>by simp)
theorem zU.zero {s:Nat}{w:World}{b:Nat}(hb:b<w.heap.size):zU s w (some ⟨b,0,none⟩) 0 0 []:=⟨by simp,by simp,by simp,.inr ⟨b,0,rfl,hb,fun j hj=>by simp at hj,fun j v hj=>by simp at hj⟩⟩
theorem zU.new (s n:Nat)(w:World)(cs:List Value)(t:TypeId)(hn:cs.length=n*s)(hl:n≤maxLen){b:Nat}(hb:b=w.heap.size):zU s (w.alloc (.cells cs.toArray t)) (some ⟨b,0,none⟩) n n cs:=by
 subst hb;have hB:=zF.new w cs.toArray t;refine⟨hn,Nat.le_refl _,hl,.inr ⟨_,0,rfl,by simp,fun j hj=>?_,fun j v hj=>?_⟩⟩
 ·rw[Nat.zero_add]
  obtain⟨h1,h2⟩:=hB j _ (List.getElem?_eq_getElem (show j<cs.length by omega))
  exact⟨by rw[h1];rfl,h2⟩
 ·rw[Nat.zero_add];exact(hB j v hj).1
theorem zt.new (w:World)(cs:List Value)(t:TypeId){b:Nat}(hb:b=w.heap.size):zt (w.alloc (.cells cs.toArray t)) (some ⟨b,0,none⟩) cs:=fun j v hj=>by
 subst hb;exact⟨_,0,rfl,by rw[Nat.zero_add];exact(zF.new w cs.toArray t j v hj).1⟩
theorem zt.yC {F:List Nat}{w w':World}{a:Option Addr}{cs:List Value}(h:zt w a cs)(c:zI F w w')(hd:∀x∈yf a,x∉F):zt w' a cs:=fun j v hj=>by
 obtain⟨b,off,rfl,h2⟩:=h j v hj;exact⟨b,off,rfl,Zj h2 c (hd b (by simp[yf]))⟩
theorem Xh {P:Program}{t:TypeId}{s:Nat}(ht:P.underlying t=some (.slice (P.elem t)))(hs:∀w,(sizeOf (P.elem t)).run P w=.ok s w){w0:World}{a:Option Addr}{cap n:Nat}{cs:List Value}(h:zU s w0 a cap n cs)(m:Nat)(hm:m≤n) :
  ∃a',(∀w,(Instr.slice t (.slice a n cap) (some (.int .i64 (m:Int))) none none).run P w=.ok (.slice a' (n-m) (cap-m)) w)∧zU s w0 a' (cap-m) (n-m) (cs.drop (m*s))∧yf a'=yf a:=by
 have hl:=h.2.1;have h1l:=h.1;have hdl:(cs.drop (m*s)).length=(n-m)*s:=by rw[List.length_drop,h1l,Nat.sub_mul]
 rcases h.2.2.2 with⟨rfl,rfl⟩|⟨b,off,rfl,hb,h1,h2⟩
 ·obtain rfl:n=0:=by omega
  obtain rfl:m=0:=by omega
  refine⟨none,fun w=>?_,⟨hdl,by omega,by simp,.inl ⟨rfl,rfl⟩⟩,rfl⟩
  rw[run_slice_l (P:=P) (t:=t) (ht:=ht) (kl:=.i64) (l:=((0:Nat):Int)) (h0:=by omega) (h1:=by simp),hs]
  simp[Result.andThen,sliced]
 ·by_cases hc:cap=m
  ·refine⟨some ⟨b,off,none⟩,fun w=>?_,⟨hdl,by omega,by have:=h.2.2.1;omega,.inr ⟨b,off,rfl,hb,fun j hj=>?_,fun j v hj=>?_⟩⟩,rfl⟩
   ·rw[run_slice_l (P:=P) (t:=t) (ht:=ht) (kl:=.i64) (l:=(m:Int)) (h0:=by omega) (h1:=by omega),hs]
    simp[Result.andThen,sliced,hc]
   ·rw[hc] at hj;simp at hj
   ·have:cs.drop (m*s)=[]:=List.length_eq_zero_iff.1 (by rw[hdl,show n-m=0 by omega];simp)
    rw[this] at hj;simp at hj
  ·refine⟨some ⟨b,off+m*s,none⟩,fun w=>?_,⟨hdl,by omega,by have:=h.2.2.1;omega,.inr ⟨b,off+m*s,rfl,hb,fun j hj=>?_,fun j v hj=>?_⟩⟩,rfl⟩
   ·rw[run_slice_l (P:=P) (t:=t) (ht:=ht) (kl:=.i64) (l:=(m:Int)) (h0:=by omega) (h1:=by omega),hs]
    by_cases hm0:m=0
    ·subst hm0;simp[Result.andThen,sliced,hc,Addr.add]
    ·simp[Result.andThen,sliced,hc,Addr.add,hm0]
     try (intro hz;omega)
   ·have hlt:m*s+j<cap*s:=by
     have:cap*s=m*s+(cap-m)*s:=by rw[←Nat.add_mul];congr 1;omega
     omega
    have:=h1 (m*s+j) hlt
    rwa [←Nat.add_assoc] at this
   ·have:=h2 (m*s+j) v (by rw[List.getElem?_drop] at hj;exact hj)
    rwa [←Nat.add_assoc] at this
theorem zU.take {s:Nat}{w:World}{a:Option Addr}{cap n:Nat}{cs:List Value}(h:zU s w a cap n cs)(m:Nat)(hm:m≤n):zU s w a cap m (cs.take (m*s)):=by
 obtain⟨h1,h2,h3,h4⟩:=h;have hms:m*s≤n*s:=Nat.mul_le_mul_right _ hm
 refine⟨by rw[List.length_take];omega,by omega,h3,?_⟩
 rcases h4 with h0|⟨b,off,rfl,hb,h5,h6⟩
 ·exact .inl h0
 ·refine .inr ⟨b,off,rfl,hb,h5,fun j v hj=>h6 j v ?_⟩
  rw[List.getElem?_take] at hj
  split at hj
  ·exact hj
  ·simp at hj
theorem zU.xO {s:Nat}{w:World}{base n:Nat}{e:TypeId}{v:Value}{cs:List Value}(h:w.ownsRow base e s v n cs):∃a cap,v=.slice a n cap∧zU s w a cap n cs∧∀x∈yf a,base≤x:=by
 have hx:=h.1;rcases h.2 with⟨rfl,h0⟩|⟨g,cap,cur,rfl,hb,hg,h1,h2,h3,h4⟩
 ·exact⟨none,0,by rw[h0],⟨hx,by omega,by simp,.inl ⟨rfl,rfl⟩⟩,fun x hx=>by simp[yf] at hx⟩
 ·have hlt:g<w.heap.size:=(Array.getElem?_eq_some_iff.1 hg).1
  refine⟨_,cap,rfl,⟨hx,h1,h2,.inr ⟨g,0,rfl,hlt,fun j hj=>⟨?_,?_⟩,fun j v hj=>?_⟩⟩,fun x hx=>by simp[yf] at hx;subst hx;exact hb⟩
  ·rw[Nat.zero_add,cell_of_row w g j cur e (0,0) hg,Array.getElem?_eq_getElem (by omega)];rfl
  ·rw[Nat.zero_add];exact frozen_of_row w g j cur e hg
  ·rw[Nat.zero_add,cell_of_row w g j cur e (0,0) hg]
   rw[←h4,List.getElem?_take] at hj
   split at hj
   ·simpa using hj
   ·cases hj
theorem Xi {P:Program}{w:World}{s by_:Nat}(t ty e:TypeId)(i:TypeInfo)(z:Value)(ht:P.underlying t=some (.slice e))(hi:P.info? e=some i)(hz:i.zero=some z)(hsize:i.size=s)(hby:i.bytes=by_)(hzs:z.cells.size=s)(hs0:0<s)(hb0:by_≤1000)
  {a b:Option Addr} {cap c n m:Nat} {cs ds:List Value} (ha:zU s w a cap n cs) (hb:zt w b ds) (hd:ds.length=m*s) (hone:∀u∈ds,u.oneCell'=true) (h47:n+m≤1000000000) :
  ∃a' cap' w',(Builtin.append_ #[t,t] ty #[.slice a n cap,.slice b m c]).run P w=.ok (.slice a' (n+m) cap') w'∧zU s w' a' cap' (n+m) (cs++ds)∧zI (yf a) w w'∧∀x∈yf a',x∈yf a∨w.heap.size≤x:=by
 have hbyt:(n+m)*by_≤140737488355328:=Nat.le_trans (Nat.mul_le_mul h47 hb0) (by omega)
 cases b with
 | none =>
  have hdn:ds=[]:=by
   cases ds with
   | nil=>rfl
   | cons x t=>obtain⟨_,_,h1,_⟩:=hb 0 x rfl;cases h1
  subst hdn;have:m=0:=by
   have h0:m*s=0:=by rw[←hd];rfl
   rcases Nat.mul_eq_zero.1 h0 with h|h
   ·exact h
   ·omega
  subst this;have hl:=ha.2.1;refine⟨a,cap,w,?_,by simpa using ha,zI.refl _ _,fun x hx=>.inl hx⟩
  cases a<;>simp[Builtin.append_,run_underlying ht,sizeOf,typeInfo,hi,Builtin.lenOf,Builtin.firstCells,storeCells,hl]
 | some ad =>
  by_cases hm0:m=0
  ·subst hm0
   have hdn:ds=[]:=List.length_eq_zero_iff.1 (by rw[hd];simp)
   subst hdn;have hl:=ha.2.1;refine⟨a,cap,w,?_,by simpa using ha,zI.refl _ _,fun x hx=>.inl hx⟩
   cases a<;>simp[Builtin.append_,run_underlying ht,sizeOf,typeInfo,hi,Builtin.lenOf,Builtin.firstCells,storeCells,loadCells,loadCellsFrom,hl]
  have hnews:∀j u,ds[j]?=some u→w.cell? (ad.add j)=some u:=fun j u hj=>by
   obtain⟨b,off,h1,h2⟩:=hb j u hj;cases h1
   rw[Addr.add_lit,h2]
  rcases ha.2.2.2 with⟨rfl,h0⟩|⟨b,off,rfl,hbl,h1,h2⟩
  ·obtain rfl:n=0:=by have:=ha.2.1;omega
   have hl0:cs=[]:=List.length_eq_zero_iff.1 (by have:=ha.1;omega)
   subst hl0;subst h0;obtain⟨v',w',hr,r1,r2,_⟩:=run_append_own (P:=P) w w.heap.size t ty e i z s by_ ht hi hz hsize hby hzs hs0 (.slice none 0 0) 0 [] (World.ownsRow_nil _ _ _ _) ad m c ds hd hnews hone (by unfold maxLen;omega) hbyt (Nat.le_refl _)
   simp only[List.nil_append] at r1;obtain⟨a',cap',rfl,hrow,hbase⟩:=zU.xO r1;exact⟨a',cap',w',hr,by simpa using hrow,yF r2 |>.mono (by simp[Value.ownBlock,yf]),fun x hx=>.inr (hbase x hx)⟩
  ·by_cases hroom:n+m≤cap
   ·have hcap:(n+m)*s≤cap*s:=Nat.mul_le_mul_right _ hroom
    rw[Nat.add_mul] at hcap;have hr:=run_append_room_cells (P:=P) w t ty e i ht hi b off n cap ad m c ds (by rw[hd,hsize]) hnews hone hroom
     (fun j hj=>by rw[hsize];have:=(h1 (n*s+j) (by omega)).1;rwa [←Nat.add_assoc] at this)
     (fun j hj=>by rw[hsize];have:=(h1 (n*s+j) (by omega)).2;rwa [←Nat.add_assoc] at this)
    rw[hsize] at hr;have hin:=World.cell?_setCells_in b ds (off+n*s) w (fun j hj=>by have:=(h1 (n*s+j) (by omega)).1;rwa [←Nat.add_assoc] at this)
    have hcl:=ha.1;refine⟨_,cap,_,hr,⟨by rw[List.length_append,hd,hcl,Nat.add_mul],hroom,ha.2.2.1,.inr ⟨b,off,rfl,Nat.lt_of_lt_of_le hbl ((zI.refl [b] w).setCells ds (off+n*s) (.inl (by simp))).size,fun j hj=>⟨?_,?_⟩,fun j v hj=>?_⟩⟩,(zI.refl _ _).setCells _ _ (.inl (by simp[yf])),fun x hx=>.inl hx⟩
    ·by_cases hj2:n*s≤j∧j<n*s+m*s
     ·have:=hin (j-n*s) (by omega)
      rw[show off+n*s+(j-n*s)=off+j by omega] at this
      rw[this];rfl
     ·rw[World.cell?_setCells_out b ds _ w _ (fun _ _=>by simp only;omega)]
      exact(h1 j hj).1
    ·rw[World.frozen?_setCells];exact(h1 j hj).2
    ·by_cases hj2:j<n*s
     ·rw[List.getElem?_append_left (by omega)] at hj
      rw[World.cell?_setCells_out b ds _ w _ (fun _ _=>by simp only;omega)]
      exact h2 j v hj
     ·rw[List.getElem?_append_right (by omega),hcl] at hj
      have hlt:j-n*s<ds.length:=(List.getElem?_eq_some_iff.1 hj).1
      have:=hin (j-n*s) hlt
      rw[show off+n*s+(j-n*s)=off+j by omega] at this
      rw[this];rw[List.getElem?_eq_getElem hlt] at hj
      exact hj
   ·obtain⟨v',w',hr,r1,r2⟩:=run_append_arg_grows (P:=P) w t ty e i z s by_ ht hi hz hsize hby hzs hs0 ⟨b,off,none⟩ n cap cs ha.1 (fun j u hj=>by rw[Addr.add_lit];exact h2 j u hj) ad m c ds hd hnews (by omega) (by unfold maxLen;omega) hbyt
    obtain⟨a',cap',rfl,hrow,hbase⟩:=zU.xO r1;exact⟨a',cap',w',hr,hrow,(yF r2).mono (by simp),fun x hx=>.inr (hbase x hx)⟩
theorem yr {P:Program}{w:World}{ops:Array Oper}{rest:List Oper}{o:Oper}{ac:Act}{Q:Exit→Act→World→Prop}{s by_:Nat}(hgd:o.guard=none)(sl x:Operand)(t:TypeId)
  (ho:o.op=.call { callee:=.builtin .append,args:=#[sl,x],argTypes:=#[t,t] }) (e:TypeId) (i:TypeInfo) (z:Value) (ht:P.underlying t=some (.slice e)) (hi:P.info? e=some i) (hz:i.zero=some z) (hsize:i.size=s) (hby:i.bytes=by_) (hzs:z.cells.size=s) (hs0:0<s) (hb0:by_≤1000)
  {a b:Option Addr} {cap c n m:Nat} {cs ds:List Value} (hs:ac.eval sl=.slice a n cap) (hx:ac.eval x=.slice b m c) (ha:zU s w a cap n cs) (hb:zt w b ds) (hd:ds.length=m*s) (hone:∀u∈ds,u.oneCell'=true) (h47:n+m≤1000000000)
  (h:∀a' cap' w',zU s w' a' cap' (n+m) (cs++ds)→zI (yf a) w w'→(∀x∈yf a',x∈yf a∨w.heap.size≤x)→wpList P ops Q rest (ac.put o.dst (.slice a' (n+m) cap')) w'):wpList P ops Q (o::rest) ac w:=by
 refine wpList_plain hgd fun K hK=>?_
 obtain⟨a',cap',w',hr,h2,h3,h4⟩:=Xi (P:=P) (w:=w) t o.type e i z ht hi hz hsize hby hzs hs0 hb0 ha (c:=c) hb hd hone h47
 unfold Oper.wp execOp;simp only[ho,resolve,invoke,builtin,Sem.run_bind,Sem.run_pure,Result.andThen_ok,List.map_toArray,List.map_cons,List.map_nil,hs,hx,hr];exact hK _ _ (h a' cap' w' h2 h3 h4)
theorem ZH {P:Program}{w:World}{ops:Array Oper}{o:Oper}{ac:Act}{K:Act→World→Prop}{Q:Exit→Act→World→Prop}{E:Prop}{s by_:Nat}(hgd:o.guard=none)(sl x:Operand)(t:TypeId)
  (ho:o.op=.call { callee:=.builtin .append,args:=#[sl,x],argTypes:=#[t,t] }) (e:TypeId) (i:TypeInfo) (z:Value) (ht:P.underlying t=some (.slice e)) (hi:P.info? e=some i) (hz:i.zero=some z) (hsize:i.size=s) (hby:i.bytes=by_) (hzs:z.cells.size=s) (hs0:0<s) (hb0:by_≤1000)
  {a b:Option Addr} {cap c n m:Nat} {cs ds:List Value} (hs:ac.eval sl=.slice a n cap) (hx:ac.eval x=.slice b m c) (ha:zU s w a cap n cs) (hb:zt w b ds) (hd:ds.length=m*s) (hone:∀u∈ds,u.oneCell'=true) (h47:n+m≤1000000000)
  (h:∀a' cap' w',zU s w' a' cap' (n+m) (cs++ds)→zI (yf a) w w'→(∀x∈yf a',x∈yf a∨w.heap.size≤x)→K (ac.put o.dst (.slice a' (n+m) cap')) w'):if Region.wanted o (yielded ops ac.tmps)=true then Oper.wp P o ac w K Q else E:=by
 have hw:Region.wanted o (yielded ops ac.tmps)=true:=by simp[Region.wanted,hgd]
 rw[if_pos hw];obtain⟨a',cap',w',hr,h2,h3,h4⟩:=Xi (P:=P) (w:=w) t o.type e i z ht hi hz hsize hby hzs hs0 hb0 ha (c:=c) hb hd hone h47
 unfold Oper.wp execOp;simp only[ho,resolve,invoke,builtin,Sem.run_bind,Sem.run_pure,Result.andThen_ok,List.map_toArray,List.map_cons,List.map_nil,hs,hx,hr];exact h a' cap' w' h2 h3 h4
theorem zU.Lp {w:World}{a:Option Addr}{cap:Nat}{l:List Int}(h:zO w a cap l):zU 1 w a cap l.length (zr l):=⟨by rw[yE];simp,h.1,h.2.1,by simpa using h.2.2⟩
theorem zU.LV {w:World}{a:Option Addr}{cap n:Nat}{l:List Int}(h:zU 1 w a cap n (zr l)):zO w a cap l∧n=l.length:=by
 have h1:=h.1;rw[yE,Nat.mul_one] at h1;exact⟨⟨by rw[h1];exact h.2.1,h.2.2.1,by simpa using h.2.2.2⟩,h1.symm⟩
def zd (s:Nat)(a:Option Addr)(cap n:Nat)(cs:List Value):zy where
 at_ w F:=F=yf a∧zU s w a cap n cs
 lt:=by rintro w F ⟨rfl,h1⟩ x hx;exact h1.lt x hx
 yC:=by rintro w w' F G ⟨rfl,h1⟩ c hd;exact⟨rfl,h1.yC c hd⟩
theorem zt.int {w:World}{a:Option Addr}{l:List Int}(h:zt w a (zr l))(i:Nat)(hi:i<l.length):∃b off,a=some ⟨b,off,none⟩∧w.cell? ⟨b,off+i,none⟩=some (.int .i64 l[i]):=h _ _ (XB l i hi)
theorem Own.yZ {w0 w:World}{As:List zy}(h:Own w0 w As)(i:Nat){s:Nat}{a:Option Addr}{cap n:Nat}{cs:List Value}(hi:As[i]?=some (zd s a cap n cs)):zU s w a cap n cs:=by
 obtain⟨F,⟨_,h1⟩,_⟩:=h.fact i hi;exact h1
theorem Own.xj {w0 w w':World}{As:List zy}{s:Nat}{a a':Option Addr}{cap cap' n n':Nat}{cs cs':List Value}(h:Own w0 w (zd s a cap n cs::As))(hr:zU s w' a' cap' n' cs')(c:zI (yf a) w w')(hf:∀x∈yf a',x∈yf a∨w.heap.size≤x) :
  Own w0 w' (zd s a' cap' n' cs'::As):=by
 refine Own.PM (As:=[zd s a cap n cs]) (As':=[zd s a' cap' n' cs']) (R:=As) h (fun F hF=>?_)
 obtain⟨rfl,h1⟩:=xo.1 hF;exact⟨yf a',xo.2 ⟨rfl,hr⟩,c,hf⟩
theorem Own.unfold {w0 w:World}{A:zy}{R:List zy}(h:Own w0 w (A::R)){P:List zy→Prop}(hA:∀F,A.at_ w F→∃As,P As∧Sep w As F):∃As,P As∧Own w0 w (As++R):=by
 obtain⟨h1,F,⟨F1,F2,rfl,h2,h3,h4⟩,h5⟩:=h;obtain⟨As,hp,hs⟩:=hA F1 h2;exact⟨As,hp,h1,F1++F2,hs.app h4 h3,h5⟩
theorem Own.fold {w0 w:World}{A:zy}{As R:List zy}(h:Own w0 w (As++R))(hA:∀F,Sep w As F→A.at_ w F):Own w0 w (A::R):=by
 obtain⟨h1,F,h2,h5⟩:=h;obtain⟨F1,F2,rfl,h3,h4,h6⟩:=h2.split;exact⟨h1,F1++F2,⟨F1,F2,rfl,hA F1 h3,h4,h6⟩,h5⟩
theorem zU.setCell {s:Nat}{w:World}{b off cap n:Nat}{cs:List Value}(h:zU s w (some ⟨b,off,none⟩) cap n cs)(j:Nat)(v:Value)(hj:j<cs.length):zU s (w.setCell ⟨b,off+j,none⟩ v) (some ⟨b,off,none⟩) cap n (cs.set j v):=by
 obtain⟨h1,h2,h3,h4⟩:=h;rcases h4 with⟨h0,_⟩|⟨b',off',hb',hlt,h5,h6⟩
 ·cases h0
 ·simp only[Option.some.injEq,Addr.mk.injEq,and_true] at hb'
  obtain⟨rfl,rfl⟩:=hb';have hms:n*s≤cap*s:=Nat.mul_le_mul_right _ h2
  refine⟨by rw[List.length_set];exact h1,h2,h3,.inr ⟨b,off,rfl,by rw[World.size_setCell];exact hlt,fun k hk=>⟨?_,by rw[World.frozen?_setCell];exact(h5 k hk).2⟩,fun k u hk=>?_⟩⟩
  ·by_cases e:k=j
   ·subst e;rw[World.cell?_setCell_same' _ _ _ (h5 k hk).1];rfl
   ·rw[World.cell?_setCell_other _ _ _ _ (by simp<;>omega)];exact(h5 k hk).1
  ·by_cases e:k=j
   ·subst e
    rw[List.getElem?_set_self hj] at hk
    obtain rfl:v=u:=by simpa using hk
    exact World.cell?_setCell_same' _ _ _ (h5 k (by omega)).1
   ·rw[List.getElem?_set_ne (by omega)] at hk
    rw[World.cell?_setCell_other _ _ _ _ (by simp<;>omega)];exact h6 k u hk
theorem Own.ZG {w0 w:World}{As:List zy}{s b off cap n:Nat}{cs:List Value}(h:Own w0 w (zd s (some ⟨b,off,none⟩) cap n cs::As))(j:Nat)(v:Value)(hj:j<cs.length):Own w0 (w.setCell ⟨b,off+j,none⟩ v) (zd s (some ⟨b,off,none⟩) cap n (cs.set j v)::As) :=
 Own.xj h ((h.yZ 0 rfl).setCell j v hj) ((zI.refl _ _).setCell _ (.inl (by simp[yf]))) (fun x hx=>.inl hx)
theorem zU.spot {s:Nat}{w:World}{b off cap n:Nat}{cs:List Value}(h:zU s w (some ⟨b,off,none⟩) cap n cs)(j:Nat)(hj:j<cap*s):∃v,w.cell? ⟨b,off+j,none⟩=some v∧w.frozen? ⟨b,off+j,none⟩=false:=by
 rcases h.2.2.2 with⟨h0,_⟩|⟨b',off',hb',hlt,h5,h6⟩
 ·cases h0
 ·simp only[Option.some.injEq,Addr.mk.injEq,and_true] at hb'
  obtain⟨rfl,rfl⟩:=hb';obtain⟨v,hv⟩:=Option.isSome_iff_exists.1 (h5 j hj).1
  exact⟨v,hv,(h5 j hj).2⟩
theorem ZP {α:Type}(f:α→List Value)(s:Nat)(hf:∀x,(f x).length=s):∀l:List α,(l.flatMap f).length=l.length*s
 | []=>by simp
 | x::l=>by rw[List.flatMap_cons,List.length_append,hf,ZP f s hf l,List.length_cons,Nat.add_mul];omega
theorem Zx {α:Type}(f:α→List Value)(s:Nat)(hf:∀x,(f x).length=s):∀(l:List α) (i k:Nat) (hi:i<l.length),k<s→(l.flatMap f)[i*s+k]?=(f l[i])[k]?
 | [],i,k,hi,_=>by simp at hi
 | x::l,0,k,_,hk=>by rw[List.flatMap_cons,Nat.zero_mul,Nat.zero_add,List.getElem?_append_left (by rw[hf];exact hk)];rfl
 | x::l,i+1,k,hi,hk=>by
  have ih:=Zx f s hf l i k (by simpa using hi) hk
  have e:(i+1)*s+k=s+(i*s+k):=by rw[Nat.add_mul];omega
  rw[List.flatMap_cons,e,List.getElem?_append_right (by rw[hf];omega),hf,Nat.add_sub_cancel_left,ih]
  rfl
def setL (cs:List Value)(o:Nat):List Value→List Value
 | []=>cs
 | v::vs=>setL (cs.set o v) (o+1) vs
theorem OC:∀(vs:List Value) (cs:List Value) (o j:Nat),(setL cs o vs)[j]?=if o≤j∧j<o+vs.length∧j<cs.length then vs[j-o]? else cs[j]?
 | [],cs,o,j=>by
  rw[if_neg (by simp;omega)];rfl
 | v::vs,cs,o,j=>by
  rw[setL,OC vs (cs.set o v) (o+1) j]
  simp only[List.length_set,List.length_cons];by_cases h:o=j
  ·subst h
   rw[if_neg (by omega)]
   by_cases hl:o<cs.length
   ·rw[if_pos (by omega),List.getElem?_set_self hl];simp
   ·rw[if_neg (by omega),List.getElem?_eq_none (by simp;omega),List.getElem?_eq_none (by omega)]
  ·rw[List.getElem?_set_ne h]
   by_cases h2:o+1≤j∧j<o+1+vs.length∧j<cs.length
   ·rw[if_pos h2,if_pos (by omega),show j-o=(j-(o+1))+1 by omega];rfl
   ·rw[if_neg h2,if_neg (by omega)]
theorem UG {α:Type}(f:α→List Value)(s:Nat)(hf:∀x,(f x).length=s)(l:List α)(i:Nat)(x:α)(hi:i<l.length):setL (l.flatMap f) (i*s) (f x)=(l.set i x).flatMap f:=by
 have hL:=ZP f s hf;apply List.ext_getElem?
 intro j;rw[OC,hf,hL];by_cases hs:s=0
 ·subst hs
  rw[if_neg (by omega),List.getElem?_eq_none (by rw[hL];omega),List.getElem?_eq_none (by rw[hL];omega)]
 by_cases hj:j<l.length*s
 ·have hd:j / s<l.length:=Nat.div_lt_of_lt_mul (by rw[Nat.mul_comm];exact hj)
  have hm:j%s<s:=Nat.mod_lt _ (by omega)
  have e:j=j / s*s+j%s:=by rw[Nat.mul_comm];exact(Nat.div_add_mod j s).symm
  have r1:=Zx f s hf (l.set i x) (j / s) (j%s) (by simpa using hd) hm
  have r2:=Zx f s hf l (j / s) (j%s) hd hm
  rw[←e] at r1 r2;rw[r1];by_cases hi2:j / s=i
  ·have e2:(l.set i x)[j / s]'(by simpa using hd)=x:=by simp[hi2]
   rw[e2];have e3:j-i*s=j%s:=by rw[←hi2];omega
   rw[if_pos ⟨by rw[←hi2];omega,by rw[←hi2];omega,hj⟩,e3]
  ·have e2:(l.set i x)[j / s]'(by simpa using hd)=l[j / s]:=by rw[List.getElem_set_ne (by omega)]
   rw[e2,←r2,if_neg];rintro⟨h1,h2,h3⟩
   have h4:i≤j / s:=by rw[Nat.le_div_iff_mul_le (by omega)];exact h1
   have h5:j / s<i+1:=by rw[Nat.div_lt_iff_lt_mul (by omega),Nat.add_mul];omega
   omega
 ·rw[if_neg (by omega),List.getElem?_eq_none (by rw[hL];omega),List.getElem?_eq_none (by rw[hL];simp;omega)]
theorem zt.rec {α:Type}{f:α→List Value}{s:Nat}(hf:∀x,(f x).length=s){w:World}{a:Option Addr}{l:List α}(h:zt w a (l.flatMap f))(i:Nat)(hi:i<l.length)(hs:0<s) :
  ∃b off,a=some ⟨b,off,none⟩∧∀k v,(f l[i])[k]?=some v→w.cell? ⟨b,off+i*s+k,none⟩=some v:=by
 have h0:=Zx f s hf l i 0 hi hs;obtain⟨v0,hv0⟩:∃v,(f l[i])[0]?=some v:=by
  have hl0:0<(f l[i]).length:=by rw[hf];exact hs
  exact⟨_,List.getElem?_eq_getElem hl0⟩
 rw[hv0] at h0;obtain⟨b,off,rfl,e1⟩:=h _ _ h0;refine⟨b,off,rfl,fun k v hk=>?_⟩
 have hks:k<s:=by have:=(List.getElem?_eq_some_iff.1 hk).1;rw[hf] at this;exact this
 have h1:=Zx f s hf l i k hi hks;rw[hk] at h1;obtain⟨b2,o2,e,e2⟩:=h _ _ h1;cases e
 rw[Nat.add_assoc];exact e2
theorem yP {P:Program}{w:World}{o:Oper}{ac:Act}{K:Act→World→Prop}{Q:Exit→Act→World→Prop}{s by_:Nat}(sl x:Operand)(t:TypeId)
  (ho:o.op=.call { callee:=.builtin .append,args:=#[sl,x],argTypes:=#[t,t] }) (e:TypeId) (i:TypeInfo) (z:Value) (ht:P.underlying t=some (.slice e)) (hi:P.info? e=some i) (hz:i.zero=some z) (hsize:i.size=s) (hby:i.bytes=by_) (hzs:z.cells.size=s) (hs0:0<s) (hb0:by_≤1000)
  {a b:Option Addr} {cap c n m:Nat} {cs ds:List Value} (hs:ac.eval sl=.slice a n cap) (hx:ac.eval x=.slice b m c) (ha:zU s w a cap n cs) (hb:zt w b ds) (hd:ds.length=m*s) (hone:∀u∈ds,u.oneCell'=true) (h47:n+m≤1000000000)
  (h:∀a' cap' w',zU s w' a' cap' (n+m) (cs++ds)→zI (yf a) w w'→(∀x∈yf a',x∈yf a∨w.heap.size≤x)→K (ac.put o.dst (.slice a' (n+m) cap')) w'):Oper.wp P o ac w K Q:=by
 obtain⟨a',cap',w',hr,h2,h3,h4⟩:=Xi (P:=P) (w:=w) t o.type e i z ht hi hz hsize hby hzs hs0 hb0 ha (c:=c) hb hd hone h47
 unfold Oper.wp execOp;simp only[ho,resolve,invoke,builtin,Sem.run_bind,Sem.run_pure,Result.andThen_ok,List.map_toArray,List.map_cons,List.map_nil,hs,hx,hr];exact h a' cap' w' h2 h3 h4
structure Qd where
 p:Nat
 g:Nat
 N:Nat
 q:LQ
 xa:Option Addr
 xc:Nat
def ZA (d:Qd):zy where
 at_ w F:=F=[d.p,d.g]∧yu w d.p d.g d.N d.q
 lt:=by rintro w F ⟨rfl,h⟩ x hx;have:=h.lt;simp at hx;rcases hx with rfl|rfl<;>omega
 yC:=by rintro w w' F G ⟨rfl,h⟩ c hd;exact⟨rfl,h.yC c (hd _ (by simp)) (hd _ (by simp))⟩
def Ya (b:Gp)(gl:List Int):zy where
 at_ w F:=xf w b gl F
 lt:=fun h=>h.lt
 yC:=fun h c hd=>h.yC c hd
def Y3 (ds:List Qd):List zy:=ds.map ZA
theorem WB {ds:List Qd}{i:Nat}{d:Qd}(h:ds[i]?=some d):(Y3 ds)[i]?=some (ZA d):=by unfold Y3;rw[List.getElem?_map,h];rfl
theorem Wq (ds:List Qd)(i:Nat)(d:Qd):(Y3 ds).set i (ZA d)=Y3 (ds.set i d):=by unfold Y3;rw[List.map_set]
theorem Own.Qz {w0 w:World}{d:Qd}{q':LQ}{b:Gp}{gl gl':List Int}{R:List zy}(h:Own w0 w (ZA d::Ya b gl::R)){f:FuncId}{args:Array Value}{ret:Ending→Prop}
  (hc:∀F,yu w d.p d.g d.N d.q→xf w b gl F→d.p∉F→d.g∉F→Calls Tryz.prog f args w fun r w'=>ret r∧yu w' d.p d.g d.N q'∧zI (d.p::d.g::F) w w'∧∃F',xf w' b gl' F'∧∀x∈F',x∈F∨w.heap.size≤x) :
  Calls Tryz.prog f args w fun r w'=>ret r∧Own w0 w' (ZA ⟨d.p,d.g,d.N,q',d.xa,d.xc⟩::Ya b gl'::R):=by
 refine h.call2 (fun F G hF hG hd=>?_)
 obtain⟨rfl,h1⟩:=hF;have hp:d.p∉G:=hd _ (by simp)
 have hg:d.g∉G:=hd _ (by simp)
 have hlt:=h1.lt;refine(hc G h1 hG hp hg).mono ?_
 rintro r w' ⟨k1,k2,k3,F',k4,k5⟩;exact⟨k1,[d.p,d.g],F',⟨rfl,k2⟩,k4,fun x hx hc=>by
  simp at hx
  rcases k5 x hc with h|h
  ·rcases hx with rfl|rfl
   ·exact hp h
   ·exact hg h
  ·rcases hx with rfl|rfl<;>omega,k3,fun x hx=>.inl (by simp at hx ⊢;rcases hx with rfl|rfl<;>simp),fun x hx=>by
  rcases k5 x hx with h|h
  ·exact .inl (by simp[h])
  ·exact .inr h⟩
section
variable {w0 w:World} {d:Qd} {b:Gp} {gl:List Int} {R:List zy}
theorem R8 (h:Own w0 w (ZA d::Ya b gl::R))(v:Int)(hl:gl.length≤1000000) :
  Calls Tryz.prog 86 #[.pointer (some ⟨d.p,0,none⟩),.int .i64 v,.pointer (some ⟨b.b,14,none⟩)] w fun r w'=>r=.returned (.int .i64 ((xt d.N d.q v gl).2.2:Int))∧Own w0 w' (ZA ⟨d.p,d.g,d.N,(xt d.N d.q v gl).1,d.xa,d.xc⟩::Ya b (xt d.N d.q v gl).2.1::R) :=
 h.Qz (fun F h1 h2 h3 h4=>QD w d.p d.g d.N b d.q gl F v h1 h2 h3 h4 hl)
theorem N3 (h:Own w0 w (ZA d::Ya b gl::R))(hl:gl.length≤1000000) :
  Calls Tryz.prog 94 #[.pointer (some ⟨d.p,0,none⟩),.pointer (some ⟨b.b,14,none⟩)] w fun r w'=>r=.returned (.int .i64 ((mTurn d.N d.q gl).2.2:Int))∧Own w0 w' (ZA ⟨d.p,d.g,d.N,⟨none,(mTurn d.N d.q gl).1.l⟩,d.xa,d.xc⟩::Ya b (mTurn d.N d.q gl).2.1::R) :=
 h.Qz (fun F h1 h2 h3 h4=>Tr w d.p d.g d.N b d.q gl F h1 h2 h3 h4 hl)
theorem PE (h:Own w0 w (ZA d::Ya b gl::R))(k:Int)(hl:gl.length≤1000000) :
  Calls Tryz.prog 107 #[.pointer (some ⟨d.p,0,none⟩),.pointer (some ⟨b.b,14,none⟩),.int .i64 k] w fun r w'=>r=.returned (Zh (mFetch d.N d.q gl k).2.2)∧Own w0 w' (ZA ⟨d.p,d.g,d.N,(mFetch d.N d.q gl k).1,d.xa,d.xc⟩::Ya b (mFetch d.N d.q gl k).2.1::R) :=
 h.Qz (fun F h1 h2 h3 h4=>(QE w d.p d.g d.N b d.q gl F k h1 h2 h3 h4 hl).mono fun r w' ⟨k1,k2,k3,k4⟩=>⟨k1,k2,k3,F,k4,fun x hx=>.inl hx⟩)
theorem KP (h:Own w0 w (ZA d::R)) :
  Calls Tryz.prog 83 #[.pointer (some ⟨d.p,0,none⟩)] w fun r w'=>r=.returned (Zh (mGet d.q).2)∧Own w0 w' (ZA ⟨d.p,d.g,d.N,(mGet d.q).1,d.xa,d.xc⟩::R) :=
 h.P8 (fun F ⟨e,h1⟩=>(Lz w d.p d.g d.N d.q h1).mono fun r w' ⟨k1,k2,k3⟩=>⟨k1,[d.p,d.g],⟨rfl,k2⟩,by rw[e];exact k3,fun x hx=>.inl (by rw[e];exact hx)⟩)
theorem Qn {e:Qd}(h:Own w0 w (ZA d::ZA e::R)) :
  Calls Tryz.prog 96 #[.pointer (some ⟨d.p,0,none⟩),.pointer (some ⟨e.p,0,none⟩)] w fun r w'=>r=.returned (Zh (mSteal d.N d.q e.q).2.2)∧Own w0 w' (ZA ⟨d.p,d.g,d.N,(mSteal d.N d.q e.q).1,d.xa,d.xc⟩::ZA ⟨e.p,e.g,e.N,(mSteal d.N d.q e.q).2.1,e.xa,e.xc⟩::R):=by
 refine h.call2 (fun F G hF hG hd=>?_)
 obtain⟨rfl,h1⟩:=hF;obtain⟨rfl,h2⟩:=hG;have d1:d.p≠e.p:=fun hc=>hd d.p (by simp) (by simp[hc])
 have d2:d.p≠e.g:=fun hc=>hd d.p (by simp) (by simp[hc])
 have d3:d.g≠e.p:=fun hc=>hd d.g (by simp) (by simp[hc])
 have d4:d.g≠e.g:=fun hc=>hd d.g (by simp) (by simp[hc])
 refine(Q3 w d.p d.g d.N e.p e.g e.N d.q e.q h1 h2 d1 d2 d3 d4).mono ?_
 rintro r w' ⟨k1,k2,k3,k4⟩;exact⟨k1,[d.p,d.g],[e.p,e.g],⟨rfl,k2⟩,⟨rfl,k3⟩,hd,by simpa using k4,fun x hx=>.inl (by simp at hx ⊢;omega),fun x hx=>.inl (by simp at hx ⊢;omega)⟩
theorem NR (h:Own w0 w (Ya b gl::R))(a:Option Addr)(n c:Nat)(m:List Int)(hn:n=m.length)(hm:yR w a m)(hl:gl.length+m.length≤1000000000) :
  Calls Tryz.prog 39 #[.pointer (some ⟨b.b,14,none⟩),.slice a n c] w fun r w'=>r=.returned (.tuple #[])∧Own w0 w' (Ya b (gl++m)::R) :=
 h.P8 (fun F h1=>(RL w b gl F h1 a n c m hn hm hl).mono fun r w' ⟨k1,k2,F',k3,k4⟩=>⟨k1,F',k3,k2,k4⟩)
theorem PN (h:Own w0 w (Ya b gl::R))(k:Int)(hl:gl.length≤1000000) :
  Calls Tryz.prog 106 #[.pointer (some ⟨b.b,14,none⟩),.int .i64 k] w fun r w'=>∃a' c',r=.returned (.slice a' (xk k gl.length) c')∧Own w0 w' (VR a' c' (gl.take (xk k gl.length))::Ya b (gl.drop (xk k gl.length))::R):=by
 refine(Own.call (As:=[Ya b gl]) (R:=R) h (post:=fun r l=>∃a' c',r=.returned (.slice a' (xk k gl.length) c')∧l=[VR a' c' (gl.take (xk k gl.length)),Ya b (gl.drop (xk k gl.length))]) (fun F hF=>?_)).mono ?_
 ·have h1:=xo.1 hF
  have hlt:=h1.lt;refine(U6 w b gl F k h1 hl).mono ?_
  rintro r w' ⟨a',c',k1,k2,k3,k4,k5⟩;refine⟨_,⟨a',c',k1,rfl⟩,yf a'++F,⟨yf a',F,rfl,⟨rfl,k2⟩,fun x hx hc=>by have:=k3 x hx;have:=hlt x hc;omega,xo.2 k4⟩,k5,fun x hx=>?_⟩
  rcases List.mem_append.1 hx with h|h
  ·exact .inr (k3 x h)
  ·exact .inl h
 ·rintro r w' ⟨_,⟨a',c',k1,rfl⟩,k3⟩
  exact⟨a',c',k1,k3⟩
end
end Go.Proofs.YtlkjheheofgdgaaGreat
open Go Go.RowKit
namespace Go.Proofs.YtlkjheheofgdgaaGreat
abbrev Wt:=Int×Int×Int
def wv (x:Wt):Value:=.agg #[.int .i64 x.1,.int .i64 x.2.1,.int .i64 x.2.2]
def xe (l:List Wt):List Value:=l.flatMap fun x=>[.int .i64 x.1,.int .i64 x.2.1,.int .i64 x.2.2]
theorem P5 (l:List Wt):(xe l).length=l.length*3:=by
 unfold xe;induction l with
 | nil=>rfl
 | cons x l ih=>simp only[List.flatMap_cons,List.length_append,ih,List.length_cons,List.length_nil];omega
theorem OL (l m:List Wt):xe (l++m)=xe l++xe m:=by unfold xe;rw[List.flatMap_append]
theorem Yc (x:Wt)(l:List Wt):xe (x::l)=.int .i64 x.1::.int .i64 x.2.1::.int .i64 x.2.2::xe l:=rfl
theorem Jc:∀(l:List Wt) (i:Nat) (h:i<l.length),(xe l)[i*3]?=some (.int .i64 l[i].1)∧(xe l)[i*3+1]?=some (.int .i64 l[i].2.1)∧(xe l)[i*3+2]?=some (.int .i64 l[i].2.2)
 | x::l,0,_=>⟨rfl,rfl,rfl⟩
 | x::l,i+1,h=>by
  have:=Jc l i (by simpa using h)
  rw[Yc,show(i+1)*3=i*3+1+1+1 by omega]
  exact this
theorem M7 (l:List Wt)(n:Nat):xe (l.drop n)=(xe l).drop (n*3):=by
 induction l generalizing n with
 | nil=>simp[xe]
 | cons x l ih =>
  cases n with
  | zero=>simp
  | succ n =>
   rw[QQ,Yc,show(n+1)*3=n*3+1+1+1 by omega]
   simp only[QQ];exact ih n
theorem Rj (l:List Wt)(n:Nat):xe (l.take n)=(xe l).take (n*3):=by
 induction l generalizing n with
 | nil=>simp[xe]
 | cons x l ih =>
  cases n with
  | zero=>simp[xe]
  | succ n =>
   rw[QX,Yc,Yc,show(n+1)*3=n*3+1+1+1 by omega]
   simp only[QX];rw[ih]
theorem Ox (l:List Wt):∀v∈xe l,v.oneCell'=true:=fun v hv=>by
 unfold xe at hv;rw[List.mem_flatMap] at hv;obtain⟨x,_,hx⟩:=hv;simp at hx
 rcases hx with rfl|rfl|rfl<;>rfl
theorem zt.wt {w:World}{a:Option Addr}{l:List Wt}(h:zt w a (xe l))(i:Nat)(hi:i<l.length):∃b off,a=some ⟨b,off,none⟩∧w.cell? ⟨b,off+i*3,none⟩=some (.int .i64 l[i].1)∧w.cell? ⟨b,off+i*3+1,none⟩=some (.int .i64 l[i].2.1)∧w.cell? ⟨b,off+i*3+2,none⟩=some (.int .i64 l[i].2.2):=by
 obtain⟨h1,h2,h3⟩:=Jc l i hi;obtain⟨b,off,rfl,e1⟩:=h _ _ h1;obtain⟨b2,o2,k2,e2⟩:=h _ _ h2;obtain⟨b3,o3,k3,e3⟩:=h _ _ h3;cases k2
 cases k3
 exact⟨b,off,rfl,e1,by rw[Nat.add_assoc];exact e2,by rw[Nat.add_assoc];exact e3⟩
theorem T1:(Tryz.prog.info? 270).map (fun i=>(i.zero,i.size,i.bytes))=some (some (.agg #[.int .i64 0,.int .i64 0,.int .i64 0]),3,24):=by kernel_rfl
theorem WA:(Tryz.prog.info? 2).map (fun i=>(i.zero,i.size,i.bytes))=some (some (.int .i64 0),1,8):=by kernel_rfl
theorem Sp:∀w,(sizeOf (Tryz.prog.elem 191)).run Tryz.prog w=.ok 3 w:=by
 obtain⟨i0,hi,hz0,hz1,hz2⟩:=info_parts T1;intro w;have e:Tryz.prog.elem 191=270:=by kernel_rfl
 rw[e];simp[sizeOf,typeInfo,hi,hz1]
theorem V3:Tryz.prog.underlying 191=some (.slice (Tryz.prog.elem 191)):=by
 have e:Tryz.prog.elem 191=270:=by kernel_rfl
 rw[e];exact Tryz.underlying191
theorem Ij:∀w,(sizeOf (Tryz.prog.elem 39)).run Tryz.prog w=.ok 1 w:=by
 obtain⟨i0,hi,hz0,hz1,hz2⟩:=info_parts WA;intro w;have e:Tryz.prog.elem 39=2:=by kernel_rfl
 rw[e];simp[sizeOf,typeInfo,hi,hz1]
theorem M8:Tryz.prog.underlying 39=some (.slice (Tryz.prog.elem 39)):=by
 have e:Tryz.prog.elem 39=2:=by kernel_rfl
 rw[e];exact Tryz.underlying39
def zw:Wt:=(0,0,0)
theorem Vg {w0 w:World}{R:List zy}{p k c:Nat}{cs:List Value}{a:Option Addr}(h:Own w0 w (zf p cs::R))(hk:cs[k]?=some (.slice a 0 c)) :
  Calls Tryz.prog 185 #[.pointer (some ⟨p,k,none⟩)] w fun r w'=>r=.returned (.tuple #[wv zw,.bool false])∧Own w0 w' (zf p cs::R)∧Below w.heap.size w w':=by
 obtain⟨g0,f0⟩:=h.zo 0 rfl k _ hk;have hs:∀w',Below w.heap.size w w'→Own w0 w' (zf p cs::R)∧Below w.heap.size w w':=fun w' hb=>⟨h.step hb,hb⟩
 have HS:=Qq hs;have hpl:=World.block_lt_of_cell? w _ g0
 clear h hs hk;go_enter Tryz.func185,Tryz.ntmps185
 go_wp2;exact bodyPost_ret (v:=.tuple #[wv zw,.bool false]) (by simp[results,Tryz.results185,go_sem,wv,zw]) rfl ⟨rfl,HS.out _ (by repeat(first|exact Below.refl _ _|refine Below.setCell ?_ (by simp) _|refine Below.alloc ?_ (by simp) _))⟩
theorem U5 {w0 w:World}{R:List zy}{p k c n:Nat}{cs:List Value}{a:Option Addr}{x:Wt}{t:List Wt}(h:Own w0 w (zf p cs::zd 3 a c n (xe (x::t))::R))(hk:cs[k]?=some (.slice a n c))(hn:n=(x::t).length)(hnl:n≤1000000) :
  Calls Tryz.prog 185 #[.pointer (some ⟨p,k,none⟩)] w fun r w'=>r=.returned (.tuple #[wv x,.bool true])∧∃a',Own w0 w' (zf p (cs.set k (.slice a' t.length (c-1)))::zd 3 a' (c-1) t.length (xe t)::R):=by
 obtain⟨g0,f0⟩:=h.zo 0 rfl k _ hk;have hrow:=h.yZ 1 rfl;obtain⟨b,off,rfl,e1,e2,e3⟩:=hrow.cells.wt 0 (by simp)
 simp only[List.getElem_cons_zero,Nat.zero_mul,Nat.add_zero] at e1 e2 e3;obtain⟨a',hsl,hrow',hbl⟩:=Xh V3 Sp hrow 1 (by rw[hn];simp)
 have hsl2:∀w,(Instr.slice 191 (.slice (some ⟨b,off,none⟩) n c) (some (.int .i64 1)) none none).run Tryz.prog w=.ok (.slice a' (n-1) (c-1)) w:=hsl
 rw[Nat.one_mul,Yc] at hrow'
 simp only[QQ,QJ] at hrow'
 have hn1:n-1=t.length:=by rw[hn];simp
 rw[hn1] at hsl2 hrow'
 have hn0:0<n:=by rw[hn];simp
 have hpl:=World.block_lt_of_cell? w _ g0
 have hbp:b<w.heap.size:=World.block_lt_of_cell? w _ e1
 have hne:∀x∈yf (some ⟨b,off,none⟩),x∉[p]:=fun x hx hc=>by
  obtain⟨_,F,⟨F1,F2,rfl,⟨rfl,_⟩,h4,F3,F4,rfl,⟨rfl,_⟩,_,_⟩,_⟩:=h;simp at hc;subst hc
  exact h4 x (by simp) (by simp[hx])
 have hs:∃a'',Own w0 (w.setCell ⟨p,k,none⟩ (.slice a' t.length (c-1))) (zf p (cs.set k (.slice a'' t.length (c-1)))::zd 3 a'' (c-1) t.length (xe t)::R):=by
  have h2:=h.setAt 0 rfl k (.slice a' t.length (c-1))
  have h3:=Own.xj (h2.pick 1 rfl) (hrow'.yC (F:=[p]) ((zI.refl _ _).setCell _ (.inl (by simp))) (fun x hx=>hne x (by rw[←hbl];exact hx))) (zI.refl _ _) (fun x hx=>.inl (by rw[hbl] at hx;exact hx))
  exact⟨a',h3.pick 1 rfl⟩
 have hs:=fun o1 o2=>hs.imp fun a'' h=>h.step (below_alloc2 _ o1 o2)
 have HS:=Qq hs;clear h hs hrow hrow' hsl hne hbl hn hn1 hk;go_enter Tryz.func185,Tryz.ntmps185
 go_wp2;exact bodyPost_ret (v:=.tuple #[wv x,.bool true]) (by simp[results,Tryz.results185,go_sem,wv]) rfl ⟨rfl,HS.out _ _⟩
theorem MO {w0 w:World}{R:List zy}{p k c:Nat}{cs:List Value}{a:Option Addr}(h:Own w0 w (zf p cs::R))(hk:cs[k]?=some (.slice a 0 c)) :
  Calls Tryz.prog 186 #[.pointer (some ⟨p,k,none⟩)] w fun r w'=>r=.returned (.tuple #[.int .i64 0,.bool false])∧w=w':=by
 obtain⟨g0,f0⟩:=h.zo 0 rfl k _ hk;clear h hk;go_enter Tryz.func186,Tryz.ntmps186
 go_wp2;go_ret2
 exact⟨rfl,rfl⟩
theorem Tj {w0 w:World}{R:List zy}{p k c n:Nat}{cs:List Value}{a:Option Addr}{x:Int}{t:List Int}(h:Own w0 w (zf p cs::zd 1 a c n (zr (x::t))::R))(hk:cs[k]?=some (.slice a n c))(hn:n=(x::t).length)(hnl:n≤1000000) :
  Calls Tryz.prog 186 #[.pointer (some ⟨p,k,none⟩)] w fun r w'=>r=.returned (.tuple #[.int .i64 x,.bool true])∧∃a',Own w0 w' (zf p (cs.set k (.slice a' t.length (c-1)))::zd 1 a' (c-1) t.length (zr t)::R):=by
 obtain⟨g0,f0⟩:=h.zo 0 rfl k _ hk;have hrow:=h.yZ 1 rfl;obtain⟨b,off,rfl,e1⟩:=hrow.cells.int 0 (by simp)
 simp only[List.getElem_cons_zero,Nat.add_zero] at e1;obtain⟨a',hsl,hrow',hbl⟩:=Xh M8 Ij hrow 1 (by rw[hn];simp)
 have hsl2:∀w,(Instr.slice 39 (.slice (some ⟨b,off,none⟩) n c) (some (.int .i64 1)) none none).run Tryz.prog w=.ok (.slice a' (n-1) (c-1)) w:=hsl
 have hcd:(zr (x::t)).drop 1=zr t:=rfl
 rw[Nat.one_mul,hcd] at hrow'
 have hn1:n-1=t.length:=by rw[hn];simp
 rw[hn1] at hsl2 hrow'
 have hn0:0<n:=by rw[hn];simp
 have hpl:=World.block_lt_of_cell? w _ g0
 have hbp:b<w.heap.size:=World.block_lt_of_cell? w _ e1
 have hne:∀x∈yf (some ⟨b,off,none⟩),x∉[p]:=fun x hx hc=>by
  obtain⟨_,F,⟨F1,F2,rfl,⟨rfl,_⟩,h4,F3,F4,rfl,⟨rfl,_⟩,_,_⟩,_⟩:=h;simp at hc;subst hc
  exact h4 x (by simp) (by simp[hx])
 have hs:∃a'',Own w0 (w.setCell ⟨p,k,none⟩ (.slice a' t.length (c-1))) (zf p (cs.set k (.slice a'' t.length (c-1)))::zd 1 a'' (c-1) t.length (zr t)::R):=by
  have h2:=h.setAt 0 rfl k (.slice a' t.length (c-1))
  have h3:=Own.xj (h2.pick 1 rfl) (hrow'.yC (F:=[p]) ((zI.refl _ _).setCell _ (.inl (by simp))) (fun x hx=>hne x (by rw[←hbl];exact hx))) (zI.refl _ _) (fun x hx=>.inl (by rw[hbl] at hx;exact hx))
  exact⟨a',h3.pick 1 rfl⟩
 have HS:=Qq hs;clear h hs hrow hrow' hsl hne hbl hn hn1 hk hcd;go_enter Tryz.func186,Tryz.ntmps186
 go_wp2;go_ret2
 exact⟨rfl,HS.out⟩
structure Ch where
 buf:List Int
 S:List Wt
 R:List Wt
 cl:Bool
 deriving DecidableEq
def yK (N:Nat)(C:Ch)(ba:Option Addr)(bc:Nat)(sa:Option Addr)(sc:Nat)(ra:Option Addr)(rc:Nat):List Value :=
 [.int .i64 (N:Int),.slice ba C.buf.length bc,.slice sa C.S.length sc,.slice ra C.R.length rc,.bool C.cl]
def Pe (p N:Nat)(C:Ch)(ba:Option Addr)(bc:Nat)(sa:Option Addr)(sc:Nat)(ra:Option Addr)(rc:Nat):List zy :=
 [zf p (yK N C ba bc sa sc ra rc),zd 1 ba bc C.buf.length (zr C.buf),zd 3 sa sc C.S.length (xe C.S),zd 3 ra rc C.R.length (xe C.R)]
def yv (p N:Nat)(C:Ch):zy where
 at_ w F:=∃ba bc sa sc ra rc,Sep w (Pe p N C ba bc sa sc ra rc) F
 lt:=by rintro w F ⟨_,_,_,_,_,_,h⟩;exact h.lt
 yC:=by
  rintro w w' F G ⟨ba,bc,sa,sc,ra,rc,h⟩ c hd
  exact⟨ba,bc,sa,sc,ra,rc,h.yC c hd⟩
theorem Own.chan {w0 w:World}{p N:Nat}{C:Ch}{R:List zy}(h:Own w0 w (yv p N C::R)):∃ba bc sa sc ra rc,Own w0 w (zf p (yK N C ba bc sa sc ra rc)::zd 1 ba bc C.buf.length (zr C.buf)::zd 3 sa sc C.S.length (xe C.S)::zd 3 ra rc C.R.length (xe C.R)::R):=by
 obtain⟨As,⟨ba,bc,sa,sc,ra,rc,rfl⟩,h1⟩:=Own.unfold h (P:=fun As=>∃ba bc sa sc ra rc,As=Pe p N C ba bc sa sc ra rc) (fun F ⟨ba,bc,sa,sc,ra,rc,h⟩=>⟨_,⟨ba,bc,sa,sc,ra,rc,rfl⟩,h⟩)
 exact⟨ba,bc,sa,sc,ra,rc,h1⟩
theorem Own.Zi {w0 w:World}{p N:Nat}{C:Ch}{R:List zy}{ba sa ra:Option Addr}{bc sc rc:Nat}(h:Own w0 w (zf p (yK N C ba bc sa sc ra rc)::zd 1 ba bc C.buf.length (zr C.buf)::zd 3 sa sc C.S.length (xe C.S)::zd 3 ra rc C.R.length (xe C.R)::R)):Own w0 w (yv p N C::R) :=
 Own.fold (As:=Pe p N C ba bc sa sc ra rc) h (fun F hF=>⟨ba,bc,sa,sc,ra,rc,hF⟩)
def ZF (z:Int):Nat:=(min (max z 0) 16).toNat
theorem Li (z:Int):ZF z≤16:=by unfold ZF;omega
theorem Lm {w0 w:World}{As:List zy}(h:Own w0 w As)(z:Int) :
  Calls Tryz.prog 65 #[.int .i64 z] w fun r w'=>∃p,r=.returned (.pointer (some ⟨p,0,none⟩))∧Own w0 w' (yv p (ZF z) ⟨[],[],[],false⟩::As)∧Below w.heap.size w w':=by
 obtain⟨N,hN⟩:∃N,N=ZF z:=⟨_,rfl⟩
 have hm:min (max z 0) 16=(N:Int):=by rw[hN];unfold ZF;omega
 have hV:(N:Int)=0∧z<0∨(N:Int)=z∧0≤z∧z≤16∨(N:Int)=16∧16<z:=by omega
 rw[←hN];have hf:Own w0 (w.alloc (.cells #[.int .i64 (N:Int),.slice none 0 0,.slice none 0 0,.slice none 0 0,.bool false] 195)) (yv w.heap.size N ⟨[],[],[],false⟩::As)∧Below w.heap.size w (w.alloc (.cells #[.int .i64 (N:Int),.slice none 0 0,.slice none 0 0,.slice none 0 0,.bool false] 195)):=by
  have h1:=h.add (below_alloc1 w (.cells #[.int .i64 (N:Int),.slice none 0 0,.slice none 0 0,.slice none 0 0,.bool false] 195)) (A:=yv w.heap.size N ⟨[],[],[],false⟩) (F:=[w.heap.size])
   ⟨none,0,none,0,none,0,[w.heap.size],[],rfl,⟨rfl,by simp,zF.mk w (yK N ⟨[],[],[],false⟩ none 0 none 0 none 0) _ _ rfl⟩,by simp,[],[],rfl,⟨rfl,zU.nil _ _⟩,by simp,[],[],rfl,⟨rfl,zU.nil _ _⟩,by simp,[],[],rfl,⟨rfl,zU.nil _ _⟩,by simp,rfl⟩ (fun x hx=>by simp at hx;omega)
  exact⟨h1,below_alloc1 _ _⟩
 have HF:=Qq hf;clear hf h hN hm;rcases hV with⟨hV,hz⟩|⟨hV,hz,hz'⟩|⟨hV,hz⟩
 all_goals
  rw[hV] at HF;have HV:=Qq hV;clear hV
  go_enter Tryz.func65,Tryz.ntmps65
  go_wp2;go_ret;exact⟨_,rfl,HF.out⟩
theorem RO {w0 w:World}{R:List zy}{p N:Nat}{C:Ch}(h:Own w0 w (yv p N C::R)) :
  Calls Tryz.prog 167 #[.pointer (some ⟨p,0,none⟩)] w fun r w'=>r=.returned (.bool (decide (C.buf.length<N)))∧∃m,w'=w.drewN m:=by
 obtain⟨ba,bc,sa,sc,ra,rc,h⟩:=h.chan;obtain⟨g0,-⟩:=h.zo 0 rfl 0 _ rfl;obtain⟨g1,-⟩:=h.zo 0 rfl 1 _ rfl;generalize C.buf.length=n at *;clear h;go_enter Tryz.func167,Tryz.ntmps167
 go_wp2_with fail;go_quiet (fail)
 go_wp2;go_ret;exact⟨Sz (by simp),_,rfl⟩
def mSend (N:Nat)(C:Ch)(v:Int):Ch×Wt×Bool×Int :=
 if C.cl then(C,zw,false,10) else match C.R with
  | x::t=>(⟨C.buf,C.S,t,C.cl⟩,(x.1,x.2.1,v),true,0)
  | []=>if C.buf.length<N then(⟨C.buf++[v],C.S,C.R,C.cl⟩,zw,false,0) else(C,zw,false,6)
theorem Own.Ek {w0 w:World}{As:List zy}{b:Nat}{cs:List Value}(h:Own w0 w (zf b cs::As)):Own w0 w As:=h.drop
theorem MH {w0 w:World}{R:List zy}{p N:Nat}{C:Ch}(h:Own w0 w (yv p N C::R))(v:Int)(hb:C.buf.length≤100000)(hr:C.R.length≤100000) :
  Calls Tryz.prog 179 #[.pointer (some ⟨p,0,none⟩),.int .i64 v] w fun r w'=>r=.returned (.tuple #[wv (mSend N C v).2.1,.bool (mSend N C v).2.2.1,.int .i64 (mSend N C v).2.2.2])∧Own w0 w' (yv p N (mSend N C v).1::R):=by
 have h0:=h;obtain⟨ba,bc,sa,sc,ra,rc,h⟩:=h.chan;obtain⟨buf,S,Rv,cl⟩:=C;have hpl:=World.block_lt_of_cell? w _ (h.zo 0 rfl 0 _ rfl).1
 obtain⟨g4,f4⟩:=h.zo 0 rfl 4 _ rfl;simp only[yK] at h g4 hb hr;cases cl with
 | true =>
  have hs:∀w',Below w.heap.size w w'→Own w0 w' (yv p N ⟨buf,S,Rv,true⟩::R):=fun w' hb=>h0.step hb
  have HS:=Qq hs;clear h h0 hs hb hr;simp only[mSend,if_true];go_enter Tryz.func179,Tryz.ntmps179
  go_wp2;exact bodyPost_ret (v:=.tuple #[wv zw,.bool false,.int .i64 10]) (by simp[results,Tryz.results179,go_sem,wv,zw]) rfl ⟨rfl,HS.out _ (by repeat(first|exact Below.refl _ _|refine Below.setCell ?_ (by simp) _|refine Below.alloc ?_ (by simp) _))⟩
 | false =>
  have hA:=h.alloc [.int .i64 0,.int .i64 0,.int .i64 0] 270 (b:=w.heap.size) rfl
  clear h h0;cases Rv with
  | cons x t =>
   have e:mSend N ⟨buf,S,x::t,false⟩ v=(⟨buf,S,t,false⟩,(x.1,x.2.1,v),true,0):=rfl
   rw[e];have hB:=(hA.pick 4 rfl).pick 2 rfl
   have he:=U5 (k:=3) (R:=[zf w.heap.size [.int .i64 0,.int .i64 0,.int .i64 0],zd 1 ba bc buf.length (zr buf),zd 3 sa sc S.length (xe S)]++R) hB rfl rfl (by simp at hr ⊢;omega)
   have HE:=Qq he;clear he hA hB hb hr e;unfold wv at HE ⊢
   simp only
   go_enter Tryz.func179,Tryz.ntmps179
   go_wp2_with fail;refine HE.out.mono ?_
   rintro r w2 ⟨rfl,a',h2⟩;have h3:Own w0 w2 (zf p (yK N ⟨buf,S,t,false⟩ ba bc sa sc a' (rc-1))::zd 3 a' (rc-1) t.length (xe t)::zf w.heap.size [.int .i64 0,.int .i64 0,.int .i64 0]::zd 1 ba bc buf.length (zr buf)::zd 3 sa sc S.length (xe S)::R):=h2
   have hC:Own w0 w2 (zf w.heap.size [.int .i64 0,.int .i64 0,.int .i64 0]::yv p N ⟨buf,S,t,false⟩::R) :=
    (Own.Zi ((((h3.pick 1 rfl).pick 4 rfl).pick 4 rfl).pick 3 rfl)).pick 1 rfl
   obtain⟨z0,y0⟩:=hC.zo 0 rfl 0 _ rfl;obtain⟨z1,y1⟩:=hC.zo 0 rfl 1 _ rfl;obtain⟨z2,y2⟩:=hC.zo 0 rfl 2 _ rfl;have hzl:=World.block_lt_of_cell? w2 _ z0
   have HC:=Qq hC;clear h2 h3 hC HE;go_wp2;exact bodyPost_ret (v:=.tuple #[.agg #[.int .i64 x.1,.int .i64 x.2.1,.int .i64 v],.bool true,.int .i64 0]) (by simp[results,Tryz.results179,go_sem,hzl,z0,z1,z2]) rfl ⟨rfl,Own.Ek (Own.step (Own.set (Own.set (Own.set HC.out 0 _) 1 _) 2 _) (below_alloc1 _ _))⟩
  | nil =>
   have e:mSend N ⟨buf,S,[],false⟩ v=if buf.length<N then(⟨buf++[v],S,[],false⟩,zw,false,0) else(⟨buf,S,[],false⟩,zw,false,6):=rfl
   rw[e];have he:=Vg (k:=3) (R:=[zf w.heap.size [.int .i64 0,.int .i64 0,.int .i64 0],zd 1 ba bc buf.length (zr buf),zd 3 sa sc S.length (xe S),zd 3 ra rc 0 (xe [])]++R) (hA.pick 1 rfl) rfl
   have HE:=Qq he;clear he hA hr e;obtain⟨n,hn⟩:∃n,n=buf.length:=⟨_,rfl⟩
   rw[←hn] at HE hb ⊢;have HN:=Qq hn;clear hn;unfold wv at HE ⊢
   by_cases hlt:n<N
   case' pos=>rw[if_pos hlt];have hd:=Qq (show decide (n<N)=true by simpa using hlt)
   case' neg=>rw[if_neg hlt];have hd:=Qq (show decide (n<N)=false by simpa using hlt)
   all_goals
      have HLT:=Qq hlt;clear hlt;simp only[zw] at HE ⊢
      go_enter Tryz.func179,Tryz.ntmps179
      go_wp2_with fail;refine HE.out.mono ?_
      rintro r w2 ⟨rfl,h2,b2⟩;have h3:Own w0 w2 (zf p (yK N ⟨buf,S,[],false⟩ ba bc sa sc ra rc)::zf w.heap.size [.int .i64 0,.int .i64 0,.int .i64 0]::zd 1 ba bc buf.length (zr buf)::zd 3 sa sc S.length (xe S)::zd 3 ra rc 0 (xe [])::R):=by rw[HN.out] at h2;exact h2
      have h4:Own w0 w2 (zf w.heap.size [.int .i64 0,.int .i64 0,.int .i64 0]::yv p N ⟨buf,S,[],false⟩::R):=(Own.Zi (((((h3.pick 4 rfl).pick 4 rfl).pick 4 rfl).pick 3 rfl))).pick 1 rfl
      obtain⟨z0,y0⟩:=h3.zo 1 rfl 0 _ rfl;obtain⟨z1,y1⟩:=h3.zo 1 rfl 1 _ rfl;obtain⟨z2,y2⟩:=h3.zo 1 rfl 2 _ rfl;have hzl:=World.block_lt_of_cell? w2 _ z0
      have hg:=RO ((h4.pick 1 rfl).step (below_alloc1 w2 (.cells #[.int .i64 0,.int .i64 0,.int .i64 0] 270)))
      simp only at hg
      rw[←HN.out] at hg;have HG:=Qq hg;have H4:=Qq h4;have H3:=Qq h3;clear h2 h3 h4 hg b2 HE;go_wp2_with fail;refine HG.out.mono ?_
      rintro r w3 ⟨rfl,m,rfl⟩;have hB3:Below w2.heap.size w2 ((w2.alloc (.cells #[.int .i64 0,.int .i64 0,.int .i64 0] 270)).drewN m):=below_drewN (below_alloc1 _ _) m
      generalize (w2.alloc (.cells #[.int .i64 0,.int .i64 0,.int .i64 0] 270)).drewN m=W3 at *
      have h3:=H3.out.step hB3;have h4:=H4.out.step hB3;obtain⟨p1,q1⟩:=h3.zo 0 rfl 1 _ rfl;rw[show(Value.slice ba (Ch.buf ⟨buf,S,[],false⟩).length bc)=Value.slice ba n bc by rw[HN.out]] at p1
      obtain⟨z0',y0'⟩:=h4.zo 0 rfl 0 _ rfl;obtain⟨z1',y1'⟩:=h4.zo 0 rfl 1 _ rfl;obtain⟨z2',y2'⟩:=h4.zo 0 rfl 2 _ rfl;have hzl':=World.block_lt_of_cell? W3 _ z0'
      have K3:=Qq h3;have K4:=Qq h4;clear h3 h4 HG z0 y0 z1 y1 z2 y2 hzl g4 f4 H3 H4 hB3;have hd1:=hd.out;rw[hd1];clear hd hd1
   ·go_wp2
    exact bodyPost_ret (v:=.tuple #[.agg #[.int .i64 0,.int .i64 0,.int .i64 0],.bool false,.int .i64 6]) (by simp[results,Tryz.results179,go_sem,hzl',z0',z1',z2']) rfl ⟨rfl,Own.Ek (Own.set (Own.set (Own.set K4.out 0 _) 1 _) 2 _)⟩
   ·have hrow:=K3.out.yZ 2 rfl
    rw[←HN.out] at hrow;have HR:=Qq hrow;obtain⟨i0,hi0,hz0,hz1,hz2⟩:=info_parts WA;have Hi:=Qq hi0;clear hi0
    have Hz0:=Qq hz0;clear hz0
    have Hz1:=Qq hz1;clear hz1
    have Hz2:=Qq hz2;clear hz2
    clear hrow;go_wp2_with (at_builtin;refine yr (m:=1) (ds:=zr [v]) rfl _ _ 39 rfl 2 i0 _ Tryz.underlying39 Hi.out Hz0.out Hz1.out Hz2.out rfl (by omega) (by omega) rfl rfl (HR.out.below (below_alloc1 _ _)) (zt.new _ (zr [v]) _ rfl) rfl (ZQ _) (by omega) ?_)
    intro a1 c1 w4 k1 ch1 f1;have h5:=Own.xj ((K3.out.step (below_alloc1 W3 (.cells #[.int .i64 v] 2))).pick 2 rfl) k1 ch1 (fun x hx=>by have:=f1 x hx;simpa using this)
    obtain⟨p1',q1'⟩:=h5.zo 1 rfl 1 _ rfl;have h6:Own w0 (w4.setCell ⟨p,1,none⟩ (.slice a1 (n+1) c1)) (zd 1 a1 c1 (n+1) (zr (buf++[v]))::zf p (yK N ⟨buf++[v],S,[],false⟩ a1 c1 sa sc ra rc)::zf w.heap.size [.int .i64 0,.int .i64 0,.int .i64 0]::zd 3 sa sc S.length (xe S)::zd 3 ra rc 0 (xe [])::R):=by
     have h7:=h5.setAt 1 rfl 1 (.slice a1 (n+1) c1)
     have e:n+1=(buf++[v]).length:=by rw[HN.out];simp
     rw[ZT];simp only[yK];rw[←e];exact h7
    have e:n+1=(buf++[v]).length:=by rw[HN.out];simp
    rw[e] at h6;have hC:Own w0 (w4.setCell ⟨p,1,none⟩ (.slice a1 (n+1) c1)) (zf w.heap.size [.int .i64 0,.int .i64 0,.int .i64 0]::yv p N ⟨buf++[v],S,[],false⟩::R):=by
     rw[e];exact(Own.Zi ((((h6.pick 4 rfl).pick 4 rfl).pick 2 rfl).pick 3 rfl)).pick 1 rfl
    obtain⟨z0,y0⟩:=hC.zo 0 rfl 0 _ rfl;obtain⟨z1,y1⟩:=hC.zo 0 rfl 1 _ rfl;obtain⟨z2,y2⟩:=hC.zo 0 rfl 2 _ rfl;obtain⟨u0,v0⟩:=h5.zo 2 rfl 0 _ rfl;obtain⟨u1,v1⟩:=h5.zo 2 rfl 1 _ rfl;obtain⟨u2,v2⟩:=h5.zo 2 rfl 2 _ rfl;have hpw:p≠w.heap.size:=by omega
    have hpl4:=World.block_lt_of_cell? w4 _ p1'
    have hzl4:=World.block_lt_of_cell? w4 _ u0
    have HC:=Qq hC;clear h5 h6 hC k1 ch1 f1 e z0' y0' z1' y1' z2' y2' hzl' p1 q1;go_wp2;exact bodyPost_ret (v:=.tuple #[.agg #[.int .i64 0,.int .i64 0,.int .i64 0],.bool false,.int .i64 0]) (by simp[results,Tryz.results179,go_sem,hzl4,u0,u1,u2]) rfl ⟨rfl,Own.Ek (Own.set (Own.set (Own.set HC.out 0 _) 1 _) 2 _)⟩
def TO (v:Int)(some_:Bool)(x:Wt)(woken:Bool):Value:=.agg #[.int .i64 v,.bool some_,.int .i64 x.1,.int .i64 x.2.1,.int .i64 x.2.2,.bool woken]
theorem Own.Uw {w0 w w':World}{As:List zy}{s:Nat}{a a':Option Addr}{cap cap' n n':Nat}{cs cs':List Value}(c:zI (yf a) w w')(hr:zU s w' a' cap' n' cs')(hf:∀x∈yf a',x∈yf a∨w.heap.size≤x)(h:Own w0 w (zd s a cap n cs::As)) :
  Own w0 w' (zd s a' cap' n' cs'::As):=Own.xj h hr c hf
def mRecv (C:Ch):Ch×(Int×Bool×Wt×Bool)×Int:=match C.S with
 | x::t=>(match C.buf++[x.2.2] with
  | y::b=>(⟨b,t,C.R,C.cl⟩,(y,true,x,true),0)
  | []=>(⟨[],t,C.R,C.cl⟩,(0,false,x,true),0))
 | []=>match C.buf with
  | y::b=>(⟨b,[],C.R,C.cl⟩,(y,true,zw,false),0)
  | []=>(C,(0,false,zw,false),if C.cl then 0 else 5)
theorem XQ {w0 w:World}{As:List zy}(h:Own w0 w As)(l m:List Value)(t u:TypeId):Own w0 ((w.alloc (.cells l.toArray t)).alloc (.cells m.toArray u)) (zf (w.heap.size+1) m::zf w.heap.size l::As) :=
 (h.alloc l t rfl).alloc m u (by simp)
theorem QC {w0 w:World}{R:List zy}{p N:Nat}{Rv:List Wt}{cl:Bool}(h:Own w0 w (yv p N ⟨[],[],Rv,cl⟩::R)) :
  Calls Tryz.prog 180 #[.pointer (some ⟨p,0,none⟩)] w fun r w'=>r=.returned (.tuple #[TO 0 false zw false,.int .i64 (if cl then 0 else 5)])∧Own w0 w' (yv p N ⟨[],[],Rv,cl⟩::R):=by
 obtain⟨ba,bc,sa,sc,ra,rc,h1⟩:=h.chan;have hpl:=World.block_lt_of_cell? w _ (h1.zo 0 rfl 0 _ rfl).1
 have hA:=XQ h1 [.int .i64 0,.bool false,.int .i64 0,.int .i64 0,.int .i64 0,.bool false] [.int .i64 0,.bool false,.int .i64 0,.int .i64 0,.int .i64 0,.bool false] 290 290
 have he:=Vg (k:=2) (a:=sa) (c:=sc) (hA.pick 2 rfl) rfl
 have HE:=Qq he;clear hA he h h1;unfold wv at HE;simp only[zw] at HE;have hw:∀e:Int,.returned (Value.tuple #[TO 0 false zw false,.int .i64 e])=Ending.returned (.tuple #[.agg #[.int .i64 0,.bool false,.int .i64 0,.int .i64 0,.int .i64 0,.bool false],.int .i64 e]):=fun e=>rfl
 rw[hw];clear hw;go_enter Tryz.func180,Tryz.ntmps180
 go_wp2_with fail;refine HE.out.mono ?_
 rintro r w2 ⟨rfl,h2,b2⟩;have h3:Own w0 w2 (zf p (yK N ⟨[],[],Rv,cl⟩ ba bc sa sc ra rc)::zf (w.heap.size+1) [.int .i64 0,.bool false,.int .i64 0,.int .i64 0,.int .i64 0,.bool false]::zf w.heap.size [.int .i64 0,.bool false,.int .i64 0,.int .i64 0,.int .i64 0,.bool false]::zd 1 ba bc 0 (zr [])::zd 3 sa sc 0 (xe [])::zd 3 ra rc Rv.length (xe Rv)::R):=h2
 have h4:=(((h3.setAt 1 rfl 2 (.int .i64 0)).setAt 1 rfl 3 (.int .i64 0)).setAt 1 rfl 4 (.int .i64 0)).setAt 1 rfl 5 (.bool false)
 obtain⟨a2,b2'⟩:=h3.zo 1 rfl 2 _ rfl;obtain⟨a3,b3⟩:=h3.zo 1 rfl 3 _ rfl;obtain⟨a4,b4⟩:=h3.zo 1 rfl 4 _ rfl;obtain⟨a5,b5⟩:=h3.zo 1 rfl 5 _ rfl;have H4:=Qq h4;clear h2 h3 h4 b2 HE;go_wp2_with fail;refine(MO (k:=1) H4.out rfl).mono ?_
 rintro r w3 ⟨rfl,rfl⟩;generalize hW:(((w2.setCell ⟨w.heap.size+1,2,none⟩ (.int .i64 0)).setCell ⟨w.heap.size+1,3,none⟩ (.int .i64 0)).setCell ⟨w.heap.size+1,4,none⟩ (.int .i64 0)).setCell ⟨w.heap.size+1,5,none⟩ (.bool false)=W3 at *
 have h5:=H4.out;obtain⟨c0,d0⟩:=h5.zo 1 rfl 0 _ rfl;obtain⟨c1,d1⟩:=h5.zo 1 rfl 1 _ rfl;obtain⟨c2,d2⟩:=h5.zo 1 rfl 2 _ rfl;obtain⟨c3,d3⟩:=h5.zo 1 rfl 3 _ rfl;obtain⟨c4,d4⟩:=h5.zo 1 rfl 4 _ rfl;obtain⟨c5,d5⟩:=h5.zo 1 rfl 5 _ rfl;obtain⟨e0,f0⟩:=h5.zo 2 rfl 0 _ rfl;obtain⟨e1,f1⟩:=h5.zo 2 rfl 1 _ rfl;obtain⟨e2,f2⟩:=h5.zo 2 rfl 2 _ rfl;obtain⟨e3,f3⟩:=h5.zo 2 rfl 3 _ rfl;obtain⟨e4,f4⟩:=h5.zo 2 rfl 4 _ rfl;obtain⟨e5,f5⟩:=h5.zo 2 rfl 5 _ rfl;obtain⟨g4,k4⟩:=h5.zo 0 rfl 4 _ rfl;have hps:p≠w.heap.size+1:=by omega
 have hps2:p≠w.heap.size:=by omega
 have hfin:∀v0 v1 u0 u1 u2 u3 u4 u5,Own w0 ((((((((W3.setCell ⟨w.heap.size+1,0,none⟩ v0).setCell ⟨w.heap.size+1,1,none⟩ v1).setCell ⟨w.heap.size,0,none⟩ u0).setCell ⟨w.heap.size,1,none⟩ u1).setCell ⟨w.heap.size,2,none⟩ u2).setCell ⟨w.heap.size,3,none⟩ u3).setCell ⟨w.heap.size,4,none⟩ u4).setCell ⟨w.heap.size,5,none⟩ u5) (yv p N ⟨[],[],Rv,cl⟩::R):=fun v0 v1 u0 u1 u2 u3 u4 u5=>by
  have h6:=(((((((h5.setAt 1 rfl 0 v0).setAt 1 rfl 1 v1).setAt 2 rfl 0 u0).setAt 2 rfl 1 u1).setAt 2 rfl 2 u2).setAt 2 rfl 3 u3).setAt 2 rfl 4 u4).setAt 2 rfl 5 u5
  exact Own.Zi ((h6.pick 1 rfl).drop.pick 1 rfl).drop
 have HF:=Qq hfin;clear h5 hfin H4 hW a2 b2' a3 b3 a4 b4 a5 b5;cases cl
 all_goals
  simp only[yK] at g4;go_wp2
 ·exact bodyPost_ret (v:=.tuple #[.agg #[.int .i64 0,.bool false,.int .i64 0,.int .i64 0,.int .i64 0,.bool false],.int .i64 5]) (by simp[results,Tryz.results180,go_sem,e0,e1,e2,e3,e4,e5]) rfl ⟨rfl,HF.out _ _ _ _ _ _ _ _⟩
 ·exact bodyPost_ret (v:=.tuple #[.agg #[.int .i64 0,.bool false,.int .i64 0,.int .i64 0,.int .i64 0,.bool false],.int .i64 0]) (by simp[results,Tryz.results180,go_sem,e0,e1,e2,e3,e4,e5]) rfl ⟨rfl,HF.out _ _ _ _ _ _ _ _⟩
theorem Nn {w0 w:World}{R:List zy}{p N:Nat}{Rv:List Wt}{cl:Bool}{y:Int}{b:List Int}(h:Own w0 w (yv p N ⟨y::b,[],Rv,cl⟩::R))(hbl:b.length≤100000) :
  Calls Tryz.prog 180 #[.pointer (some ⟨p,0,none⟩)] w fun r w'=>r=.returned (.tuple #[TO y true zw false,.int .i64 0])∧Own w0 w' (yv p N ⟨b,[],Rv,cl⟩::R):=by
 obtain⟨ba,bc,sa,sc,ra,rc,h1⟩:=h.chan;have hpl:=World.block_lt_of_cell? w _ (h1.zo 0 rfl 0 _ rfl).1
 have hA:=XQ h1 [.int .i64 0,.bool false,.int .i64 0,.int .i64 0,.int .i64 0,.bool false] [.int .i64 0,.bool false,.int .i64 0,.int .i64 0,.int .i64 0,.bool false] 290 290
 have he:=Vg (k:=2) (a:=sa) (c:=sc) (hA.pick 2 rfl) rfl
 have HE:=Qq he;clear hA he h h1;unfold wv at HE;simp only[zw] at HE;have hw:.returned (Value.tuple #[TO y true zw false,.int .i64 0])=Ending.returned (.tuple #[.agg #[.int .i64 y,.bool true,.int .i64 0,.int .i64 0,.int .i64 0,.bool false],.int .i64 0]):=rfl
 rw[hw];clear hw;go_enter Tryz.func180,Tryz.ntmps180
 go_wp2_with fail;refine HE.out.mono ?_
 rintro r w2 ⟨rfl,h2,b2⟩;have h3:Own w0 w2 (zf p (yK N ⟨y::b,[],Rv,cl⟩ ba bc sa sc ra rc)::zf (w.heap.size+1) [.int .i64 0,.bool false,.int .i64 0,.int .i64 0,.int .i64 0,.bool false]::zf w.heap.size [.int .i64 0,.bool false,.int .i64 0,.int .i64 0,.int .i64 0,.bool false]::zd 1 ba bc (y::b).length (zr (y::b))::zd 3 sa sc 0 (xe [])::zd 3 ra rc Rv.length (xe Rv)::R):=h2
 have h4:=(((h3.setAt 1 rfl 2 (.int .i64 0)).setAt 1 rfl 3 (.int .i64 0)).setAt 1 rfl 4 (.int .i64 0)).setAt 1 rfl 5 (.bool false)
 obtain⟨a2,b2'⟩:=h3.zo 1 rfl 2 _ rfl;obtain⟨a3,b3⟩:=h3.zo 1 rfl 3 _ rfl;obtain⟨a4,b4⟩:=h3.zo 1 rfl 4 _ rfl;obtain⟨a5,b5⟩:=h3.zo 1 rfl 5 _ rfl;have H4:=Qq h4;have he:=Tj (k:=1) (R:=[zf (w.heap.size+1) [.int .i64 0,.bool false,.int .i64 0,.int .i64 0,.int .i64 0,.bool false],zf w.heap.size [.int .i64 0,.bool false,.int .i64 0,.int .i64 0,.int .i64 0,.bool false],zd 3 sa sc 0 (xe []),zd 3 ra rc Rv.length (xe Rv)]++R) ((h4.pick 3 rfl).pick 1 rfl) rfl rfl (by simp;omega)
 have HE2:=Qq he;clear h2 h3 h4 b2 HE he;go_wp2_with fail;refine HE2.out.mono ?_
 rintro r W3 ⟨rfl,a',h5⟩;have h5:Own w0 W3 (zf p (yK N ⟨b,[],Rv,cl⟩ a' (bc-1) sa sc ra rc)::zf (w.heap.size+1) [.int .i64 0,.bool false,.int .i64 0,.int .i64 0,.int .i64 0,.bool false]::zf w.heap.size [.int .i64 0,.bool false,.int .i64 0,.int .i64 0,.int .i64 0,.bool false]::zd 1 a' (bc-1) b.length (zr b)::zd 3 sa sc 0 (xe [])::zd 3 ra rc Rv.length (xe Rv)::R):=(((h5.pick 1 rfl).pick 3 rfl).pick 3 rfl).pick 3 rfl
 obtain⟨c0,d0⟩:=h5.zo 1 rfl 0 _ rfl;obtain⟨c1,d1⟩:=h5.zo 1 rfl 1 _ rfl;obtain⟨c2,d2⟩:=h5.zo 1 rfl 2 _ rfl;obtain⟨c3,d3⟩:=h5.zo 1 rfl 3 _ rfl;obtain⟨c4,d4⟩:=h5.zo 1 rfl 4 _ rfl;obtain⟨c5,d5⟩:=h5.zo 1 rfl 5 _ rfl;obtain⟨e0,f0⟩:=h5.zo 2 rfl 0 _ rfl;obtain⟨e1,f1⟩:=h5.zo 2 rfl 1 _ rfl;obtain⟨e2,f2⟩:=h5.zo 2 rfl 2 _ rfl;obtain⟨e3,f3⟩:=h5.zo 2 rfl 3 _ rfl;obtain⟨e4,f4⟩:=h5.zo 2 rfl 4 _ rfl;obtain⟨e5,f5⟩:=h5.zo 2 rfl 5 _ rfl;have hps:p≠w.heap.size+1:=by omega
 have hps2:p≠w.heap.size:=by omega
 have hfin:∀v0 v1 u0 u1 u2 u3 u4 u5,Own w0 ((((((((W3.setCell ⟨w.heap.size+1,0,none⟩ v0).setCell ⟨w.heap.size+1,1,none⟩ v1).setCell ⟨w.heap.size,0,none⟩ u0).setCell ⟨w.heap.size,1,none⟩ u1).setCell ⟨w.heap.size,2,none⟩ u2).setCell ⟨w.heap.size,3,none⟩ u3).setCell ⟨w.heap.size,4,none⟩ u4).setCell ⟨w.heap.size,5,none⟩ u5) (yv p N ⟨b,[],Rv,cl⟩::R):=fun v0 v1 u0 u1 u2 u3 u4 u5=>by
  have h6:=(((((((h5.setAt 1 rfl 0 v0).setAt 1 rfl 1 v1).setAt 2 rfl 0 u0).setAt 2 rfl 1 u1).setAt 2 rfl 2 u2).setAt 2 rfl 3 u3).setAt 2 rfl 4 u4).setAt 2 rfl 5 u5
  exact Own.Zi ((h6.pick 1 rfl).drop.pick 1 rfl).drop
 have HF:=Qq hfin;clear h5 hfin H4 a2 b2' a3 b3 a4 b4 a5 b5;go_wp2;exact bodyPost_ret (v:=.tuple #[.agg #[.int .i64 y,.bool true,.int .i64 0,.int .i64 0,.int .i64 0,.bool false],.int .i64 0]) (by simp[results,Tryz.results180,go_sem,e0,e1,e2,e3,e4,e5]) rfl ⟨rfl,HF.out _ _ _ _ _ _ _ _⟩
theorem Pz {w0 w:World}{R:List zy}{p N:Nat}{Rv t:List Wt}{cl:Bool}{x:Wt}{y:Int}{buf b:List Int}(h:Own w0 w (yv p N ⟨buf,x::t,Rv,cl⟩::R))(hyb:buf++[x.2.2]=y::b)(hbl:buf.length≤100000)(htl:t.length≤100000) :
  Calls Tryz.prog 180 #[.pointer (some ⟨p,0,none⟩)] w fun r w'=>r=.returned (.tuple #[TO y true x true,.int .i64 0])∧Own w0 w' (yv p N ⟨b,t,Rv,cl⟩::R):=by
 obtain⟨ba,bc,sa,sc,ra,rc,h1⟩:=h.chan;have hpl:=World.block_lt_of_cell? w _ (h1.zo 0 rfl 0 _ rfl).1
 have hA:=XQ h1 [.int .i64 0,.bool false,.int .i64 0,.int .i64 0,.int .i64 0,.bool false] [.int .i64 0,.bool false,.int .i64 0,.int .i64 0,.int .i64 0,.bool false] 290 290
 have he:=U5 (k:=2) (R:=[zf (w.heap.size+1) [.int .i64 0,.bool false,.int .i64 0,.int .i64 0,.int .i64 0,.bool false],zf w.heap.size [.int .i64 0,.bool false,.int .i64 0,.int .i64 0,.int .i64 0,.bool false],zd 1 ba bc buf.length (zr buf),zd 3 ra rc Rv.length (xe Rv)]++R) ((hA.pick 4 rfl).pick 3 rfl) rfl rfl (by simp;omega)
 have HE:=Qq he;have HYB:=Qq hyb;obtain⟨n,hn⟩:∃n,n=buf.length:=⟨_,rfl⟩
 rw[←hn] at hbl;have HN:=Qq hn;clear hA he h h1 hyb hn;unfold wv at HE;have hw:.returned (Value.tuple #[TO y true x true,.int .i64 0])=Ending.returned (.tuple #[.agg #[.int .i64 y,.bool true,.int .i64 x.1,.int .i64 x.2.1,.int .i64 x.2.2,.bool true],.int .i64 0]):=rfl
 rw[hw];clear hw;obtain⟨x1,x2,x3⟩:=x;simp only at HE HYB ⊢
 go_enter Tryz.func180,Tryz.ntmps180
 go_wp2_with fail;refine HE.out.mono ?_
 rintro r w2 ⟨rfl,sa',h2⟩;have h3:Own w0 w2 (zf p (yK N ⟨buf,t,Rv,cl⟩ ba bc sa' (sc-1) ra rc)::zf (w.heap.size+1) [.int .i64 0,.bool false,.int .i64 0,.int .i64 0,.int .i64 0,.bool false]::zf w.heap.size [.int .i64 0,.bool false,.int .i64 0,.int .i64 0,.int .i64 0,.bool false]::zd 1 ba bc buf.length (zr buf)::zd 3 sa' (sc-1) t.length (xe t)::zd 3 ra rc Rv.length (xe Rv)::R):=((((h2.pick 1 rfl).pick 4 rfl).pick 4 rfl).pick 4 rfl).pick 4 rfl
 have h4:=(((h3.setAt 1 rfl 2 (.int .i64 x1)).setAt 1 rfl 3 (.int .i64 x2)).setAt 1 rfl 4 (.int .i64 x3)).setAt 1 rfl 5 (.bool true)
 obtain⟨a2,b2'⟩:=h3.zo 1 rfl 2 _ rfl;obtain⟨a3,b3⟩:=h3.zo 1 rfl 3 _ rfl;obtain⟨a4,b4⟩:=h3.zo 1 rfl 4 _ rfl;obtain⟨a5,b5⟩:=h3.zo 1 rfl 5 _ rfl;have H4:=Qq h4;clear h2 h3 h4 HE;go_upto_region 4 with fail
 generalize hW:(((w2.setCell ⟨w.heap.size+1,2,none⟩ (.int .i64 x1)).setCell ⟨w.heap.size+1,3,none⟩ (.int .i64 x2)).setCell ⟨w.heap.size+1,4,none⟩ (.int .i64 x3)).setCell ⟨w.heap.size+1,5,none⟩ (.bool true)=W3 at *
 clear hW a2 b2' a3 b3 a4 b4 a5 b5;have h5:Own w0 W3 (zf p (yK N ⟨buf,t,Rv,cl⟩ ba bc sa' (sc-1) ra rc)::zf (w.heap.size+1) [.int .i64 0,.bool false,.int .i64 x1,.int .i64 x2,.int .i64 x3,.bool true]::zf w.heap.size [.int .i64 0,.bool false,.int .i64 0,.int .i64 0,.int .i64 0,.bool false]::zd 1 ba bc buf.length (zr buf)::zd 3 sa' (sc-1) t.length (xe t)::zd 3 ra rc Rv.length (xe Rv)::R):=H4.out
 obtain⟨p1,q1⟩:=h5.zo 0 rfl 1 _ rfl;have hbn:(Value.slice ba (Ch.buf ⟨buf,t,Rv,cl⟩).length bc)=.slice ba n bc:=by rw[HN.out]
 rw[hbn] at p1;obtain⟨s14,r14⟩:=h5.zo 1 rfl 4 _ rfl;have p1a:=fun o=>zj p1 (below_alloc1 W3 o)
 have s14a:=fun o=>zj s14 (below_alloc1 W3 o)
 have hpl3:=World.block_lt_of_cell? W3 _ p1
 have hrow:=h5.yZ 3 rfl;rw[←HN.out] at hrow;have HR:=Qq hrow;have hpb:p∉yf ba:=fun hx=>by
  obtain⟨_,F,⟨F1,F2,rfl,⟨rfl,_⟩,q2,F3,F4,rfl,⟨rfl,_⟩,_,F5,F6,rfl,⟨rfl,_⟩,_,F7,F8,rfl,⟨rfl,_⟩,_⟩,_⟩:=h5;exact q2 p (by simp) (by simp[hx])
 have HPB:=Qq hpb;have H5:=Qq h5;obtain⟨i0,hi0,hz0,hz1,hz2⟩:=info_parts WA;have Hi:=Qq hi0;clear hi0
 have Hz0:=Qq hz0;clear hz0
 have Hz1:=Qq hz1;clear hz1
 have Hz2:=Qq hz2;clear hz2
 clear hrow h5 hbn hpb H4;go_wp2_with fail;go_region_law (first
  | (refine ZH (m:=1) (ds:=zr [x3]) (by rfl) _ _ 39 (by rfl) 2 i0 _ Tryz.underlying39 Hi.out Hz0.out Hz1.out Hz2.out rfl (by omega) (by omega) (by rfl) (by rfl) (HR.out.below (by repeat(first|exact Below.refl _ _|refine Below.drew ?_|refine Below.alloc ?_ (by simp) _))) (by first|exact zt.new _ (zr [x3]) _ rfl|exact(zt.new _ (zr [x3]) _ rfl).below (zg _)) rfl (ZQ _) (by omega) ?_;intro a1 c1 w4 k1 ch1 f1
     have h6:=Own.Uw ch1 k1 (fun x hx=>by have:=f1 x hx;simpa using this) ((H5.out.step (by repeat(first|exact Below.refl _ _|refine Below.drew ?_|refine Below.alloc ?_ (by simp) _))).pick 3 rfl)
     obtain⟨p1',q1'⟩:=h6.zo 1 rfl 1 _ rfl))
 all_goals
  have h7:Own w0 (w4.setCell ⟨p,1,none⟩ (.slice a1 (n+1) c1)) (zf p (yK N ⟨buf++[x3],t,Rv,cl⟩ a1 c1 sa' (sc-1) ra rc)::zd 1 a1 c1 (buf++[x3]).length (zr (buf++[x3]))::zf (w.heap.size+1) [.int .i64 0,.bool false,.int .i64 x1,.int .i64 x2,.int .i64 x3,.bool true]::zf w.heap.size [.int .i64 0,.bool false,.int .i64 0,.int .i64 0,.int .i64 0,.bool false]::zd 3 sa' (sc-1) t.length (xe t)::zd 3 ra rc Rv.length (xe Rv)::R):=by
   have e:(buf++[x3]).length=n+1:=by rw[HN.out];simp
   have e2:zr (buf++[x3])=zr buf++zr [x3]:=ZT _ _
   simp only[yK];rw[e,e2];exact(h6.setAt 1 rfl 1 (.slice a1 (n+1) c1)).pick 1 rfl
  rw[HYB.out] at h7;have he:=Tj (k:=1) (R:=[zf (w.heap.size+1) [.int .i64 0,.bool false,.int .i64 x1,.int .i64 x2,.int .i64 x3,.bool true],zf w.heap.size [.int .i64 0,.bool false,.int .i64 0,.int .i64 0,.int .i64 0,.bool false],zd 3 sa' (sc-1) t.length (xe t),zd 3 ra rc Rv.length (xe Rv)]++R) h7 rfl rfl (by rw[←HYB.out];simp;have:=HN.out;omega)
  have HE2:=Qq he;have hsz:=World.block_lt_of_cell? w4 _ p1'
  clear h6 h7 he k1 ch1 f1 p1 q1 s14 r14 p1a s14a hpl3 H5;go_wp2_with fail;refine HE2.out.mono ?_
  rintro r W5 ⟨rfl,a',h5⟩;have h5:Own w0 W5 (zf p (yK N ⟨b,t,Rv,cl⟩ a' (c1-1) sa' (sc-1) ra rc)::zf (w.heap.size+1) [.int .i64 0,.bool false,.int .i64 x1,.int .i64 x2,.int .i64 x3,.bool true]::zf w.heap.size [.int .i64 0,.bool false,.int .i64 0,.int .i64 0,.int .i64 0,.bool false]::zd 1 a' (c1-1) b.length (zr b)::zd 3 sa' (sc-1) t.length (xe t)::zd 3 ra rc Rv.length (xe Rv)::R):=(((h5.pick 1 rfl).pick 3 rfl).pick 3 rfl).pick 3 rfl
  obtain⟨c0,d0⟩:=h5.zo 1 rfl 0 _ rfl;obtain⟨c1,d1⟩:=h5.zo 1 rfl 1 _ rfl;obtain⟨c2,d2⟩:=h5.zo 1 rfl 2 _ rfl;obtain⟨c3,d3⟩:=h5.zo 1 rfl 3 _ rfl;obtain⟨c4,d4⟩:=h5.zo 1 rfl 4 _ rfl;obtain⟨c5,d5⟩:=h5.zo 1 rfl 5 _ rfl;obtain⟨e0,f0⟩:=h5.zo 2 rfl 0 _ rfl;obtain⟨e1,f1⟩:=h5.zo 2 rfl 1 _ rfl;obtain⟨e2,f2⟩:=h5.zo 2 rfl 2 _ rfl;obtain⟨e3,f3⟩:=h5.zo 2 rfl 3 _ rfl;obtain⟨e4,f4⟩:=h5.zo 2 rfl 4 _ rfl;obtain⟨e5,f5⟩:=h5.zo 2 rfl 5 _ rfl;have hps:p≠w.heap.size+1:=by omega
  have hps2:p≠w.heap.size:=by omega
  have hfin:∀v0 v1 u0 u1 u2 u3 u4 u5,Own w0 ((((((((W5.setCell ⟨w.heap.size+1,0,none⟩ v0).setCell ⟨w.heap.size+1,1,none⟩ v1).setCell ⟨w.heap.size,0,none⟩ u0).setCell ⟨w.heap.size,1,none⟩ u1).setCell ⟨w.heap.size,2,none⟩ u2).setCell ⟨w.heap.size,3,none⟩ u3).setCell ⟨w.heap.size,4,none⟩ u4).setCell ⟨w.heap.size,5,none⟩ u5) (yv p N ⟨b,t,Rv,cl⟩::R):=fun v0 v1 u0 u1 u2 u3 u4 u5=>by
   have h6:=(((((((h5.setAt 1 rfl 0 v0).setAt 1 rfl 1 v1).setAt 2 rfl 0 u0).setAt 2 rfl 1 u1).setAt 2 rfl 2 u2).setAt 2 rfl 3 u3).setAt 2 rfl 4 u4).setAt 2 rfl 5 u5
   exact Own.Zi ((h6.pick 1 rfl).drop.pick 1 rfl).drop
  have HF:=Qq hfin;clear h5 hfin HE2;go_wp2;exact bodyPost_ret (v:=.tuple #[.agg #[.int .i64 y,.bool true,.int .i64 x1,.int .i64 x2,.int .i64 x3,.bool true],.int .i64 0]) (by simp[results,Tryz.results180,go_sem,e0,e1,e2,e3,e4,e5]) rfl ⟨rfl,HF.out _ _ _ _ _ _ _ _⟩
end Go.Proofs.YtlkjheheofgdgaaGreat
