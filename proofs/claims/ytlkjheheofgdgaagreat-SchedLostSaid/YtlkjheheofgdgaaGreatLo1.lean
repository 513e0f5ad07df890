/-
  Texts put together: Base, Frame, IRow, IRow2, WRing1, WRing2, WLp1, WLp2, WLp3, WLp4, WLp5, WLp6, SegH, SegH2, SegY, Sep, Pool, RowG, RowG2, WLpA, WCh1, WCh2, WCh3.
-/
import Derived.WalkKit
import Derived.ProofKit
import Derived.Below
import Derived.WalkSpells
import Derived.WalkLawsBesides
import Derived.IntWalk
import Derived.Lib.Hide
import Derived.LoopTactic
import Derived.Deep.RegionWith
import Derived.Deep.MidRow
import Derived.Laws.IdiomCopy
import Derived.Laws.NewBlocks
import Derived.Laws.AppendOwn
import Derived.Lib.ConvBytes
import Derived.Lib.AppendStr
import Derived.ArgAppend
import Derived.Test.YtlkjheheofgdgaaGreatRows
import Derived.Deep.QuietTactic
import Derived.BigQuiet
import Derived.WalkSmall
import Derived.Deep.DeepCutAuto
import Derived.RegionTactic
import Derived.Deep.RegionHeld3
import Derived.Deep.RegionLaw
import Derived.OwnWalk
import Derived.LaidEqlPtr
set_option maxRecDepth 100000
set_option maxHeartbeats 16000000
set_option linter.unusedSimpArgs false
set_option linter.unusedVariables false
open Go Go.RowKit
namespace Go.Proofs.YtlkjheheofgdgaaGreat
theorem Qq {p:Prop}(h:p):Go.RowKit.Hid p:=Go.Lib.hid h
def Qj (n v:Nat):Array Bool:=((List.range n).map fun i=>v.testBit i).toArray
theorem QQ {α:Type _}{a:α}{l:List α}{i:Nat}:(a::l).drop (i+1)=l.drop i:=rfl
theorem QJ {α:Type _}{l:List α}:l.drop 0=l:=rfl
theorem QX {α:Type _}{a:α}{l:List α}{i:Nat}:(a::l).take (i+1)=a::l.take i:=rfl
theorem QV {α:Type _}{l:List α}:l.take 0=[]:=rfl
theorem QW {α:Type _}{l:List α}{i:Nat}{a:α}:l.toArray.setIfInBounds i a=(l.set i a).toArray:=List.setIfInBounds_toArray l i a
theorem QY {α:Type _}{a b:α}{l:List α}:(a::l).set 0 b=b::l:=rfl
theorem QZ {α:Type _}{a b:α}{l:List α}{i:Nat}:(a::l).set (i+1) b=a::l.set i b:=rfl
theorem Wj {k:IntKind}{a b:Int}(h:a=b):Ending.returned (.int k a)=.returned (.int k b):=by rw[h]
theorem Rg {a b:Bool}(h:a=b):Ending.returned (.bool a)=.returned (.bool b):=by rw[h]

theorem zB {a b c:World}(h:Below a.heap.size a b)(k:Below b.heap.size b c):Below a.heap.size a c:=h.trans (k.mono h.size)


def zH (w:World)(b:Nat)(cs:List Value):Prop:=∀j v,cs[j]?=some v→w.cell? ⟨b,j,none⟩=some v∧w.frozen? ⟨b,j,none⟩=false
theorem zH.at {w:World}{b:Nat}{cs:List Value}(h:zH w b cs)(j:Nat)(hj:j<cs.length):w.cell? ⟨b,j,none⟩=some cs[j]∧w.frozen? ⟨b,j,none⟩=false:=h j _ (List.getElem?_eq_getElem hj)
theorem zH.range {w:World}{b:Nat}{cs:List Value}(h:zH w b cs):w.rangeAt b 0 cs:=fun j v hj=>by rw[Nat.zero_add];exact(h j v hj).1
theorem zH.there {w:World}{b:Nat}{cs:List Value}(h:zH w b cs)(n:Nat)(hn:n≤cs.length):w.there b 0 n:=fun j hj=>by
 rw[Nat.zero_add];obtain⟨h1,h2⟩:=h.at j (by omega)
 exact⟨by rw[h1];rfl,h2⟩
theorem zH.new (w:World)(cs:Array Value)(t:TypeId):zH (w.alloc (.cells cs t)) w.heap.size cs.toList:=fun j v hj=>by
 refine⟨?_,World.frozen?_alloc_at _ _ _ _ rfl⟩
 rw[World.cell?_alloc_at _ _ _ _ rfl];simpa using hj
theorem zH.mk (w:World)(l:List Value)(t:TypeId)(b:Nat)(hb:b=w.heap.size):zH (w.alloc (.cells l.toArray t)) b l:=by subst hb;exact zH.new w l.toArray t
theorem zH.lt {w:World}{b:Nat}{cs:List Value}(h:zH w b cs)(h0:0<cs.length):b<w.heap.size:=World.block_lt_of_cell? w _ (h.at 0 h0).1
theorem zH.below {w w':World}{b:Nat}{cs:List Value}(h:zH w b cs)(hb:Below w.heap.size w w'):zH w' b cs:=fun j v hj=>by
 obtain⟨h1,h2⟩:=h j v hj;have hlt:=World.block_lt_of_cell? w _ h1
 exact⟨by rw[hb.cell (p:=⟨b,j,none⟩) hlt];exact h1,by rw[hb.frozen (p:=⟨b,j,none⟩) hlt];exact h2⟩
theorem zH.set {w:World}{b:Nat}{cs:List Value}(h:zH w b cs)(k:Nat)(v:Value):zH (w.setCell ⟨b,k,none⟩ v) b (cs.set k v):=fun j u hj=>by
 by_cases e:j=k
 ·subst e
  have hlt:j<cs.length:=by
   have:=(List.getElem?_eq_some_iff.1 hj).1
   simpa using this
  rw[List.getElem?_set_self hlt] at hj
  obtain rfl:v=u:=by simpa using hj
  obtain⟨h1,h2⟩:=h.at j hlt;exact⟨World.cell?_setCell_same' _ _ _ (by rw[h1];rfl),by rw[World.frozen?_setCell];exact h2⟩
 ·rw[List.getElem?_set_ne (by omega)] at hj
  obtain⟨h1,h2⟩:=h j u hj;exact⟨by rw[World.cell?_setCell_other _ _ _ _ (by simp;first|done|omega)];exact h1,by rw[World.frozen?_setCell];exact h2⟩
theorem zH.Zn {w:World}{b c k:Nat}{cs:List Value}{v:Value}(h:zH w b cs)(hne:b≠c):zH (w.setCell ⟨c,k,none⟩ v) b cs:=fun j u hj=>by
 obtain⟨h1,h2⟩:=h j u hj;exact⟨by rw[World.cell?_setCell_other _ _ _ _ (by simp;first|done|omega)];exact h1,by rw[World.frozen?_setCell];exact h2⟩
theorem zH.alloc {w:World}{b:Nat}{cs:List Value}(h:zH w b cs)(o:Obj):zH (w.alloc o) b cs:=h.below ((Below.refl _ _).alloc (Nat.le_refl _) _)
theorem XO {α:Type}:∀(l:List α) (k:Nat) (c:α),k<l.length→(l.set k c).take (k+1)=l.take k++[c]
 | [],k,c,h=>by simp at h
 | x::l,0,c,_=>by simp
 | x::l,k+1,c,h=>by
  simp only[QZ,QX,List.cons_append];rw[XO l k c (by simpa using h)]
theorem zu {P:Program}{fn:Func}{p:Tmp}{ty:TypeId}{v:Value}{w w':World}(h:fn.results=#[.cell p ty])(tmps:Array Value)(a:Addr)(hp:tmps.getD p undef=.pointer (some a))
  (hl:(loadVar ty a).run P w=.ok v w'):(results fn tmps).run P w=.ok v w':=by
 have hp':tmps[p]?.getD undef=.pointer (some a):=by simpa using hp
 simp[results,h,hp',asAddr,hl]
theorem zq {w w':World}{b o:Nat}{v:Value}(h:w.cell? ⟨b,o,none⟩=some v)(hb:Below w.heap.size w w'):w'.cell? ⟨b,o,none⟩=some v:=by
 rw[hb.cell (p:=⟨b,o,none⟩) (World.block_lt_of_cell? w _ h)];exact h
theorem below_alloc1 (w:World)(o:Obj):Below w.heap.size w (w.alloc o):=(Below.refl _ _).alloc (Nat.le_refl _) _
theorem zg (w:World):Below w.heap.size w w.drew:=(Below.refl _ _).drew

theorem xX {P:Program}{t:TypeId}{s:Nat}(w:World)(ht:P.underlying t=some (.slice (P.elem t)))(hs:∀w,(sizeOf (P.elem t)).run P w=.ok s w)(a:Option Addr)(len cap m:Nat)(hm:m≤cap) :
  (Instr.slice t (.slice a len cap) none (some (.int .i64 (m:Int))) none).run P w=.ok (.slice a m cap) w:=by
 rw[run_slice_h (P:=P) (t:=t) (ht:=ht) (kh:=.i64) (h:=(m:Int)) (h0:=by omega) (h2:=by omega),hs]
 have:a.map (fun x:Addr=>x.add 0)=a:=by cases a<;>simp[Addr.add]
 simp[Result.andThen,sliced,this]
structure zK (F:List Nat) (w w':World):Prop where
 os:w'.os=w.os
 tape:w'.tape=w.tape
 output:w'.output=w.output
 size:w.heap.size≤w'.heap.size
 block:∀k,k<w.heap.size→k∉F→w'.heap[k]?=w.heap[k]?
theorem zK.refl (F:List Nat)(w:World):zK F w w:=⟨rfl,rfl,rfl,Nat.le_refl _,fun _ _ _=>rfl⟩
theorem zK.trans {F G:List Nat}{a b c:World}(h:zK F a b)(k:zK G b c)(hg:∀x∈G,x∈F∨a.heap.size≤x):zK F a c :=
 ⟨k.os.trans h.os,k.tape.trans h.tape,k.output.trans h.output,Nat.le_trans h.size k.size,fun x hx hn=>by
  rw[k.block x (Nat.lt_of_lt_of_le hx h.size) (fun hG=>by rcases hg x hG with h1|h1;exact hn h1;omega)]
  exact h.block x hx hn⟩
theorem zK.mono {F G:List Nat}{a b:World}(h:zK F a b)(hs:∀x∈F,x∈G):zK G a b:=⟨h.os,h.tape,h.output,h.size,fun k hk hn=>h.block k hk (fun hF=>hn (hs k hF))⟩
theorem zK.zO {F:List Nat}{w w':World}(h:Below w.heap.size w w'):zK F w w':=⟨h.os,h.tape,h.output,h.size,fun k hk _=>h.block k hk⟩
theorem zK.Uy {F:List Nat}{w w':World}{B:Nat}(h:zK F w w')(hF:∀x∈F,B≤x)(hB:B≤w.heap.size):Below B w w' :=
 ⟨h.os,h.tape,h.output,h.size,fun k hk=>h.block k (by omega) (fun hx=>by have:=hF k hx;omega)⟩
theorem zK.below {F:List Nat}{w0 w w':World}(h0:Below w0.heap.size w0 w)(h:zK F w w')(hF:∀x∈F,w0.heap.size≤x):Below w0.heap.size w0 w':=h0.trans (h.Uy hF h0.size)
theorem zK.ZZ {w w':World}(h:zK [] w w'):Below w.heap.size w w':=h.Uy (fun _ hx=>by simp at hx) (Nat.le_refl _)
theorem zK.setCell {F:List Nat}{w w':World}(h:zK F w w'){b k:Nat}(v:Value)(hb:b∈F∨w.heap.size≤b):zK F w (w'.setCell ⟨b,k,none⟩ v) :=
 ⟨h.os,h.tape,h.output,by rw[World.size_setCell];exact h.size,fun x hx hn=>by
  rw[Below.heap_setCell _ _ _ _ (fun e=>by
   subst e;rcases hb with hb|hb
   ·exact hn hb
   ·omega)]
  exact h.block x hx hn⟩
theorem zK.setCells {F:List Nat}{w w':World}(h:zK F w w'){b:Nat}:∀(vs:List Value) (o:Nat),(b∈F∨w.heap.size≤b)→zK F w (w'.setCells b o vs):=fun vs=>by
 induction vs generalizing w' with
 | nil=>intro o _;exact h
 | cons v vs ih=>intro o hb;rw[World.setCells];exact ih (h.setCell v hb) (o+1) hb
theorem zK.drewN {F:List Nat}{w w':World}(h:zK F w w')(n:Nat):zK F w (w'.drewN n):=⟨h.os,h.tape,h.output,h.size,h.block⟩
theorem zK.drew {F:List Nat}{w w':World}(h:zK F w w'):zK F w w'.drew:=⟨h.os,h.tape,h.output,h.size,h.block⟩
theorem cell_of_heap {w w':World}{b k:Nat}(h:w'.heap[b]?=w.heap[b]?):w'.cell? ⟨b,k,none⟩=w.cell? ⟨b,k,none⟩:=World.cell?_of_block (a:=⟨b,k,none⟩) h
theorem zH.yE {F:List Nat}{w w':World}{b:Nat}{cs:List Value}(h:zH w b cs)(c:zK F w w')(hb:b∉F):zH w' b cs:=fun j v hj=>by
 obtain⟨h1,h2⟩:=h j v hj;have hlt:=World.block_lt_of_cell? w _ h1
 have hk:=c.block b hlt hb;exact⟨by rw[cell_of_heap hk];exact h1,by rw[World.frozen?_of_block (a:=⟨b,j,none⟩) hk];exact h2⟩
theorem Ze {F:List Nat}{w w':World}{b k:Nat}{v:Value}(h:w.cell? ⟨b,k,none⟩=some v)(c:zK F w w')(hb:b∉F):w'.cell? ⟨b,k,none⟩=some v:=by
 rw[cell_of_heap (c.block b (World.block_lt_of_cell? w _ h) hb)];exact h
theorem UD {F:List Nat}{w w':World}{base n size:Nat}{e:TypeId}{v:Value}{xs:List Value}(h:w.ownsRow base e size v n xs)(c:zK F w w')(hb:∀g,v.ownBlock=some g→g∉F):w'.ownsRow base e size v n xs:=by
 refine⟨h.1,?_⟩
 rcases h.2 with hn|⟨g,cap,cur,rfl,hbg,hg,rest⟩
 ·exact .inl hn
 ·refine .inr ⟨g,cap,cur,rfl,hbg,?_,rest⟩
  rw[c.block g (Array.getElem?_eq_some_iff.1 hg).1 (hb g rfl)];exact hg
theorem VF {w:World}{base n size:Nat}{e:TypeId}{v:Value}{xs:List Value}(h:w.ownsRow base e size v n xs)(g:Nat)(hg:v.ownBlock=some g):g<w.heap.size:=(h.lt g hg).2
theorem yy {w w':World}{row:Option Nat}(h:w.grownBy w' row):zK row.toList w w':=⟨h.os,h.tape,h.output,h.size,fun k hk hn=>h.block k hk (fun e=>hn (by rw[←e];simp))⟩
def zt (l:List Int):List Value:=l.map fun n=>.int .i64 n
theorem yI (l:List Int):(zt l).length=l.length:=by unfold zt;rw[List.length_map]
theorem ZM (l m:List Int):zt (l++m)=zt l++zt m:=by unfold zt;rw[List.map_append]
theorem XA (l:List Int)(i:Nat)(h:i<l.length):(zt l)[i]?=some (.int .i64 l[i]):=by unfold zt;rw[List.getElem?_map,List.getElem?_eq_getElem h];rfl
theorem xK (l:List Int)(i:Nat):(zt l)[i]?=l[i]?.map (fun n=>Value.int .i64 n):=by unfold zt;rw[List.getElem?_map]
theorem ZL (l:List Int):∀v∈zt l,v.oneCell'=true:=fun v hv=>by
 unfold zt at hv;simp only[List.mem_map] at hv;obtain⟨b,_,rfl⟩:=hv;rfl
def zY (a:Option Addr):List Nat:=(a.map (·.block)).toList
theorem IC (a:Option Addr)(n c:Nat):Value.ownBlock (.slice a n c)=a.map (·.block):=by cases a<;>rfl
def zN (w:World)(a:Option Addr)(cap:Nat)(l:List Int):Prop :=
 l.length≤cap∧cap≤maxLen∧((a=none∧cap=0)∨∃b off,a=some ⟨b,off,none⟩∧b<w.heap.size ∧
  (∀j,j<cap→(w.cell? ⟨b,off+j,none⟩).isSome=true∧w.frozen? ⟨b,off+j,none⟩=false)∧∀j v,(zt l)[j]?=some v→w.cell? ⟨b,off+j,none⟩=some v)
theorem zN.nil (w:World):zN w none 0 []:=⟨by simp,by simp,.inl ⟨rfl,rfl⟩⟩
theorem zN.lt {w:World}{a:Option Addr}{cap:Nat}{l:List Int}(h:zN w a cap l):∀x∈zY a,x<w.heap.size:=by
 rcases h.2.2 with⟨rfl,_⟩|⟨b,off,rfl,hb,_⟩
 ·intro x hx;simp[zY] at hx
 ·intro x hx;simp[zY] at hx;subst hx;exact hb
theorem zN.yE {F:List Nat}{w w':World}{a:Option Addr}{cap:Nat}{l:List Int}(h:zN w a cap l)(c:zK F w w')(hd:∀x∈zY a,x∉F):zN w' a cap l:=by
 refine⟨h.1,h.2.1,?_⟩
 rcases h.2.2 with h0|⟨b,off,rfl,hb,h1,h2⟩
 ·exact .inl h0
 ·have hk:=c.block b hb (hd b (by simp[zY]))
  refine .inr ⟨b,off,rfl,Nat.lt_of_lt_of_le hb c.size,fun j hj=>?_,fun j v hj=>?_⟩
  ·rw[cell_of_heap hk,World.frozen?_of_block (a:=⟨b,off+j,none⟩) hk];exact h1 j hj
  ·rw[cell_of_heap hk];exact h2 j v hj
theorem zN.below {w w':World}{a:Option Addr}{cap:Nat}{l:List Int}(h:zN w a cap l)(hb:Below w.heap.size w w'):zN w' a cap l :=
 h.yE (zK.zO (F:=[]) hb) (fun _ _=>by simp)
def yT (w:World)(a:Option Addr)(l:List Int):Prop:=∀i (h:i<l.length),∃b off,a=some ⟨b,off,none⟩∧w.cell? ⟨b,off+i,none⟩=some (.int .i64 l[i])
theorem yT.below {w w':World}{a:Option Addr}{l:List Int}(h:yT w a l)(hb:Below w.heap.size w w'):yT w' a l:=fun i hi=>by
 obtain⟨b,off,h1,h2⟩:=h i hi;exact⟨b,off,h1,zq h2 hb⟩
theorem zN.ints {w:World}{a:Option Addr}{cap:Nat}{l:List Int}(h:zN w a cap l):yT w a l:=fun i hi=>by
 rcases h.2.2 with⟨rfl,h0⟩|⟨b,off,rfl,hb,h1,h2⟩
 ·have:=h.1;omega
 ·exact⟨b,off,rfl,h2 i _ (XA l i hi)⟩
theorem zN.take {w:World}{a:Option Addr}{cap:Nat}{l:List Int}(h:zN w a cap l)(m:Nat):zN w a cap (l.take m):=by
 refine⟨by have:=h.1;rw[List.length_take];omega,h.2.1,?_⟩
 rcases h.2.2 with h0|⟨b,off,rfl,hb,h1,h2⟩
 ·exact .inl h0
 ·refine .inr ⟨b,off,rfl,hb,h1,fun j v hj=>h2 j v ?_⟩
  rw[xK,List.getElem?_take] at hj
  split at hj
  ·rw[xK];exact hj
  ·simp at hj
theorem Wh {P:Program}{t:TypeId}(ht:P.underlying t=some (.slice (P.elem t)))(hs:∀w,(sizeOf (P.elem t)).run P w=.ok 1 w){w0:World}{a:Option Addr}{cap:Nat}{l:List Int}(h:zN w0 a cap l)(m:Nat)(hm:m≤l.length) :
  ∃a',(∀w,(Instr.slice t (.slice a l.length cap) (some (.int .i64 (m:Int))) none none).run P w=.ok (.slice a' (l.length-m) (cap-m)) w)∧zN w0 a' (cap-m) (l.drop m)∧zY a'=zY a:=by
 have hl:=h.1;rcases h.2.2 with⟨rfl,rfl⟩|⟨b,off,rfl,hb,h1,h2⟩
 ·have:l=[]:=List.length_eq_zero_iff.1 (by omega)
  subst this;obtain rfl:m=0:=by simpa using hm
  refine⟨none,fun w=>?_,by simpa using zN.nil w0,rfl⟩
  rw[run_slice_l (P:=P) (t:=t) (ht:=ht) (kl:=.i64) (l:=((0:Nat):Int)) (h0:=by omega) (h1:=by simp),hs]
  simp[Result.andThen,sliced]
 ·by_cases hc:cap=m
  ·refine⟨some ⟨b,off,none⟩,fun w=>?_,⟨by rw[List.length_drop];omega,by have:=h.2.1;omega,.inr ⟨b,off,rfl,hb,fun j hj=>by omega,fun j v hj=>?_⟩⟩,rfl⟩
   ·rw[run_slice_l (P:=P) (t:=t) (ht:=ht) (kl:=.i64) (l:=(m:Int)) (h0:=by omega) (h1:=by omega),hs]
    simp[Result.andThen,sliced,hc]
   ·have:l.drop m=[]:=List.drop_of_length_le (by omega)
    rw[this] at hj;simp[zt] at hj
  ·refine⟨some ⟨b,off+m,none⟩,fun w=>?_,⟨by rw[List.length_drop];omega,by have:=h.2.1;omega,.inr ⟨b,off+m,rfl,hb,fun j hj=>?_,fun j v hj=>?_⟩⟩,rfl⟩
   ·rw[run_slice_l (P:=P) (t:=t) (ht:=ht) (kl:=.i64) (l:=(m:Int)) (h0:=by omega) (h1:=by omega),hs]
    by_cases hm0:m=0
    ·subst hm0;simp[Result.andThen,sliced,hc,Addr.add]
    ·simp[Result.andThen,sliced,hc,Addr.add,hm0]
   ·have:=h1 (m+j) (by omega)
    rwa [←Nat.add_assoc] at this
   ·have:=h2 (m+j) v (by rw[xK] at hj ⊢;rw[List.getElem?_drop] at hj;exact hj)
    rwa [←Nat.add_assoc] at this
theorem zN.xH {w:World}{base n:Nat}{e:TypeId}{v:Value}{l:List Int}(h:w.ownsRow base e 1 v n (zt l)):∃a cap,v=.slice a l.length cap∧zN w a cap l∧n=l.length∧∀x∈zY a,base≤x:=by
 have hx:l.length=n:=by have:=h.1;rw[yI] at this;omega
 subst hx;rcases h.2 with⟨rfl,h0⟩|⟨g,cap,cur,rfl,hb,hg,h1,h2,h3,h4⟩
 ·exact⟨none,0,by rw[h0],⟨by omega,by simp,.inl ⟨rfl,rfl⟩⟩,rfl,fun x hx=>by simp[zY] at hx⟩
 ·have hlt:g<w.heap.size:=(Array.getElem?_eq_some_iff.1 hg).1
  refine⟨_,cap,rfl,⟨h1,h2,.inr ⟨g,0,rfl,hlt,fun j hj=>⟨?_,?_⟩,fun j v hj=>?_⟩⟩,rfl,fun x hx=>by simp[zY] at hx;subst hx;exact hb⟩
  ·rw[Nat.zero_add,cell_of_row w g j cur e (0,0) hg,Array.getElem?_eq_getElem (by omega)];rfl
  ·rw[Nat.zero_add];exact frozen_of_row w g j cur e hg
  ·rw[Nat.zero_add,cell_of_row w g j cur e (0,0) hg]
   rw[←h4,List.getElem?_take] at hj
   split at hj
   ·simpa using hj
   ·cases hj
theorem zN.new (w:World)(l:List Int)(t:TypeId)(hl:l.length≤maxLen){b:Nat}(hb:b=w.heap.size):zN (w.alloc (.cells (zt l).toArray t)) (some ⟨b,0,none⟩) l.length l:=by
 subst hb;have hB:=zH.new w (zt l).toArray t
 refine⟨Nat.le_refl _,hl,.inr ⟨_,0,rfl,by simp,fun j hj=>?_,fun j v hj=>?_⟩⟩
 ·rw[Nat.zero_add]
  obtain⟨h1,h2⟩:=hB j _ (XA l j hj)
  exact⟨by rw[h1];rfl,h2⟩
 ·rw[Nat.zero_add];exact(hB j v hj).1
theorem XU {P:Program}{w:World}(t ty e:TypeId)(i:TypeInfo)(z:Value)(ht:P.underlying t=some (.slice e))(hi:P.info? e=some i)(hz:i.zero=some z)(hsize:i.size=1)(hby:i.bytes=8)(hzs:z.cells.size=1)
  {a b:Option Addr} {cap c:Nat} {l m:List Int} (ha:zN w a cap l) (hb:yT w b m) (h47:l.length+m.length≤1000000000) :
  ∃a' cap' w',(Builtin.append_ #[t,t] ty #[.slice a l.length cap,.slice b m.length c]).run P w=.ok (.slice a' (l.length+m.length) cap') w'∧zN w' a' cap' (l++m)∧zK (zY a) w w'∧∀x∈zY a',x∈zY a∨w.heap.size≤x:=by
 cases b with
 | none =>
  have:m=[]:=by
   rcases Nat.eq_zero_or_pos m.length with h|h
   ·exact List.length_eq_zero_iff.1 h
   ·obtain⟨_,_,h1,_⟩:=hb 0 h;cases h1
  subst this;have hl:=ha.1;refine⟨a,cap,w,?_,by simpa using ha,zK.refl _ _,fun x hx=>.inl hx⟩
  cases a<;>simp[Builtin.append_,run_underlying ht,sizeOf,typeInfo,hi,Builtin.lenOf,Builtin.firstCells,storeCells,hl]
 | some ad =>
  have hnews:∀j u,(zt m)[j]?=some u→w.cell? (ad.add j)=some u:=fun j u hj=>by
   have hlt:j<m.length:=by rw[←yI m];exact(List.getElem?_eq_some_iff.1 hj).1
   obtain⟨b,off,h1,h2⟩:=hb j hlt;cases h1
   rw[XA m j hlt] at hj;rw[Addr.add_lit,h2];exact hj
  rcases ha.2.2 with⟨rfl,h0⟩|⟨b,off,rfl,hbl,h1,h2⟩
  ·have hl0:l=[]:=List.length_eq_zero_iff.1 (by have:=ha.1;omega)
   subst hl0;subst h0;obtain⟨v',w',hr,r1,r2,_⟩:=run_append_own (P:=P) w w.heap.size t ty e i z 1 8 ht hi hz hsize hby hzs (by omega) (.slice none 0 0) 0 [] (World.ownsRow_nil _ _ _ _) ad m.length c (zt m) (by rw[yI];omega) hnews (ZL m) (by simp at h47;unfold maxLen;omega) (by simp at h47;omega) (Nat.le_refl _)
   simp only[List.nil_append] at r1;obtain⟨a',cap',rfl,hrow,hn,hbase⟩:=zN.xH r1;refine⟨a',cap',w',?_,by simpa using hrow,yy r2 |>.mono (by simp[Value.ownBlock,zY]),fun x hx=>.inr (hbase x hx)⟩
   simpa using hr
  ·by_cases hroom:l.length+m.length≤cap
   ·have hr:=run_append_room_cells (P:=P) w t ty e i ht hi b off l.length cap ad m.length c (zt m) (by rw[yI,hsize];omega) hnews (ZL m) hroom
     (fun j hj=>by rw[yI] at hj;rw[hsize,Nat.mul_one];have:=(h1 (l.length+j) (by omega)).1;rwa [←Nat.add_assoc] at this)
     (fun j hj=>by rw[yI] at hj;rw[hsize,Nat.mul_one];have:=(h1 (l.length+j) (by omega)).2;rwa [←Nat.add_assoc] at this)
    rw[hsize,Nat.mul_one] at hr;have hin:=World.cell?_setCells_in b (zt m) (off+l.length) w (fun j hj=>by rw[yI] at hj;have:=(h1 (l.length+j) (by omega)).1;rwa [←Nat.add_assoc] at this)
    refine⟨_,cap,_,hr,⟨by rw[List.length_append];exact hroom,ha.2.1,.inr ⟨b,off,rfl,Nat.lt_of_lt_of_le hbl ((zK.refl [b] w).setCells (zt m) (off+l.length) (.inl (by simp))).size,fun j hj=>⟨?_,?_⟩,fun j v hj=>?_⟩⟩,(zK.refl _ _).setCells _ _ (.inl (by simp[zY])),fun x hx=>.inl hx⟩
    ·by_cases hj2:l.length≤j∧j<l.length+m.length
     ·have:=hin (j-l.length) (by rw[yI];omega)
      rw[show off+l.length+(j-l.length)=off+j by omega] at this
      rw[this];rfl
     ·rw[World.cell?_setCells_out b (zt m) _ w _ (fun _ _=>by rw[yI];simp only;omega)]
      exact(h1 j hj).1
    ·rw[World.frozen?_setCells];exact(h1 j hj).2
    ·rw[ZM] at hj
     by_cases hj2:j<l.length
     ·rw[List.getElem?_append_left (by rw[yI];exact hj2)] at hj
      rw[World.cell?_setCells_out b (zt m) _ w _ (fun _ _=>by rw[yI];simp only;omega)]
      exact h2 j v hj
     ·rw[List.getElem?_append_right (by rw[yI];omega),yI] at hj
      have hlt:j-l.length<(zt m).length:=(List.getElem?_eq_some_iff.1 hj).1
      have:=hin (j-l.length) hlt
      rw[show off+l.length+(j-l.length)=off+j by omega] at this
      rw[this];rw[List.getElem?_eq_getElem hlt] at hj
      exact hj
   ·obtain⟨v',w',hr,r1,r2⟩:=run_append_arg_grows (P:=P) w t ty e i z 1 8 ht hi hz hsize hby hzs (by omega) ⟨b,off,none⟩ l.length cap (zt l) (by rw[yI];omega) (fun j u hj=>by rw[Addr.add_lit];exact h2 j u hj) ad m.length c (zt m) (by rw[yI];omega) hnews (by omega) (by unfold maxLen;omega) (by omega)
    rw[←ZM] at r1;obtain⟨a',cap',rfl,hrow,hn,hbase⟩:=zN.xH r1;rw[List.length_append] at hr;exact⟨a',cap',w',hr,hrow,(yy r2).mono (by simp),fun x hx=>.inr (hbase x hx)⟩
theorem Zo {P:Program}{w:World}{ops:Array Oper}{rest:List Oper}{o:Oper}{ac:Act}{Q:Exit→Act→World→Prop}(hgd:o.guard=none)(sl x:Operand)(t:TypeId)
  (ho:o.op=.call { callee:=.builtin .append,args:=#[sl,x],argTypes:=#[t,t] }) (e:TypeId) (i:TypeInfo) (z:Value) (ht:P.underlying t=some (.slice e)) (hi:P.info? e=some i) (hz:i.zero=some z) (hsize:i.size=1) (hby:i.bytes=8) (hzs:z.cells.size=1)
  {a b:Option Addr} {cap c n k:Nat} {l m:List Int} (hs:ac.eval sl=.slice a n cap) (hx:ac.eval x=.slice b k c) (hn:n=l.length) (hk:k=m.length) (ha:zN w a cap l) (hb:yT w b m) (h47:l.length+m.length≤1000000000)
  (h:∀a' cap' w',zN w' a' cap' (l++m)→zK (zY a) w w'→(∀x∈zY a',x∈zY a∨w.heap.size≤x)→wpList P ops Q rest (ac.put o.dst (.slice a' (n+k) cap')) w'):wpList P ops Q (o::rest) ac w:=by
 subst hn hk;refine wpList_plain hgd fun K hK=>?_
 obtain⟨a',cap',w',hr,h2,h3,h4⟩:=XU (P:=P) (w:=w) t o.type e i z ht hi hz hsize hby hzs ha (c:=c) hb h47
 unfold Oper.wp execOp;simp only[ho,resolve,invoke,builtin,Sem.run_bind,Sem.run_pure,Result.andThen_ok,List.map_toArray,List.map_cons,List.map_nil,hs,hx,hr];exact hK _ _ (h a' cap' w' h2 h3 h4)
theorem Nl (n:Nat):(madeCells #[Value.int .i64 0] (n*1)).toList=zt (List.replicate n 0):=by
 rw[Nat.mul_one,toList_madeCells_one];simp[zt]
theorem Zq:(Tryz.prog.info? 3).map (fun i=>(i.zero,i.size,i.bytes))=some (some (.int .i64 0),1,8):=by kernel_rfl
theorem zN.one (w:World)(x:Int)(t:TypeId){b:Nat}(hb:b=w.heap.size):zN (w.alloc (.cells #[.int .i64 x] t)) (some ⟨b,0,none⟩) 1 [x]:=zN.new w [x] t (by simp[maxLen]) hb
theorem zN.empty (w:World)(t:TypeId){b:Nat}(hb:b=w.heap.size):zN (w.alloc (.cells #[] t)) (some ⟨b,0,none⟩) 0 []:=zN.new w [] t (by simp[maxLen]) hb
theorem below_alloc2 (w:World)(o1 o2:Obj):Below w.heap.size w ((w.alloc o1).alloc o2):=(below_alloc1 _ _).alloc (by simp) _
theorem Wu:∀w,(sizeOf (Tryz.prog.elem 23)).run Tryz.prog w=.ok 1 w:=by
 obtain⟨i0,hi,hz0,hz1,hz2⟩:=info_parts Zq;intro w;have e:Tryz.prog.elem 23=3:=by kernel_rfl
 rw[e];simp[sizeOf,typeInfo,hi,hz1]
theorem YU:Tryz.prog.underlying 23=some (.slice (Tryz.prog.elem 23)):=by
 have e:Tryz.prog.elem 23=3:=by kernel_rfl
 rw[e];exact Tryz.underlying23
theorem VC {P:Program}{w:World}{ops:Array Oper}{o:Oper}{ac:Act}{K:Act→World→Prop}{Q:Exit→Act→World→Prop}{E:Prop}(hgd:o.guard=none)(sl x:Operand)(t:TypeId)
  (ho:o.op=.call { callee:=.builtin .append,args:=#[sl,x],argTypes:=#[t,t] }) (e:TypeId) (i:TypeInfo) (z:Value) (ht:P.underlying t=some (.slice e)) (hi:P.info? e=some i) (hz:i.zero=some z) (hsize:i.size=1) (hby:i.bytes=8) (hzs:z.cells.size=1)
  {a b:Option Addr} {cap c n k:Nat} {l m:List Int} (hs:ac.eval sl=.slice a n cap) (hx:ac.eval x=.slice b k c) (hn:n=l.length) (hk:k=m.length) (ha:zN w a cap l) (hb:yT w b m) (h47:l.length+m.length≤1000000000)
  (h:∀a' cap' w',zN w' a' cap' (l++m)→zK (zY a) w w'→(∀x∈zY a',x∈zY a∨w.heap.size≤x)→K (ac.put o.dst (.slice a' (n+k) cap')) w'):if Region.wanted o (yielded ops ac.tmps)=true then Oper.wp P o ac w K Q else E:=by
 have hw:Region.wanted o (yielded ops ac.tmps)=true:=by simp[Region.wanted,hgd]
 rw[if_pos hw];subst hn hk;obtain⟨a',cap',w',hr,h2,h3,h4⟩:=XU (P:=P) (w:=w) t o.type e i z ht hi hz hsize hby hzs ha (c:=c) hb h47
 unfold Oper.wp execOp;simp only[ho,resolve,invoke,builtin,Sem.run_bind,Sem.run_pure,Result.andThen_ok,List.map_toArray,List.map_cons,List.map_nil,hs,hx,hr];exact h a' cap' w' h2 h3 h4
theorem Io (k:Int):bits BinOp.and IntKind.i64 k 255=k%256:=by
 show IntKind.i64.wrap (((BitVec.ofInt 64 k) &&& (BitVec.ofInt 64 255)).toNat:Int)=k%256
 have e:(BitVec.ofInt 64 255).toNat=255:=by decide
 rw[BitVec.toNat_and,e,show(255:Nat)=2 ^ 8-1 from rfl,Nat.and_two_pow_sub_one_eq_mod,IntKind.wrap_i64,BitVec.toNat_ofInt];omega
theorem MR (x:Int)(m:Nat)(hm:0<m):∃n:Nat,(bits BinOp.and IntKind.i64 x 255).tmod (m:Int)=(n:Int)∧n<m∧n≤255:=by
 rw[Io];obtain⟨k,hk⟩:∃k:Nat,x%256=(k:Int):=⟨(x%256).toNat,by omega⟩
 have h1:=Nat.mod_lt k hm;have h2:=Nat.mod_le k m;exact⟨k%m,by rw[hk,Int.tmod_eq_emod_of_nonneg (by omega)];rfl,h1,by omega⟩
theorem UT (w:World)(a:Option Addr)(n c:Nat)(l:List Int)(h:yT w a l)(hn:n=l.length)(hl:n≤1000000)(h0:a=none→c=0) :
  Calls Tryz.prog 68 #[.slice a n c] w fun r w'=>∃a' c',r=.returned (.slice a' n c')∧zN w' a' c' l∧(∀x∈zY a',w.heap.size≤x)∧Below w.heap.size w w':=by
 cases a with
 | none =>
  obtain rfl:=h0 rfl
  have hl0:l=[]:=by
   rcases Nat.eq_zero_or_pos l.length with e|e
   ·exact List.length_eq_zero_iff.1 e
   ·obtain⟨_,_,h1,_⟩:=h 0 e;cases h1
  subst hl0;obtain rfl:n=0:=hn
  clear h h0;have he:∀w:World,(binOp .eql 23 (.slice none 0 0) (.slice none 0 0)).run Tryz.prog w=.ok (.bool true) w:=fun _=>rfl
  go_enter Tryz.func68,Tryz.ntmps68
  go_wp2;go_ret;exact⟨none,0,rfl,zN.nil _,fun x hx=>by simp[zY] at hx,Below.refl _ _⟩
 | some ad =>
  obtain⟨i0,hi0,hz0,hz1,hz2⟩:=info_parts Zq;have Hi:=Qq hi0;clear hi0
  have Hz0:=Qq hz0;clear hz0
  have Hz1:=Qq hz1;clear hz1
  have Hz2:=Qq hz2;clear hz2
  have H:=Qq h;have HN:=Qq hn;clear h h0 hn;have he:∀w:World,(binOp .eql 23 (.slice (some ad) n c) (.slice none 0 0)).run Tryz.prog w=.ok (.bool false) w:=fun _=>rfl
  go_enter Tryz.func68,Tryz.ntmps68
  go_wp2_with (at_builtin;refine Zo (l:=[]) (m:=l) rfl _ _ 23 rfl 3 i0 _ Tryz.underlying23 Hi.out Hz0.out Hz1.out Hz2.out rfl rfl rfl rfl HN.out (zN.empty _ _ rfl) (H.out.below (below_alloc1 _ _)) (by have:=HN.out;simp only[List.length_nil];omega) ?_)
  intro a1 c1 w1 k1 ch1 f1;have hf:zN w1 a1 c1 l∧(∀x∈zY a1,w.heap.size≤x)∧Below w.heap.size w w1:=by
   refine⟨by simpa using k1,fun x hx=>?_,zK.below (below_alloc1 _ _) ch1 (fun x hx=>by simp[zY] at hx;omega)⟩
   rcases f1 x hx with h|h
   ·simp[zY] at h;omega
   ·omega
  have HF:=Qq hf;clear hf k1 ch1 f1;go_wp2;go_ret;exact⟨a1,c1,by simp,HF.out⟩
theorem UZ {N e i:Nat}(he:e<N)(hi:i≤N):(e+i)%N=if e+i<N then e+i else e+i-N:=by
 split
 ·exact Nat.mod_eq_of_lt ‹_›
 ·rw[Nat.mod_eq_sub_mod (by omega),Nat.mod_eq_of_lt (by omega)]
theorem Hz {N e i j:Nat}(he:e<N)(hi:i<N)(hj:j<N)(h:i≠j):(e+i)%N≠(e+j)%N:=by
 rw[UZ he (by omega),UZ he (by omega)];split<;>split<;>omega
def Plain (w:World)(p:Nat):Prop:=∃ca ta,w.heap[p]?=some (.cells ca ta (0,0))
theorem Plain.yE {F:List Nat}{w w':World}{p:Nat}(h:Plain w p)(c:zK F w w')(hp:p∉F):Plain w' p:=by
 obtain⟨ca,ta,h1⟩:=h;exact⟨ca,ta,by rw[c.block p (Array.getElem?_eq_some_iff.1 h1).1 hp];exact h1⟩
theorem Plain.set {w:World}{p b k:Nat}{v:Value}(h:Plain w p):Plain (w.setCell ⟨b,k,none⟩ v) p:=by
 obtain⟨ca,ta,h1⟩:=h;by_cases e:p=b
 ·subst e;exact⟨_,ta,heap_setCell_same w p k ca ta v h1⟩
 ·exact⟨ca,ta,by rw[heap_setCell_other w _ p v e];exact h1⟩
theorem Plain.new (w:World)(cs:Array Value)(t:TypeId){p:Nat}(hp:p=w.heap.size):Plain (w.alloc (.cells cs t)) p:=by
 subst hp;exact⟨cs,t,heap_alloc_new w _⟩
structure zZ (w:World) (p o g N e:Nat) (l:List Int):Prop where
 n1:1≤N
 n2:N≤1024
 ll:l.length≤N
 el:e<N
 ne:g≠p
 c0:w.cell? ⟨p,o,none⟩=some (.slice (some ⟨g,0,none⟩) N N)
 c1:w.cell? ⟨p,o+1,none⟩=some (.int .i64 (e:Int))
 c2:w.cell? ⟨p,o+2,none⟩=some (.int .i64 (l.length:Int))
 f1:w.frozen? ⟨p,o+1,none⟩=false
 f2:w.frozen? ⟨p,o+2,none⟩=false
 pl:Plain w p
 row:∃cs:List Value,cs.length=N∧zH w g cs∧∀i (h:i<l.length),cs[(e+i)%N]?=some (.int .i64 l[i])
theorem zZ.yE {F:List Nat}{w w':World}{p o g N e:Nat}{l:List Int}(h:zZ w p o g N e l)(c:zK F w w')(hp:p∉F)(hg:g∉F):zZ w' p o g N e l:=by
 obtain⟨cs,h1,h2,h3⟩:=h.row;have hk:=c.block p (World.block_lt_of_cell? w _ h.c0) hp
 refine⟨h.n1,h.n2,h.ll,h.el,h.ne,Ze h.c0 c hp,Ze h.c1 c hp,Ze h.c2 c hp,?_,?_,h.pl.yE c hp,cs,h1,h2.yE c hg,h3⟩
 ·rw[World.frozen?_of_block (a:=⟨p,o+1,none⟩) hk];exact h.f1
 ·rw[World.frozen?_of_block (a:=⟨p,o+2,none⟩) hk];exact h.f2
theorem zZ.below {w w':World}{p o g N e:Nat}{l:List Int}(h:zZ w p o g N e l)(hb:Below w.heap.size w w'):zZ w' p o g N e l :=
 h.yE (zK.zO (F:=[]) hb) (by simp) (by simp)
theorem zZ.lt {w:World}{p o g N e:Nat}{l:List Int}(h:zZ w p o g N e l):p<w.heap.size∧g<w.heap.size:=by
 obtain⟨cs,h1,h2,h3⟩:=h.row;have:=h.n1
 exact⟨World.block_lt_of_cell? w _ h.c0,h2.lt (by omega)⟩
structure xu (p o g:Nat) (w w':World):Prop where
 yE:zK [p,g] w w'
 far:∀k,k<o→w'.cell? ⟨p,k,none⟩=w.cell? ⟨p,k,none⟩∧w'.frozen? ⟨p,k,none⟩=w.frozen? ⟨p,k,none⟩
theorem xu.refl (p o g:Nat)(w:World):xu p o g w w:=⟨zK.refl _ _,fun _ _=>⟨rfl,rfl⟩⟩
theorem xu.trans {p o g:Nat}{a b c:World}(h:xu p o g a b)(k:xu p o g b c):xu p o g a c :=
 ⟨h.yE.trans k.yE (fun x hx=>.inl hx),fun i hi=>⟨(k.far i hi).1.trans (h.far i hi).1,(k.far i hi).2.trans (h.far i hi).2⟩⟩
theorem xu.zO {p o g:Nat}{w w':World}(hp:p<w.heap.size)(h:Below w.heap.size w w'):xu p o g w w' :=
 ⟨zK.zO h,fun k hk=>⟨h.cell (p:=⟨p,k,none⟩) hp,h.frozen (p:=⟨p,k,none⟩) hp⟩⟩
theorem xu.set {p o g:Nat}{w w':World}(h:xu p o g w w')(k:Nat)(v:Value)(hk:o≤k):xu p o g w (w'.setCell ⟨p,k,none⟩ v) :=
 ⟨h.yE.setCell v (.inl (by simp)),fun i hi=>by
  rw[World.cell?_setCell_other _ _ _ _ (by simp<;>omega),World.frozen?_setCell];exact h.far i hi⟩
theorem xu.ye {p o g:Nat}{w w':World}(h:xu p o g w w')(k:Nat)(v:Value)(hg:g≠p):xu p o g w (w'.setCell ⟨g,k,none⟩ v) :=
 ⟨h.yE.setCell v (.inl (by simp)),fun i hi=>by
  rw[World.cell?_setCell_other _ _ _ _ (by simp<;>omega),World.frozen?_setCell];exact h.far i hi⟩
theorem zZ.push {w:World}{p o g N e:Nat}{l:List Int}(h:zZ w p o g N e l)(hl:l.length<N)(v:Int) :
  zZ ((w.setCell ⟨g,(e+l.length)%N,none⟩ (.int .i64 v)).setCell ⟨p,o+2,none⟩ (.int .i64 ((l.length:Int)+1))) p o g N e (l++[v])∧xu p o g w ((w.setCell ⟨g,(e+l.length)%N,none⟩ (.int .i64 v)).setCell ⟨p,o+2,none⟩ (.int .i64 ((l.length:Int)+1))):=by
 obtain⟨cs,h1,h2,h3⟩:=h.row;have hne:=h.ne;have el:=h.el;refine⟨⟨h.n1,h.n2,by simp;omega,h.el,hne,?_,?_,?_,?_,?_,h.pl.set.set,cs.set ((e+l.length)%N) (.int .i64 v),by simpa using h1,(h2.set _ _).Zn hne,?_⟩,((xu.refl _ _ _ _).ye _ _ hne).set _ _ (by omega)⟩
 ·rw[World.cell?_setCell_other _ _ _ _ (by simp),World.cell?_setCell_other _ _ _ _ (by simp<;>omega)];exact h.c0
 ·rw[World.cell?_setCell_other _ _ _ _ (by simp),World.cell?_setCell_other _ _ _ _ (by simp<;>omega)];exact h.c1
 ·rw[World.cell?_setCell_same' _ _ _ (by rw[World.cell?_setCell_other _ _ _ _ (by simp<;>omega),h.c2];rfl)];simp
 ·rw[World.frozen?_setCell,World.frozen?_setCell];exact h.f1
 ·rw[World.frozen?_setCell,World.frozen?_setCell];exact h.f2
 ·intro i hi
  simp at hi
  have hm:(e+l.length)%N<N:=Nat.mod_lt _ (by omega)
  by_cases hil:i=l.length
  ·subst hil
   rw[List.getElem?_set_self (by omega)];simp
  ·rw[List.getElem?_set_ne (fun hc=>Hz el (by omega) (by omega) (by omega) hc),List.getElem_append_left (by omega)]
   exact h3 i (by omega)
theorem zZ.pop {w:World}{p o g N e:Nat}{x:Int}{l:List Int}(h:zZ w p o g N e (x::l)) :
  zZ ((w.setCell ⟨p,o+1,none⟩ (.int .i64 (((e+1)%N:Nat):Int))).setCell ⟨p,o+2,none⟩ (.int .i64 (l.length:Int))) p o g N ((e+1)%N) l∧xu p o g w ((w.setCell ⟨p,o+1,none⟩ (.int .i64 (((e+1)%N:Nat):Int))).setCell ⟨p,o+2,none⟩ (.int .i64 (l.length:Int))):=by
 obtain⟨cs,h1,h2,h3⟩:=h.row;have hne:=h.ne;have el:=h.el;have ll:=h.ll;simp at ll
 refine⟨⟨h.n1,h.n2,by omega,Nat.mod_lt _ (by omega),hne,?_,?_,?_,?_,?_,h.pl.set.set,cs,h1,(h2.Zn hne).Zn hne,?_⟩,((xu.refl _ _ _ _).set _ _ (by omega)).set _ _ (by omega)⟩
 ·rw[World.cell?_setCell_other _ _ _ _ (by simp),World.cell?_setCell_other _ _ _ _ (by simp)];exact h.c0
 ·rw[World.cell?_setCell_other _ _ _ _ (by simp),World.cell?_setCell_same' _ _ _ (by rw[h.c1];rfl)]
 ·rw[World.cell?_setCell_same' _ _ _ (by rw[World.cell?_setCell_other _ _ _ _ (by simp),h.c2];rfl)]
 ·rw[World.frozen?_setCell,World.frozen?_setCell];exact h.f1
 ·rw[World.frozen?_setCell,World.frozen?_setCell];exact h.f2
 ·intro i hi
  have:=h3 (i+1) (by simp<;>omega)
  simp only[List.getElem_cons_succ] at this;rw[←this];congr 1
  rw[Nat.mod_add_mod,Nat.add_assoc,Nat.add_comm 1]
theorem zZ.cell {w:World}{p o g N e:Nat}{l:List Int}(h:zZ w p o g N e l)(i:Nat)(hi:i<l.length):w.cell? ⟨g,(e+i)%N,none⟩=some (.int .i64 l[i]):=by
 obtain⟨cs,h1,h2,h3⟩:=h.row;exact(h2 _ _ (h3 i hi)).1
theorem zZ.spot {w:World}{p o g N e:Nat}{l:List Int}(h:zZ w p o g N e l)(i:Nat)(hi:i<N):(w.cell? ⟨g,i,none⟩).isSome=true∧w.frozen? ⟨g,i,none⟩=false:=by
 obtain⟨cs,h1,h2,h3⟩:=h.row;obtain⟨k1,k2⟩:=h2.at i (by omega)
 exact⟨by rw[k1];rfl,k2⟩
theorem Wz (w:World)(p o g N e:Nat)(l:List Int)(h:zZ w p o g N e l) :
  Calls Tryz.prog 108 #[.pointer (some ⟨p,o,none⟩)] w fun r w'=>r=.returned (.int .i64 (l.length:Int))∧w'=w:=by
 have c2:=h.c2;clear h;go_enter Tryz.func108,Tryz.ntmps108
 go_wp2;go_ret;exact⟨rfl,rfl⟩
theorem Mp (w:World)(p o g N e:Nat)(l:List Int)(h:zZ w p o g N e l) :
  Calls Tryz.prog 127 #[.pointer (some ⟨p,o,none⟩)] w fun r w'=>r=.returned (.int .i64 (N:Int))∧w'=w:=by
 have c0:=h.c0;clear h;go_enter Tryz.func127,Tryz.ntmps127
 go_wp2;go_ret;exact⟨rfl,rfl⟩
theorem Vk (w:World)(p o g N e:Nat)(l:List Int)(h:zZ w p o g N e l)(k:Nat)(hk:k≤1024) :
  Calls Tryz.prog 87 #[.pointer (some ⟨p,o,none⟩),.int .i64 (k:Int)] w fun r w'=>r=.returned (.int .i64 (((e+k)%N:Nat):Int))∧∃m,w'=w.drewN m:=by
 have c0:=h.c0;have c1:=h.c1;have n1:=h.n1;have n2:=h.n2;have el:=h.el;clear h;go_enter Tryz.func87,Tryz.ntmps87
 go_wp2_with fail;go_quiet (fail)
 go_wp2;go_ret;exact⟨Wj (by simp),_,rfl⟩
theorem ZE {w:World}{p o g N e:Nat}{l:List Int}(h:zZ w p o g N e l)(m:Nat):zZ (w.drewN m) p o g N e l:=h.below (below_drewN (Below.refl _ _) m)
theorem Rn (w:World)(p o g N e:Nat)(l:List Int)(v:Int)(h:zZ w p o g N e l)(hl:l.length<N) :
  Calls Tryz.prog 125 #[.pointer (some ⟨p,o,none⟩),.int .i64 v] w fun r w'=>r=.returned (.bool true)∧zZ w' p o g N e (l++[v])∧xu p o g w w':=by
 have c0:=h.c0;have c1:=h.c1;have c2:=h.c2;have n1:=h.n1;have n2:=h.n2;have el:=h.el;have ll:=h.ll;have ne:=h.ne;have ne':p≠g:=fun e=>ne e.symm
 obtain⟨hpl,hgl⟩:=h.lt;have HPL:=Qq hpl;clear hpl hgl
 obtain⟨n,hn⟩:∃n,n=l.length:=⟨_,rfl⟩
 have H:=Qq h;have HL:=Qq hl;have hl':n<N:=by omega
 have hb:((n:Int)==(N:Int))=false:=by rw[beq_eq_false_iff_ne];omega
 rw[←hn] at c2;have hs:∀w',Below w.heap.size w w'→zZ ((w'.setCell ⟨g,(e+n)%N,none⟩ (.int .i64 v)).setCell ⟨p,o+2,none⟩ (.int .i64 ((n:Int)+1))) p o g N e (l++[v])∧xu p o g w ((w'.setCell ⟨g,(e+n)%N,none⟩ (.int .i64 v)).setCell ⟨p,o+2,none⟩ (.int .i64 ((n:Int)+1))):=fun w' hb=>by
  have:=(h.below hb).push HL.out v
  rw[←hn] at this;exact⟨this.1,(xu.zO HPL.out hb).trans this.2⟩
 have HS:=Qq hs;obtain⟨s1,s2⟩:=h.spot ((e+n)%N) (Nat.mod_lt _ (by omega))
 obtain⟨v0,s1⟩:=Option.isSome_iff_exists.1 s1;have f2:=h.f2;have hm:(((e+n)%N:Nat):Int)<(N:Int):=by have:=Nat.mod_lt (e+n) (show 0<N by omega);omega
 obtain⟨k,hk⟩:∃k,k=(e+n)%N:=⟨_,rfl⟩
 rw[←hk] at s1 s2 hm HS;clear h hs hl;have HK:=Qq hk;clear hk
 have HN:=Qq hn;clear hn
 go_enter Tryz.func125,Tryz.ntmps125
 go_wp2_with fail;go_quiet (fail)
 go_wp2_with fail;go_region_with (go_at_call 87;refine(Vk _ p o g N e l (ZE H.out _) n (by omega)).mono ?_;rintro r w1 ⟨rfl,mq,rfl⟩;rw[←HK.out])
 all_goals
  go_wp2;go_ret;exact⟨rfl,HS.out _ (below_drewN (Below.refl _ _) _)⟩
theorem OX (w:World)(p o g N e:Nat)(l:List Int)(v:Int)(h:zZ w p o g N e l)(hl:¬l.length<N) :
  Calls Tryz.prog 125 #[.pointer (some ⟨p,o,none⟩),.int .i64 v] w fun r w'=>r=.returned (.bool false)∧zZ w' p o g N e l∧xu p o g w w':=by
 have c0:=h.c0;have c2:=h.c2;have ll:=h.ll;obtain⟨hpl,hgl⟩:=h.lt;have HPL:=Qq hpl;clear hpl hgl
 obtain⟨n,hn⟩:∃n,n=l.length:=⟨_,rfl⟩
 have H:=Qq h;have hb:((n:Int)==(N:Int))=true:=by rw[beq_iff_eq];omega
 rw[←hn] at c2;clear h hl ll;have HN:=Qq hn;clear hn
 go_enter Tryz.func125,Tryz.ntmps125
 go_wp2_with fail;go_quiet (fail)
 go_wp2;go_ret;exact⟨rfl,ZE H.out _,xu.zO HPL.out (below_drewN (Below.refl _ _) _)⟩
theorem Lv (w:World)(p o g N e:Nat)(h:zZ w p o g N e []) :
  Calls Tryz.prog 93 #[.pointer (some ⟨p,o,none⟩)] w fun r w'=>r=.returned (.tuple #[.int .i64 0,.bool false])∧zZ w' p o g N e []∧xu p o g w w':=by
 have c2:w.cell? ⟨p,o+2,none⟩=some (.int .i64 0):=h.c2
 obtain⟨hpl,hgl⟩:=h.lt;have HPL:=Qq hpl;clear hpl hgl
 have H:=Qq h;clear h;go_enter Tryz.func93,Tryz.ntmps93
 go_wp2;go_ret2
 exact⟨rfl,H.out,xu.refl _ _ _ _⟩
theorem Ou (w:World)(p o g N e:Nat)(x:Int)(l:List Int)(h:zZ w p o g N e (x::l)) :
  Calls Tryz.prog 93 #[.pointer (some ⟨p,o,none⟩)] w fun r w'=>r=.returned (.tuple #[.int .i64 x,.bool true])∧zZ w' p o g N ((e+1)%N) l∧xu p o g w w':=by
 have c0:=h.c0;have c1:=h.c1;have c2:=h.c2;have n1:=h.n1;have n2:=h.n2;have el:=h.el;have ll:=h.ll;have f1:=h.f1;have f2:=h.f2;obtain⟨hpl,hgl⟩:=h.lt;have HPL:=Qq hpl;clear hpl hgl
 have H:=Qq h;simp only[List.length_cons] at ll c2;obtain⟨n,hn⟩:∃n,n=l.length:=⟨_,rfl⟩
 rw[←hn] at c2 ll;have hx:w.cell? ⟨g,e,none⟩=some (.int .i64 x):=by
  have:=h.cell 0 (by simp)
  rwa [Nat.add_zero,Nat.mod_eq_of_lt el] at this
 have hb:(((n+1:Nat):Int)==0)=false:=by rw[beq_eq_false_iff_ne];omega
 have hel:(e:Int)<(N:Int):=by omega
 have hs:∀w',Below w.heap.size w w'→zZ ((w'.setCell ⟨p,o+1,none⟩ (.int .i64 (((e+1)%N:Nat):Int))).setCell ⟨p,o+2,none⟩ (.int .i64 (n:Int))) p o g N ((e+1)%N) l∧xu p o g w ((w'.setCell ⟨p,o+1,none⟩ (.int .i64 (((e+1)%N:Nat):Int))).setCell ⟨p,o+2,none⟩ (.int .i64 (n:Int))):=fun w' hb=>by
  have:=(h.below hb).pop
  rw[←hn] at this;exact⟨this.1,(xu.zO HPL.out hb).trans this.2⟩
 have HS:=Qq hs;clear hs h
 have HN:=Qq hn;clear hn
 obtain⟨k,hk⟩:∃k,k=(e+1)%N:=⟨_,rfl⟩
 rw[←hk] at HS ⊢;have HK:=Qq hk;clear hk
 go_enter Tryz.func93,Tryz.ntmps93
 go_wp2_with fail;go_quiet (fail)
 go_wp2_with fail;refine(Vk _ p o g N e (x::l) (ZE H.out _) 1 (by omega)).mono ?_
 rintro r w1 ⟨rfl,mq,rfl⟩;rw[←HK.out];go_wp2;go_ret2
 refine⟨rfl,?_⟩
 have:=HS.out _ (below_drewN (below_drewN (Below.refl _ _) nq) mq)
 simpa using this
def Zp (z:Int):Nat:=(max 1 (min z 1024)).toNat
theorem Tj (z:Int):1≤Zp z∧Zp z≤1024:=by unfold Zp;omega
def fill (L:List Int)(K i:Nat):List Int:=L.take i++List.replicate (K-i) 0
theorem RX (L:List Int)(K i:Nat)(hK:K≤L.length)(hi:i≤K):(fill L K i).length=K:=by
 unfold fill;rw[List.length_append,List.length_take,List.length_replicate];omega
theorem Sz (L:List Int)(K i:Nat)(hK:K≤L.length)(hi:i<K):(fill L K i).set i (L[i]'(by omega))=fill L K (i+1):=by
 unfold fill;have hl:(L.take i).length=i:=by rw[List.length_take];omega
 have h1:L.take (i+1)=L.take i++[L[i]'(by omega)]:=by rw[List.take_add_one,List.getElem?_eq_getElem (by omega)];rfl
 rw[List.set_append_right _ _ (by omega),hl,Nat.sub_self,show K-i=(K-(i+1))+1 by omega,List.replicate_succ,QY,h1,List.append_assoc]
 rfl
theorem RW (L:List Int)(K:Nat):fill L K K=L.take K:=by unfold fill;simp
theorem U6 (L:List Int)(K:Nat):fill L K 0=List.replicate K 0:=by unfold fill;simp
theorem RL (l:List Int)(i:Nat)(v:Int):zt (l.set i v)=(zt l).set i (.int .i64 v):=by unfold zt;rw[List.map_set]
theorem zN.KF {w:World}{b:Nat}{l:List Int}(h:zH w b (zt l))(hb:b<w.heap.size)(hl:l.length≤maxLen):zN w (some ⟨b,0,none⟩) l.length l:=by
 refine⟨Nat.le_refl _,hl,.inr ⟨_,0,rfl,hb,fun j hj=>?_,fun j v hj=>?_⟩⟩
 ·rw[Nat.zero_add]
  obtain⟨h1,h2⟩:=h j _ (XA l j hj)
  exact⟨by rw[h1];rfl,h2⟩
 ·rw[Nat.zero_add];exact(h j v hj).1
theorem zH.xH {w:World}{base n g cap:Nat}{e:TypeId}{xs:List Value}(h:w.ownsRow base e 1 (.slice (some ⟨g,0,none⟩) n cap) n xs):zH w g xs∧g<w.heap.size:=by
 rcases h.2 with⟨h0,_⟩|⟨g',cap',cur,hv,hb,hg,h1,h2,h3,h4⟩
 ·cases h0
 ·simp only[Value.slice.injEq,Option.some.injEq,Addr.mk.injEq,and_true,true_and] at hv
  obtain⟨rfl,rfl⟩:=hv;refine⟨fun j v hj=>?_,(Array.getElem?_eq_some_iff.1 hg).1⟩
  rw[cell_of_row w g j cur e (0,0) hg]
  refine⟨?_,frozen_of_row w g j cur e hg⟩
  rw[←h4,List.getElem?_take] at hj
  split at hj
  ·simpa using hj
  ·cases hj
theorem Vj (w:World)(n:Nat)(hn:n≤1000000):∃w1,(Instr.makeSlice 23 (.int .i64 (n:Int)) (.int .i64 (n:Int))).run Tryz.prog w=.ok (.slice (some ⟨w.heap.size,0,none⟩) n n) w1∧w1.ownsRow 0 3 1 (.slice (some ⟨w.heap.size,0,none⟩) n n) n (zt (List.replicate n 0))∧w.grownBy w1 none:=by
 obtain⟨i0,hi,hz0,hz1,hz2⟩:=info_parts Zq;obtain⟨w1,h1,h2,h3⟩:=run_make_full (P:=Tryz.prog) w 0 23 3 i0 _ 1 Tryz.underlying23 hi hz0 hz1 .i64 .i64 n (by rw[hz2];omega) (by unfold maxLen;omega) (Nat.zero_le _)
 rw[show(Value.int .i64 0).cells=#[Value.int .i64 0] from rfl,Nl] at h2
 exact⟨w1,h1,h2,h3⟩
theorem zZ.new (w:World)(p g N:Nat)(h1:1≤N)(h2:N≤1024)(hne:g≠p)(hg:zH w g (zt (List.replicate N 0)))(hp:zH w p [.slice (some ⟨g,0,none⟩) N N,.int .i64 0,.int .i64 0])(hpl:Plain w p):zZ w p 0 g N 0 []:=by
 refine⟨h1,h2,by simp,by omega,hne,(hp 0 _ rfl).1,(hp 1 _ rfl).1,(hp 2 _ rfl).1,(hp 1 _ rfl).2,(hp 2 _ rfl).2,hpl,_,?_,hg,fun i hi=>by simp at hi⟩
 rw[yI,List.length_replicate]
theorem Lg (z:Int)(w:World):Calls Tryz.prog 67 #[.int .i64 z] w fun r w'=>∃p g,r=.returned (.pointer (some ⟨p,0,none⟩))∧zZ w' p 0 g (Zp z) 0 []∧w.heap.size≤p∧w.heap.size≤g∧Below w.heap.size w w':=by
 obtain⟨N,hN⟩:∃N,N=Zp z:=⟨_,rfl⟩
 obtain⟨h1,h2⟩:=Tj z;have hm:min (max z 1) 1024=(N:Int):=by rw[hN];unfold Zp;omega
 rw[←hN] at h1 h2 ⊢;clear hN;obtain⟨w1,hmk,hown,hgrow⟩:=Vj w N (by omega)
 have hb1:Below w.heap.size w w1:=(yy hgrow).ZZ
 obtain⟨hblk,hlt⟩:=zH.xH hown;obtain⟨g,hg⟩:∃g,g=w.heap.size:=⟨_,rfl⟩
 have hpg:g<w1.heap.size:=by omega
 rw[←hg] at hmk hblk;have HB:=Qq hblk;clear hblk hown hgrow
 have HB1:=Qq hb1;clear hb1
 have HG:=Qq hg;clear hg hlt
 have HP:=Qq hpg;clear hpg
 have hend:∀cs,cs=[Value.slice (some ⟨g,0,none⟩) N N,.int .i64 0,.int .i64 0]→zZ (w1.alloc (.cells cs.toArray 170)) w1.heap.size 0 g N 0 []∧w.heap.size≤w1.heap.size∧w.heap.size≤g∧Below w.heap.size w (w1.alloc (.cells cs.toArray 170)):=fun cs hcs=>by
  subst hcs;have hs:=HB1.out.size;have hg:=HG.out;exact⟨zZ.new _ _ _ _ h1 h2 (by have:=HP.out;omega) (HB.out.alloc _) (zH.mk _ _ _ _ rfl) (Plain.new _ _ _ rfl),hs,by omega,HB1.out.alloc hs _⟩
 have HE:=Qq hend;clear hend
 have hV:(N:Int)=1∧z<1∨(N:Int)=z∧1≤z∧z≤1024∨(N:Int)=1024∧1024<z:=by omega
 rcases hV with⟨hV,hz⟩|⟨hV,hz,hz'⟩|⟨hV,hz⟩
 all_goals
  rw[hV] at hmk;have HV:=Qq hV;clear hV hm
  go_enter Tryz.func67,Tryz.ntmps67
  go_wp2;go_ret;exact⟨_,g,rfl,HE.out _ rfl⟩
def xo (k:Int)(n:Nat):Nat:=min k.toNat n
theorem RP (k:Int)(n:Nat):xo k n≤n:=by unfold xo;omega
theorem UX (w:World)(p o g N e:Nat)(l:List Int)(k:Int)(h:zZ w p o g N e l) :
  Calls Tryz.prog 110 #[.pointer (some ⟨p,o,none⟩),.int .i64 k] w fun r w'=>∃q e',r=.returned (.slice (some ⟨q,0,none⟩) (xo k l.length) (xo k l.length))∧w.heap.size≤q∧zN w' (some ⟨q,0,none⟩) (xo k l.length) (l.take (xo k l.length)) ∧
   zZ w' p o g N e' (l.drop (xo k l.length))∧xu p o g w w':=by
 obtain⟨K,hK⟩:∃K,K=xo k l.length:=⟨_,rfl⟩
 have hKl:=RP k l.length;have hKn:K=min k.toNat l.length:=by rw[hK];rfl
 have ll:=h.ll;have n2:=h.n2;have c2:=h.c2;have ne:=h.ne;obtain⟨hpl,hgl⟩:=h.lt;rw[←hK] at hKl ⊢;have hV:((K:Int)=0∧k<0)∨((K:Int)=k∧0≤k∧k≤(l.length:Int))∨((K:Int)=(l.length:Int)∧0≤k∧(l.length:Int)<k):=by omega
 clear hK hKn;obtain⟨w1,hmk,hown,hgrow⟩:=Vj w K (by omega)
 have hb1:Below w.heap.size w w1:=(yy hgrow).ZZ
 obtain⟨hblk,hlt⟩:=zH.xH hown;obtain⟨q,hq⟩:∃q,q=w.heap.size:=⟨_,rfl⟩
 have hlt':q<w1.heap.size:=by omega
 rw[←hq] at hmk hblk;have hst:zZ w1 p o g N ((e+0)%N) (l.drop 0)∧xu p o g w w1∧zH w1 q (zt (fill l K 0))∧q<w1.heap.size:=⟨by rw[Nat.add_zero,Nat.mod_eq_of_lt h.el];exact h.below hb1,xu.zO hpl hb1,by rw[U6];exact hblk,hlt'⟩
 have HST:=Qq hst;have HQ:Hid (q=w.heap.size∧q≠p∧q≠g∧g≠p):=Qq ⟨hq,by omega,by omega,ne⟩
 have hstep:∀(i:Nat) (w2 w3:World) (hi:i<K),xu p o g w w2→zH w2 q (zt (fill l K i))→q<w2.heap.size→zZ w3 p o g N ((e+(i+1))%N) (l.drop (i+1))→xu p o g w2 w3 →
   (w3.cell? ⟨q,i,none⟩).isSome=true∧w3.frozen? ⟨q,i,none⟩=false∧(zZ (w3.setCell ⟨q,i,none⟩ (.int .i64 (l[i]'(by omega)))) p o g N ((e+(i+1))%N) (l.drop (i+1))∧xu p o g w (w3.setCell ⟨q,i,none⟩ (.int .i64 (l[i]'(by omega)))) ∧
    zH (w3.setCell ⟨q,i,none⟩ (.int .i64 (l[i]'(by omega)))) q (zt (fill l K (i+1)))∧q<(w3.setCell ⟨q,i,none⟩ (.int .i64 (l[i]'(by omega)))).heap.size):=fun i w2 w3 hi r2 b2 q2 r3 c3=>by
  obtain⟨e1,e2,e3,e4⟩:=HQ.out;have b3:=b2.yE c3.yE (by simp<;>omega)
  obtain⟨s1,s2⟩:=b3.at i (by rw[yI,RX l K i hKl (by omega)];exact hi)
  have cs:zK [q] w3 (w3.setCell ⟨q,i,none⟩ (.int .i64 (l[i]'(by omega)))):=(zK.refl _ _).setCell _ (.inl (by simp))
  have r13:=r2.trans c3;refine⟨by rw[s1];rfl,s2,r3.yE cs (by simp<;>omega) (by simp<;>omega),⟨r13.yE.trans cs (fun x hx=>.inr (by simp at hx;omega)),fun j hj=>?_⟩,?_,by rw[World.size_setCell];exact Nat.lt_of_lt_of_le q2 c3.yE.size⟩
  ·rw[World.cell?_setCell_other _ _ _ _ (by simp<;>omega),World.frozen?_setCell];exact r13.far j hj
  ·rw[←Sz l K i hKl hi,RL]
   exact b3.set i _
 have HSP:=Qq hstep;clear hst hstep hb1 hblk hlt hlt' hown hgrow h hgl hpl ne;obtain⟨n,hn⟩:∃n,n=l.length:=⟨_,rfl⟩
 have hKl2:=hKl;rw[←hn] at c2 hV hKl2 ll;have HN:=Qq hn;clear hn
 clear hq;rcases hV with⟨hV,hz⟩|⟨hV,hz,hz'⟩|⟨hV,hz,hz'⟩
 all_goals
  rw[hV] at hmk;have HV:=Qq hV;clear hV
  go_enter Tryz.func110,Tryz.ntmps110
  go_wp2_with fail;go_loopw [17] (fun iv wr=>∃i:Nat,i≤K∧iv=.int .i64 i∧Hid (zZ wr p o g N ((e+i)%N) (l.drop i)∧xu p o g w wr∧zH wr q (zt (fill l K i))∧q<wr.heap.size)) (fun iv _=>K-(intOf iv).toNat)
  case atStart=>exact⟨0,by omega,rfl,HST.out⟩
  case round =>
   obtain⟨i,hi,rfl,hr⟩:=hrel;by_cases hlt:i<K
   ·have hil:i<l.length:=by have:=HN.out;omega
    have hring:zZ wr p o g N ((e+i)%N) (l[i]::l.drop (i+1)):=by
     rw[←List.drop_eq_getElem_cons hil];exact hr.out.1
    have HR:=Qq hring;clear hring
    go_wp2_with fail;refine(Ou wr p o g N _ _ _ HR.out).mono ?_
    rintro r w3 ⟨rfl,r3,c3⟩;rw[Nat.mod_add_mod,Nat.add_assoc] at r3;obtain⟨s1,s2,s3⟩:=HSP.out i wr w3 hlt hr.out.2.1 hr.out.2.2.1 hr.out.2.2.2 r3 c3;obtain⟨v0,s1⟩:=Option.isSome_iff_exists.1 s1;have S3:=Qq s3;clear s3 r3 c3
    have hli:(i:Int)<(K:Int):=by omega
    go_wp2;exact⟨⟨i+1,by omega,by go_num,S3⟩,by simp[intOf];omega⟩
   ·obtain rfl:i=K:=by omega
    go_wp2;go_ret;obtain⟨t1,t2,t3,t4⟩:=hr.out;rw[RW] at t3;have t5:=zN.KF t3 t4 (by rw[List.length_take];unfold maxLen;omega)
    rw[List.length_take,Nat.min_eq_left (by have:=HN.out;omega)] at t5
    exact⟨q,_,rfl,by have:=HQ.out.1;omega,t5,t1,t2⟩
theorem Ml (w:World)(p o g N e:Nat)(l:List Int)(h:zZ w p o g N e l) :
  Calls Tryz.prog 78 #[.pointer (some ⟨p,o,none⟩)] w fun r w'=>∃q,r=.returned (.slice (some ⟨q,0,none⟩) l.length l.length)∧w.heap.size≤q∧zN w' (some ⟨q,0,none⟩) l.length l∧Below w.heap.size w w':=by
 obtain⟨K,hK⟩:∃K,K=l.length:=⟨_,rfl⟩
 have ll:=h.ll;have n2:=h.n2;have n1:=h.n1;have c0:=h.c0;have c2:=h.c2;rw[←hK] at c2 ll ⊢;obtain⟨w1,hmk,hown,hgrow⟩:=Vj w K (by omega)
 have hb1:Below w.heap.size w w1:=(yy hgrow).ZZ
 obtain⟨hblk,hlt⟩:=zH.xH hown;obtain⟨q,hq⟩:∃q,q=w.heap.size:=⟨_,rfl⟩
 have hlt':q<w1.heap.size:=by omega
 rw[←hq] at hmk hblk;have hst:Below w.heap.size w w1∧zH w1 q (zt (fill l K 0))∧q<w1.heap.size:=⟨hb1,by rw[U6];exact hblk,hlt'⟩
 have HST:=Qq hst;have HQ:=Qq hq;have hKl:K≤l.length:=by omega
 have HK:=Qq hK;clear hK
 have hstep:∀(i:Nat) (w2 w3:World) (hi:i<K),Below w.heap.size w w2→zH w2 q (zt (fill l K i))→q<w2.heap.size→Below w2.heap.size w2 w3 →
   Below w.heap.size w (w3.setCell ⟨q,i,none⟩ (.int .i64 (l[i]'(by omega))))∧zH (w3.setCell ⟨q,i,none⟩ (.int .i64 (l[i]'(by omega)))) q (zt (fill l K (i+1)))∧q<(w3.setCell ⟨q,i,none⟩ (.int .i64 (l[i]'(by omega)))).heap.size:=fun i w2 w3 hi r2 b2 q2 c3=>by
  have b3:=b2.below c3;refine⟨(zB r2 c3).setCell (by show w.heap.size≤q;have:=HQ.out;omega) _,?_,by rw[World.size_setCell];exact Nat.lt_of_lt_of_le q2 c3.size⟩
  rw[←Sz l K i (by omega) hi,RL]
  exact b3.set i _
 have HSP:=Qq hstep;have H:=Qq h;clear hst hstep hb1 hblk hlt hlt' hown hgrow h hq;go_enter Tryz.func78,Tryz.ntmps78
 go_wp2_with fail;go_loopw [12] (fun iv wr=>∃i:Nat,i≤K∧iv=.int .i64 i∧Hid (Below w.heap.size w wr∧zH wr q (zt (fill l K i))∧q<wr.heap.size)) (fun iv _=>K-(intOf iv).toNat)
 case atStart=>exact⟨0,by omega,rfl,HST.out⟩
 case round =>
  obtain⟨i,hi,rfl,hr⟩:=hrel;by_cases hlt:i<K
  ·have hring:=H.out.below hr.out.1
   have hx:=hring.cell i (by have:=HK.out;omega)
   have HR:=Qq hring;clear hring
   have hm:(((e+i)%N:Nat):Int)<(N:Int):=by have:=Nat.mod_lt (e+i) (show 0<N by omega);omega
   obtain⟨k,hk⟩:∃k,k=(e+i)%N:=⟨_,rfl⟩
   rw[←hk] at hx hm;have HKK:=Qq hk;clear hk
   have c0':=HR.out.c0;obtain⟨s1,s2⟩:=hr.out.2.1.at i (by rw[yI,RX l K i (by have:=HK.out;omega) (by omega)];exact hlt)
   have hli:(i:Int)<(K:Int):=by omega
   have hsp:=HSP.out i wr;have HSQ:Hid (∀w3,Below wr.heap.size wr w3→_):=Qq (fun w3 hb=>HSP.out i wr w3 hlt hr.out.1 hr.out.2.1 hr.out.2.2 hb)
   clear hsp;go_wp2_with fail;go_region_with (go_at_call 87;refine(Vk _ p o g N e l (ZE HR.out _) i (by omega)).mono ?_;rintro r w1 ⟨rfl,mq,rfl⟩;rw[←HKK.out])
   all_goals
    go_wp2;exact⟨⟨i+1,by omega,by go_num,Qq (HSQ.out _ (below_drewN (Below.refl _ _) _))⟩,by simp[intOf];omega⟩
  ·obtain rfl:i=K:=by omega
   go_wp2;go_ret;obtain⟨t1,t2,t3⟩:=hr.out;rw[RW,List.take_of_length_le (by have:=HK.out;omega)] at t2
   have t5:=zN.KF t2 t3 (by unfold maxLen;have:=HK.out;omega)
   rw[←HK.out] at t5;exact⟨q,rfl,by have:=HQ.out;omega,t5,t1⟩
theorem xu.more {p o g:Nat}{F:List Nat}{w w2 w3:World}(h:xu p o g w w2)(c:zK F w2 w3)(hp:p∉F)(hF:∀x∈F,w.heap.size≤x)(hpl:p<w2.heap.size):xu p o g w w3 :=
 ⟨h.yE.trans c (fun x hx=>.inr (hF x hx)),fun k hk=>by
  have:=c.block p hpl hp
  rw[cell_of_heap this,World.frozen?_of_block (a:=⟨p,k,none⟩) this];exact h.far k hk⟩
structure Gp where
 b:Nat
 c0:Value
 c1:Value
 c2:Value
 c3:Value
 c4:Value
 c5:Value
 c6:Value
 c7:Value
 c8:Value
 c9:Value
 c10:Value
 ZP:Value
 Zw:Value
 xS:Value
 T:List Value
def Gp.cs (p:Gp)(v:Value):List Value:=p.c0::p.c1::p.c2::p.c3::p.c4::p.c5::p.c6::p.c7::p.c8::p.c9::p.c10::p.ZP::p.Zw::p.xS::v::p.T
def xj (w:World)(b:Gp)(gl:List Int)(F:List Nat):Prop:=∃a cap,F=b.b::zY a∧b.b∉zY a∧zH w b.b (b.cs (.slice a gl.length cap))∧zN w a cap gl
theorem xj.yE {w w':World}{b:Gp}{gl:List Int}{F G:List Nat}(h:xj w b gl F)(c:zK G w w')(hd:∀x∈F,x∉G):xj w' b gl F:=by
 obtain⟨a,cap,rfl,h2,h3,h4⟩:=h;exact⟨a,cap,rfl,h2,h3.yE c (hd b.b (by simp)),h4.yE c (fun x hx=>hd x (by simp[hx]))⟩
theorem xj.below {w w':World}{b:Gp}{gl:List Int}{F:List Nat}(h:xj w b gl F)(hb:Below w.heap.size w w'):xj w' b gl F:=h.yE (zK.zO (F:=[]) hb) (fun _ _=>by simp)
theorem xj.lt {w:World}{b:Gp}{gl:List Int}{F:List Nat}(h:xj w b gl F):∀x∈F,x<w.heap.size:=by
 obtain⟨a,cap,rfl,h2,h3,h4⟩:=h;intro x hx;simp at hx
 rcases hx with rfl|hx
 ·exact h3.lt (by simp[Gp.cs])
 ·exact h4.lt x hx
theorem SV (w:World)(b:Gp)(gl:List Int)(F:List Nat)(h:xj w b gl F)(a:Option Addr)(n c:Nat)(m:List Int)(hn:n=m.length)(hm:yT w a m)(hl:gl.length+m.length≤1000000000) :
  Calls Tryz.prog 39 #[.pointer (some ⟨b.b,14,none⟩),.slice a n c] w fun r w'=>r=.returned (.tuple #[])∧zK F w w'∧∃F',xj w' b (gl++m) F'∧∀x∈F',x∈F∨w.heap.size≤x:=by
 have hFlt:=h.lt;obtain⟨a0,cap,rfl,h2,h3,h4⟩:=h;obtain⟨g0,f0⟩:=h3 14 _ rfl;obtain⟨i0,hi0,hz0,hz1,hz2⟩:=info_parts Zq;have Hi:=Qq hi0;clear hi0
 have Hz0:=Qq hz0;clear hz0
 have Hz1:=Qq hz1;clear hz1
 have Hz2:=Qq hz2;clear hz2
 have HM:=Qq hm;clear hm
 have H2:=Qq h2;have H3:=Qq h3;have H4:=Qq h4;have HF:=Qq hFlt;have HN:=Qq hn;clear h2 h3 h4 hFlt hn;go_enter Tryz.func39,Tryz.ntmps39
 go_wp2_with (at_builtin;refine Zo (l:=gl) (m:=m) rfl _ _ 23 rfl 3 i0 _ Tryz.underlying23 Hi.out Hz0.out Hz1.out Hz2.out rfl rfl rfl rfl HN.out H4.out HM.out hl ?_)
 intro a1 c1 w1 k1 ch1 f1;have hb:=H3.out.yE ch1 H2.out;obtain⟨g1,f2⟩:=hb 14 _ rfl;have hb1:b.b∉zY a1:=fun hx=>by
  rcases f1 b.b hx with h|h
  ·exact H2.out h
  ·have:=HF.out b.b (by simp);omega
 have cs:zK [b.b] w1 (w1.setCell ⟨b.b,14,none⟩ (.slice a1 (gl.length+n) c1)):=(zK.refl _ _).setCell _ (.inl (by simp))
 have hfin:zK (b.b::zY a0) w (w1.setCell ⟨b.b,14,none⟩ (.slice a1 (gl.length+n) c1))∧∃F',xj (w1.setCell ⟨b.b,14,none⟩ (.slice a1 (gl.length+n) c1)) b (gl++m) F'∧∀x∈F',x∈b.b::zY a0∨w.heap.size≤x:=by
  refine⟨(ch1.mono (fun x hx=>by simp[hx])).trans cs (fun x hx=>by simp at hx;simp[hx]),b.b::zY a1,⟨a1,c1,rfl,hb1,?_,k1.yE cs (fun x hx=>by simp;intro e;subst e;exact hb1 hx)⟩,fun x hx=>?_⟩
  ·rw[List.length_append,←HN.out];exact hb.set 14 _
  ·simp at hx
   rcases hx with rfl|hx
   ·simp
   ·rcases f1 x hx with h|h
    ·simp[h]
    ·exact .inr h
 have HFIN:=Qq hfin;clear hfin cs hb1 hb k1 ch1 f1;go_wp2;go_end0
 exact⟨rfl,HFIN.out⟩
structure LQ where
 nx:Option Int
 l:List Int
def yu (w:World)(p g N:Nat)(q:LQ):Prop :=
 (∃e,zZ w p 2 g N e q.l)∧(w.cell? ⟨p,0,none⟩=some (.bool q.nx.isSome)∧w.frozen? ⟨p,0,none⟩=false)∧(w.cell? ⟨p,1,none⟩=some (.int .i64 (q.nx.getD 0))∧w.frozen? ⟨p,1,none⟩=false)
theorem yu.yE {w w':World}{p g N:Nat}{q:LQ}{G:List Nat}(h:yu w p g N q)(c:zK G w w')(hp:p∉G)(hg:g∉G):yu w' p g N q:=by
 obtain⟨⟨e,h1⟩,⟨h2,h3⟩,h4,h5⟩:=h;have hk:=c.block p h1.lt.1 hp;refine⟨⟨e,h1.yE c hp hg⟩,⟨Ze h2 c hp,?_⟩,Ze h4 c hp,?_⟩
 ·rw[World.frozen?_of_block (a:=⟨p,0,none⟩) hk];exact h3
 ·rw[World.frozen?_of_block (a:=⟨p,1,none⟩) hk];exact h5
theorem yu.below {w w':World}{p g N:Nat}{q:LQ}(h:yu w p g N q)(hb:Below w.heap.size w w'):yu w' p g N q:=h.yE (zK.zO (F:=[]) hb) (by simp) (by simp)
theorem yu.lt {w:World}{p g N:Nat}{q:LQ}(h:yu w p g N q):p<w.heap.size∧g<w.heap.size:=by obtain⟨⟨e,h1⟩,_⟩:=h;exact h1.lt
theorem yu.ll {w:World}{p g N:Nat}{q:LQ}(h:yu w p g N q):q.l.length≤N∧1≤N∧N≤1024∧g≠p:=by obtain⟨⟨e,h1⟩,_⟩:=h;exact⟨h1.ll,h1.n1,h1.n2,h1.ne⟩
theorem yu.ring {w w':World}{p g N e':Nat}{q:LQ}{l':List Int}(h:yu w p g N q)(h1:zZ w' p 2 g N e' l')(h2:xu p 2 g w w'):yu w' p g N ⟨q.nx,l'⟩:=by
 obtain⟨_,⟨k2,k3⟩,k4,k5⟩:=h;have f0:=h2.far 0 (by omega)
 have f1:=h2.far 1 (by omega)
 exact⟨⟨e',h1⟩,⟨by rw[f0.1];exact k2,by rw[f0.2];exact k3⟩,by rw[f1.1];exact k4,by rw[f1.2];exact k5⟩
theorem yu.Sf {w:World}{p g N:Nat}{q:LQ}(h:yu w p g N q)(nx:Option Int) :
  yu ((w.setCell ⟨p,0,none⟩ (.bool nx.isSome)).setCell ⟨p,1,none⟩ (.int .i64 (nx.getD 0))) p g N ⟨nx,q.l⟩∧zK [p,g] w ((w.setCell ⟨p,0,none⟩ (.bool nx.isSome)).setCell ⟨p,1,none⟩ (.int .i64 (nx.getD 0))):=by
 obtain⟨⟨e,h1⟩,⟨k2,k3⟩,k4,k5⟩:=h;obtain⟨cs,r1,r2,r3⟩:=h1.row;have hne:=h1.ne;refine⟨⟨⟨e,h1.n1,h1.n2,h1.ll,h1.el,hne,?_,?_,?_,?_,?_,h1.pl.set.set,cs,r1,(r2.Zn hne).Zn hne,r3⟩,⟨?_,?_⟩,?_,?_⟩,((zK.refl _ _).setCell _ (.inl (by simp))).setCell _ (.inl (by simp))⟩
 ·rw[World.cell?_setCell_other _ _ _ _ (by simp),World.cell?_setCell_other _ _ _ _ (by simp)];exact h1.c0
 ·rw[World.cell?_setCell_other _ _ _ _ (by simp),World.cell?_setCell_other _ _ _ _ (by simp)];exact h1.c1
 ·rw[World.cell?_setCell_other _ _ _ _ (by simp),World.cell?_setCell_other _ _ _ _ (by simp)];exact h1.c2
 ·rw[World.frozen?_setCell,World.frozen?_setCell];exact h1.f1
 ·rw[World.frozen?_setCell,World.frozen?_setCell];exact h1.f2
 ·rw[World.cell?_setCell_other _ _ _ _ (by simp),World.cell?_setCell_same' _ _ _ (by rw[k2];rfl)]
 ·rw[World.frozen?_setCell,World.frozen?_setCell];exact k3
 ·rw[World.cell?_setCell_same' _ _ _ (by rw[World.cell?_setCell_other _ _ _ _ (by simp),k4];rfl)]
 ·rw[World.frozen?_setCell,World.frozen?_setCell];exact k5
def LQ.num (q:LQ):Int:=q.nx.getD (-1)
theorem Tf (w:World)(p g N:Nat)(q:LQ)(h:yu w p g N q) :
  Calls Tryz.prog 56 #[.pointer (some ⟨p,0,none⟩)] w fun r w'=>r=.returned (.int .i64 q.num)∧w'=w:=by
 obtain⟨-,⟨k2,-⟩,k4,-⟩:=h;unfold LQ.num;cases hq:q.nx with
 | none =>
  rw[hq] at k2 k4;simp only[Option.isSome_none,Option.getD_none] at k2 k4 ⊢
  clear hq;go_enter Tryz.func56,Tryz.ntmps56
  go_wp2;go_ret;exact⟨rfl,rfl⟩
 | some v =>
  rw[hq] at k2 k4;simp only[Option.isSome_some,Option.getD_some] at k2 k4 ⊢
  clear hq;go_enter Tryz.func56,Tryz.ntmps56
  go_wp2;go_ret;exact⟨rfl,rfl⟩
def Z3 (N:Nat)(q:LQ)(v:Int)(g:List Int):LQ×List Int×Nat :=
 if q.l.length<N then(⟨q.nx,q.l++[v]⟩,g,0) else(⟨q.nx,q.l.drop (q.l.length / 2)⟩,g++(q.l.take (q.l.length / 2)++[v]),q.l.length / 2+1)
def mTurn (N:Nat)(q:LQ)(g:List Int):LQ×List Int×Nat:=match q.nx with|none=>(q,g,0)|some v=>Z3 N ⟨none,q.l⟩ v g
def xx (N:Nat)(q:LQ)(v:Int)(g:List Int):LQ×List Int×Nat:=(⟨some v,(mTurn N q g).1.l⟩,(mTurn N q g).2.1,(mTurn N q g).2.2)
def mGet (q:LQ):LQ×Option Int:=match q.nx with
 | some v=>(⟨none,q.l⟩,some v)
 | none=>match q.l with
  | []=>(q,none)
  | x::t=>(⟨none,t⟩,some x)
theorem Lf (N:Nat)(q:LQ)(v:Int)(g:List Int):(Z3 N q v g).2.1.length≤g.length+q.l.length+1:=by
 unfold Z3;split
 ·simp;omega
 ·simp only[List.length_append,List.length_take,List.length_singleton];omega
theorem IW (N:Nat)(q:LQ)(v:Int)(g:List Int)(h:q.l.length≤N):(Z3 N q v g).1.l.length≤N:=by
 unfold Z3;split
 ·simp;omega
 ·simp only[List.length_drop];omega
theorem J3 {p g B:Nat}(hp:p<B)(hg:g<B):∀x∈zY (some ⟨B,0,none⟩),x∉[p,g]:=fun x hx=>by
 simp[zY] at hx;subst hx;simp;omega
theorem Yx (w:World)(p g N:Nat)(q:LQ)(h:yu w p g N q) :
  Calls Tryz.prog 92 #[.pointer (some ⟨p,0,none⟩)] w fun r w'=>r=.returned (.tuple #[.int .i64 q.num,.bool q.nx.isSome])∧yu w' p g N ⟨none,q.l⟩∧zK [p,g] w w':=by
 have hb:∀m,yu (w.drewN m) p g N q:=fun m=>h.below (below_drewN (Below.refl _ _) m)
 have hf:∀m,yu (((w.drewN m).setCell ⟨p,0,none⟩ (.bool false)).setCell ⟨p,1,none⟩ (.int .i64 0)) p g N ⟨none,q.l⟩∧zK [p,g] w (((w.drewN m).setCell ⟨p,0,none⟩ (.bool false)).setCell ⟨p,1,none⟩ (.int .i64 0)):=fun m =>
  ⟨((hb m).Sf none).1,(zK.zO (below_drewN (Below.refl _ _) m)).trans ((hb m).Sf none).2 (fun x hx=>.inl hx)⟩
 obtain⟨-,⟨k2,f2⟩,k4,f4⟩:=h;have HB:=Qq hb;have HF:=Qq hf;clear hb hf;obtain⟨s,hs⟩:∃s,s=q.nx.isSome:=⟨_,rfl⟩
 obtain⟨v,hv⟩:∃v,v=q.num:=⟨_,rfl⟩
 rw[←hs] at k2 ⊢;rw[←hv];have hcall:∀m,Calls Tryz.prog 56 #[.pointer (some ⟨p,0,none⟩)] (w.drewN m) fun r w'=>r=.returned (.int .i64 v)∧w'=w.drewN m:=fun m=>by rw[hv];exact Tf _ p g N q (HB.out m)
 have HC:=Qq hcall;clear hcall hs hv;go_enter Tryz.func92,Tryz.ntmps92
 go_wp2_with fail;go_quiet ((go_at_call 56;exact Calls.quiet_of_same (HC.out _)))
 go_wp2;go_ret2
 exact⟨rfl,HF.out _⟩
theorem NU (w:World)(p g N:Nat)(q:LQ)(h:yu w p g N q) :
  Calls Tryz.prog 57 #[.pointer (some ⟨p,0,none⟩)] w fun r w'=>∃b,r=.returned (.slice (some ⟨b,0,none⟩) q.l.length q.l.length)∧w.heap.size≤b∧zN w' (some ⟨b,0,none⟩) q.l.length q.l∧Below w.heap.size w w':=by
 obtain⟨⟨e,h1⟩,-⟩:=h;have H1:=Qq h1;clear h1
 go_enter Tryz.func57,Tryz.ntmps57
 go_wp2_with fail;refine(Ml _ _ _ _ _ _ _ H1.out).mono ?_
 rintro r w1 ⟨b,rfl,k⟩;have K:=Qq k;clear k
 go_wp2;go_ret;exact⟨b,rfl,K.out⟩
theorem KR (w:World)(p g N:Nat)(b:Gp)(q:LQ)(gl:List Int)(F:List Nat)(v:Int)(h:yu w p g N q)(hg:xj w b gl F)(hp:p∉F)(hgF:g∉F)(hl:gl.length≤1000000) :
  Calls Tryz.prog 105 #[.pointer (some ⟨p,0,none⟩),.int .i64 v,.pointer (some ⟨b.b,14,none⟩)] w fun r w'=>r=.returned (.int .i64 ((Z3 N q v gl).2.2:Int))∧yu w' p g N (Z3 N q v gl).1 ∧
   zK (p::g::F) w w'∧∃F',xj w' b (Z3 N q v gl).2.1 F'∧∀x∈F',x∈F∨w.heap.size≤x:=by
 obtain⟨e,h1⟩:=h.1;have ll:=h1.ll;have n2:=h1.n2;have H:=Qq h;clear h
 have H1:=Qq h1;have HG:=Qq hg;have HD:Hid (p∉F∧g∉F):=Qq ⟨hp,hgF⟩
 obtain⟨hpl,hgl⟩:=h1.lt;have hgp:=h1.ne;clear h1 hp hgF hg;by_cases hroom:q.l.length<N
 ·have e1:Z3 N q v gl=(⟨q.nx,q.l++[v]⟩,gl,0):=by unfold Z3;rw[if_pos hroom]
  rw[e1];clear e1;have HR:=Qq hroom;go_enter Tryz.func105,Tryz.ntmps105
  go_wp2_with fail;refine(Rn _ _ _ _ _ _ _ v H1.out HR.out).mono ?_
  rintro r w1 ⟨rfl,k1,k2⟩;have hfin:yu w1 p g N ⟨q.nx,q.l++[v]⟩∧zK (p::g::F) w w1∧∃F',xj w1 b gl F'∧∀x∈F',x∈F∨w.heap.size≤x :=
   ⟨H.out.ring k1 k2,k2.yE.mono (fun x hx=>by simp at hx ⊢;omega),F,HG.out.yE k2.yE (fun x hx hc=>by simp at hc;rcases hc with rfl|rfl;exact HD.out.1 hx;exact HD.out.2 hx),fun x hx=>.inl hx⟩
  have HFIN:=Qq hfin;clear hfin k1 k2;go_wp2;go_ret;exact⟨rfl,HFIN.out⟩
 ·have e1:Z3 N q v gl=(⟨q.nx,q.l.drop (q.l.length / 2)⟩,gl++(q.l.take (q.l.length / 2)++[v]),q.l.length / 2+1):=by unfold Z3;rw[if_neg hroom]
  rw[e1];clear e1;have HR:=Qq hroom;obtain⟨n,hn⟩:∃n,n=q.l.length:=⟨_,rfl⟩
  obtain⟨k,hk⟩:∃k,k=n / 2:=⟨_,rfl⟩
  rw[←hn,←hk];rw[←hn] at ll hroom;have hkn:k≤n:=by omega
  have hquo:(n:Int).tdiv 2=(k:Int):=by rw[hk,Int.tdiv_eq_ediv_of_nonneg (by omega)];rfl
  have hw:IntKind.i64.wrap (k:Int)=(k:Int):=by rw[IntKind.wrap_i64];omega
  have hT:xo (k:Int) q.l.length=k:=by unfold xo;omega
  have HT:=Qq hT;have HN:=Qq hn;clear hT hn hk;obtain⟨i0,hi0,hz0,hz1,hz2⟩:=info_parts Zq;have Hi:=Qq hi0;clear hi0
  have Hz0:=Qq hz0;clear hz0
  have Hz1:=Qq hz1;clear hz1
  have Hz2:=Qq hz2;clear hz2
  go_enter Tryz.func105,Tryz.ntmps105
  go_wp2_with fail;refine(OX _ _ _ _ _ _ _ v H1.out HR.out).mono ?_
  rintro r w1 ⟨rfl,k1,k2⟩;have R1:=Qq k1;have C1:=Qq k2;obtain⟨hpl1,hgl1⟩:=k1.lt;clear k1 k2;go_wp2_with fail;go_region_law (first
   | (go_simp;go_at_call 108;refine(Wz _ p 2 g N e q.l (by first|exact R1.out.below (zg _)|exact R1.out.below ((zg _).alloc (by simp) _)|exact R1.out.below (below_alloc1 _ _).drew)).mono ?_;rw[←HN.out];rintro r w2 ⟨rfl,rfl⟩)
   | (go_simp;go_at_call 110;refine(UX _ p 2 g N e q.l _ (by first|exact R1.out.below (zg _)|exact R1.out.below ((zg _).alloc (by simp) _)|exact R1.out.below (below_alloc1 _ _).drew)).mono ?_;rw[HT.out];rintro r w3 ⟨bq,eq,rfl,k3,k4,k5,k6⟩)
   | (refine VC (l:=q.l.take k) (m:=[v]) (by rfl) _ _ 23 (by rfl) 3 i0 _ Tryz.underlying23 Hi.out Hz0.out Hz1.out Hz2.out rfl (by rfl) (by rfl) (by rw[List.length_take,←HN.out];omega) (by rfl) (by first|exact k4|exact k4.below (below_alloc1 _ _)) (by first|exact(zN.one _ _ _ rfl).ints|exact((zN.one w1.drew v 3 (b:=w1.heap.size) rfl).yE k6.yE (J3 hpl1 hgl1)).ints) (by rw[List.length_take,List.length_singleton];omega) ?_;intro a2 c2 w4 k7 c7 f7))
  all_goals
   have c34:zK (zY (some ⟨bq,0,none⟩)) w3 w4:=by first|exact c7|exact(zK.zO (below_alloc1 _ _)).trans c7 (fun x hx=>.inl hx)
   have r13:xu p 2 g w1 w3:=by first|exact(xu.zO hpl1 (zg _)).trans k6|exact(xu.zO hpl1 ((zg _).alloc (Nat.le_refl _) _)).trans k6
   have hbq:w1.heap.size≤bq:=by first|exact k3|exact Nat.le_trans (by simp) k3
   have hpl3:=k5.lt;have r4:=k5.yE c34 (by simp[zY];omega) (by simp[zY];omega)
   have r14:=r13.more c34 (by simp[zY];omega) (fun x hx=>by simp[zY] at hx;omega) hpl3.1
   have L4:=(H.out.ring R1.out C1.out).ring r4 r14
   have G4:=(HG.out.yE C1.out.yE (fun x hx hc=>by simp at hc;rcases hc with rfl|rfl;exact HD.out.1 hx;exact HD.out.2 hx)).yE r14.yE (fun x hx hc=>by simp at hc;rcases hc with rfl|rfl;exact HD.out.1 hx;exact HD.out.2 hx)
   have C4:=C1.out.yE.trans r14.yE (fun x hx=>.inl hx)
   have HL4:=Qq L4;have HG4:=Qq G4;have HC4:=Qq C4;have HI:=Qq k7.ints;clear L4 G4 C4 r14 r4 hpl3 hbq r13 c34 k3 k4 k5 k6 k7 c7 f7;go_wp2_with fail;refine(SV w4 b gl F HG4.out a2 (k+1) c2 (q.l.take k++[v]) (by rw[List.length_append,List.length_take,List.length_singleton,←HN.out];omega) HI.out (by rw[List.length_append,List.length_take,List.length_singleton,←HN.out];omega)).mono ?_
   rintro r w5 ⟨rfl,c5,F',k8,k9⟩;have hfin:yu w5 p g N ⟨q.nx,q.l.drop k⟩∧zK (p::g::F) w w5∧∃F',xj w5 b (gl++(q.l.take k++[v])) F'∧∀x∈F',x∈F∨w.heap.size≤x:=by
    refine⟨HL4.out.yE c5 HD.out.1 HD.out.2,(HC4.out.mono (fun x hx=>by simp at hx ⊢;omega)).trans c5 (fun x hx=>.inl (by simp[hx])),F',k8,fun x hx=>?_⟩
    rcases k9 x hx with h|h
    ·exact .inl h
    ·exact .inr (Nat.le_trans HC4.out.size h)
   have HFIN:=Qq hfin;clear hfin c5 k8 k9;go_wp2;go_ret;exact⟨Wj (by simp),HFIN.out⟩
theorem Tq (w:World)(p g N:Nat)(b:Gp)(q:LQ)(gl:List Int)(F:List Nat)(h:yu w p g N q)(hg:xj w b gl F)(hp:p∉F)(hgF:g∉F)(hl:gl.length≤1000000) :
  Calls Tryz.prog 94 #[.pointer (some ⟨p,0,none⟩),.pointer (some ⟨b.b,14,none⟩)] w fun r w'=>r=.returned (.int .i64 ((mTurn N q gl).2.2:Int))∧yu w' p g N ⟨none,(mTurn N q gl).1.l⟩ ∧
   zK (p::g::F) w w'∧∃F',xj w' b (mTurn N q gl).2.1 F'∧∀x∈F',x∈F∨w.heap.size≤x:=by
 have H:=Qq h;clear h
 have HG:=Qq hg;clear hg
 have HD:Hid (p∉F∧g∉F):=Qq ⟨hp,hgF⟩
 clear hp hgF;cases hq:q.nx with
 | none =>
  have e1:mTurn N q gl=(q,gl,0):=by unfold mTurn;rw[hq]
  have e2:q.nx.isSome=false:=by rw[hq];rfl
  rw[e1];have hc:=Yx w p g N q H.out;rw[e2] at hc;have HC:=Qq hc;clear e1 e2 hq hc;go_enter Tryz.func94,Tryz.ntmps94
  go_wp2_with fail;refine HC.out.mono ?_
  rintro r w1 ⟨rfl,h1,c1⟩;have hfin:yu w1 p g N ⟨none,q.l⟩∧zK (p::g::F) w w1∧∃F',xj w1 b gl F'∧∀x∈F',x∈F∨w.heap.size≤x :=
   ⟨h1,c1.mono (fun x hx=>by simp at hx ⊢;omega),F,HG.out.yE c1 (fun x hx hc=>by simp at hc;rcases hc with rfl|rfl;exact HD.out.1 hx;exact HD.out.2 hx),fun x hx=>.inl hx⟩
  have HFIN:=Qq hfin;clear hfin h1 c1;go_wp2;go_ret;exact⟨rfl,HFIN.out⟩
 | some v =>
  have e1:mTurn N q gl=Z3 N ⟨none,q.l⟩ v gl:=by unfold mTurn;rw[hq]
  have e2:q.num=v:=by unfold LQ.num;rw[hq];rfl
  have e4:q.nx.isSome=true:=by rw[hq];rfl
  have e3:(Z3 N ⟨none,q.l⟩ v gl).1=⟨none,(Z3 N ⟨none,q.l⟩ v gl).1.l⟩:=by unfold Z3;split<;>rfl
  have hp2:=fun w1 h1 h2=>KR w1 p g N b ⟨none,q.l⟩ gl F v h1 h2 HD.out.1 HD.out.2 hl
  obtain⟨M,hM⟩:∃M,M=Z3 N ⟨none,q.l⟩ v gl:=⟨_,rfl⟩
  rw[e1];rw[←hM] at e3 hp2 ⊢;have hc:=Yx w p g N q H.out;rw[e2,e4] at hc;have HC:=Qq hc;have HP:=Qq hp2;have E3:=Qq e3;clear e1 e2 e3 e4 hq hc hp2 hM;go_enter Tryz.func94,Tryz.ntmps94
  go_wp2_with fail;refine HC.out.mono ?_
  rintro r w1 ⟨rfl,h1,c1⟩;have G1:=Qq (HG.out.yE c1 (fun x hx hc=>by simp at hc;rcases hc with rfl|rfl;exact HD.out.1 hx;exact HD.out.2 hx))
  have H1:=Qq h1;have C1:=Qq c1;clear h1 c1 HC;go_wp2_with fail;refine(HP.out _ H1.out G1.out).mono ?_
  rintro r w2 ⟨rfl,h2,c2,F',h3,h4⟩;have hfin:yu w2 p g N ⟨none,M.1.l⟩∧zK (p::g::F) w w2∧∃F',xj w2 b M.2.1 F'∧∀x∈F',x∈F∨w.heap.size≤x:=by
   refine⟨by rw[←E3.out];exact h2,(C1.out.mono (fun x hx=>by simp at hx ⊢;omega)).trans c2 (fun x hx=>.inl hx),F',h3,fun x hx=>?_⟩
   rcases h4 x hx with h|h
   ·exact .inl h
   ·exact .inr (Nat.le_trans C1.out.size h)
  have HFIN:=Qq hfin;clear hfin h2 c2 h3 h4;go_wp2;go_ret;exact⟨rfl,HFIN.out⟩
theorem QC (w:World)(p g N:Nat)(b:Gp)(q:LQ)(gl:List Int)(F:List Nat)(v:Int)(h:yu w p g N q)(hg:xj w b gl F)(hp:p∉F)(hgF:g∉F)(hl:gl.length≤1000000) :
  Calls Tryz.prog 86 #[.pointer (some ⟨p,0,none⟩),.int .i64 v,.pointer (some ⟨b.b,14,none⟩)] w fun r w'=>r=.returned (.int .i64 ((xx N q v gl).2.2:Int))∧yu w' p g N (xx N q v gl).1 ∧
   zK (p::g::F) w w'∧∃F',xj w' b (xx N q v gl).2.1 F'∧∀x∈F',x∈F∨w.heap.size≤x:=by
 have H:=Qq h;clear h
 have HG:=Qq hg;clear hg
 have HD:Hid (p∉F∧g∉F):=Qq ⟨hp,hgF⟩
 clear hp hgF;unfold xx;have ht:=Tq w p g N b q gl F H.out HG.out HD.out.1 HD.out.2 hl;obtain⟨M,hM⟩:∃M,M=mTurn N q gl:=⟨_,rfl⟩
 rw[←hM] at ht ⊢;have HTT:=Qq ht;clear ht hM;go_enter Tryz.func86,Tryz.ntmps86
 go_wp2_with fail;refine HTT.out.mono ?_
 rintro r w1 ⟨rfl,h1,c1,F',h2,h3⟩;obtain⟨s1,s2⟩:=h1.Sf (some v)
 have hFn:p∉F'∧g∉F':=⟨fun hx=>by rcases h3 p hx with h|h;exact HD.out.1 h;exact absurd H.out.lt.1 (by omega),fun hx=>by rcases h3 g hx with h|h;exact HD.out.2 h;exact absurd H.out.lt.2 (by omega)⟩
 have hfin:yu ((w1.setCell ⟨p,0,none⟩ (.bool true)).setCell ⟨p,1,none⟩ (.int .i64 v)) p g N ⟨some v,M.1.l⟩∧zK (p::g::F) w ((w1.setCell ⟨p,0,none⟩ (.bool true)).setCell ⟨p,1,none⟩ (.int .i64 v)) ∧
   ∃F',xj ((w1.setCell ⟨p,0,none⟩ (.bool true)).setCell ⟨p,1,none⟩ (.int .i64 v)) b M.2.1 F'∧∀x∈F',x∈F∨w.heap.size≤x :=
  ⟨s1,c1.trans s2 (fun x hx=>by simp at hx;simp;omega),F',h2.yE s2 (fun x hx hc=>by simp at hc;rcases hc with rfl|rfl;exact hFn.1 hx;exact hFn.2 hx),h3⟩
 have HFIN:=Qq hfin;obtain⟨-,⟨k2,f2⟩,k4,f4⟩:=h1;clear hfin hFn s1 s2 h2 h3 c1;go_wp2;go_ret;exact⟨rfl,HFIN.out⟩
def Zc (x:Option Int):Value:=.tuple #[.int .i64 (x.getD (-1)),.bool x.isSome]
theorem M4 (w:World)(p g N:Nat)(q:LQ)(h:yu w p g N q) :
  Calls Tryz.prog 83 #[.pointer (some ⟨p,0,none⟩)] w fun r w'=>r=.returned (Zc (mGet q).2)∧yu w' p g N (mGet q).1∧zK [p,g] w w':=by
 have H:=Qq h;clear h
 go_enter Tryz.func83,Tryz.ntmps83
 go_wp2_with fail;refine(Yx _ _ _ _ _ H.out).mono ?_
 rintro r w1 ⟨rfl,h1,c1⟩;have H1:=Qq h1;have C1:=Qq c1;clear h1 c1;obtain⟨nx,l⟩:=q;cases nx with
 | some v =>
  simp only[LQ.num,Option.getD_some,Option.isSome_some];go_wp2;go_ret2
  exact⟨rfl,H1.out,C1.out⟩
 | none =>
  obtain⟨⟨e,r1⟩,-⟩:=H1.out;cases l with
  | nil =>
   simp only[LQ.num,Option.getD_none,Option.isSome_none];have R1:=Qq r1;clear r1
   go_wp2_with fail;refine(Lv _ _ _ _ _ _ R1.out).mono ?_
   rintro r w2 ⟨rfl,h2,c2⟩;have H2:=Qq (H1.out.ring h2 c2)
   have C2:=Qq (C1.out.trans c2.yE (fun x hx=>.inl hx))
   clear h2 c2;go_wp2;go_ret2
   exact⟨rfl,H2.out,C2.out⟩
  | cons x t =>
   simp only[LQ.num,Option.getD_none,Option.isSome_none];have R1:=Qq r1;clear r1
   go_wp2_with fail;refine(Ou _ _ _ _ _ _ _ _ R1.out).mono ?_
   rintro r w2 ⟨rfl,h2,c2⟩;have H2:=Qq (H1.out.ring h2 c2)
   have C2:=Qq (C1.out.trans c2.yE (fun x hx=>.inl hx))
   clear h2 c2;go_wp2;go_ret2
   exact⟨rfl,H2.out,C2.out⟩
theorem Ko (z:Int)(w:World):Calls Tryz.prog 38 #[.int .i64 z] w fun r w'=>∃p g,r=.returned (.pointer (some ⟨p,0,none⟩))∧yu w' p g (Zp z) ⟨none,[]⟩∧w.heap.size≤p∧w.heap.size≤g∧Below w.heap.size w w':=by
 have hr:=Lg z w;generalize Zp z=N at hr ⊢
 have HR:=Qq hr;clear hr;go_enter Tryz.func38,Tryz.ntmps38
 go_wp2_with fail;refine HR.out.mono ?_
 rintro r w1 ⟨p0,g,rfl,h1,h2,h3,h4⟩;have c0:=h1.c0;have c1:=h1.c1;have c2:=h1.c2;have hs:∀o:Obj,o=.cells #[.bool false,.int .i64 0,.slice (some ⟨g,0,none⟩) N N,.int .i64 0,.int .i64 0] 174→yu (w1.alloc o) w1.heap.size g N ⟨none,[]⟩∧w.heap.size≤w1.heap.size∧w.heap.size≤g∧Below w.heap.size w (w1.alloc o):=fun o ho=>by
  subst ho;obtain⟨cs,r1,r2,r3⟩:=h1.row;have hgl:=h1.lt.2;have hB:=zH.mk w1 [.bool false,.int .i64 0,.slice (some ⟨g,0,none⟩) N N,.int .i64 0,.int .i64 0] 174 _ rfl
  exact⟨⟨⟨0,h1.n1,h1.n2,by simp,by have:=h1.n1;omega,by omega,(hB 2 _ rfl).1,(hB 3 _ rfl).1,(hB 4 _ rfl).1,(hB 3 _ rfl).2,(hB 4 _ rfl).2,Plain.new _ _ _ rfl,cs,r1,r2.alloc _,fun i hi=>by simp at hi⟩,hB 0 _ rfl,hB 1 _ rfl⟩,h4.size,h3,h4.alloc h4.size _⟩
 have HS:=Qq hs;clear hs h1;go_wp2;go_ret;exact⟨_,g,rfl,HS.out _ rfl⟩
theorem KM (w:World)(b:Gp)(gl:List Int)(F:List Nat)(h:xj w b gl F) :
  Calls Tryz.prog 126 #[.pointer (some ⟨b.b,14,none⟩)] w fun r w'=>r=.returned (.int .i64 (gl.length:Int))∧w'=w:=by
 obtain⟨a0,cap,rfl,h2,h3,h4⟩:=h;obtain⟨g0,f0⟩:=h3 14 _ rfl;clear h2 h3 h4;go_enter Tryz.func126,Tryz.ntmps126
 go_wp2;go_ret;exact⟨rfl,rfl⟩
theorem TE (w:World)(p g N:Nat)(q:LQ)(h:yu w p g N q) :
  Calls Tryz.prog 111 #[.pointer (some ⟨p,0,none⟩)] w fun r w'=>r=.returned (.int .i64 ((N-q.l.length+1:Nat):Int))∧∃m,w'=w.drewN m:=by
 obtain⟨⟨e,h1⟩,-⟩:=h;have ll:=h1.ll;have n2:=h1.n2;obtain⟨n,hn⟩:∃n,n=q.l.length:=⟨_,rfl⟩
 rw[←hn] at ll ⊢;have hR:∀m,Calls Tryz.prog 127 #[.pointer (some ⟨p,2,none⟩)] (w.drewN m) fun r w'=>r=.returned (.int .i64 (N:Int))∧w'=w.drewN m:=fun m=>Mp _ _ _ _ _ _ _ (ZE h1 m)
 have hL:∀m,Calls Tryz.prog 108 #[.pointer (some ⟨p,2,none⟩)] (w.drewN m) fun r w'=>r=.returned (.int .i64 (n:Int))∧w'=w.drewN m:=fun m=>by rw[hn];exact Wz _ _ _ _ _ _ _ (ZE h1 m)
 have HR:=Qq hR;have HL:=Qq hL;clear hR hL h1 hn;go_enter Tryz.func111,Tryz.ntmps111
 go_wp2_with fail;go_quiet (first
  | (go_at_call 127;exact Calls.quiet_of_same (HR.out _))
  | (go_at_call 108;exact Calls.quiet_of_same (HL.out _)))
 go_wp2;go_ret;exact⟨Wj (by omega),_,rfl⟩
theorem Qn (w:World)(p:Nat)(a:Option Addr)(c:Nat) :
  Calls Tryz.prog 109 #[.pointer (some ⟨p,0,none⟩),.slice a 0 c] w fun r w'=>r=.returned (Zc none)∧w'=w:=by
 go_enter Tryz.func109,Tryz.ntmps109
 go_wp2;go_ret2
 exact⟨rfl,rfl⟩
theorem Tr (w:World)(p g N:Nat)(q:LQ)(a:Option Addr)(n c:Nat)(x:Int)(t:List Int)(h:yu w p g N q)(hr:zN w a c (x::t))(hn:n=t.length+1)(hd:∀y∈zY a,y≠p∧y≠g)(hl:q.l.length+t.length≤N) :
  Calls Tryz.prog 109 #[.pointer (some ⟨p,0,none⟩),.slice a n c] w fun r w'=>r=.returned (Zc (some x))∧yu w' p g N ⟨q.nx,q.l++t⟩∧zK [p,g] w w':=by
 have hll:=h.ll;obtain⟨a',hs1,hr1,hk1⟩:=Wh YU Wu hr 1 (by simp)
 rw[show(x::t).length=n by rw[hn];rfl] at hs1
 simp only[QQ,QJ] at hr1;obtain⟨m,hm⟩:∃m,m=t.length:=⟨_,rfl⟩
 rw[show n-1=m by omega] at hs1
 rw[show n=m+1 by omega] at hs1 ⊢
 have H:=Qq h;have HR1:=Qq hr1;have HR:=Qq hr;have HD:=Qq hd;have HD1:Hid (∀y∈zY a',y≠p∧y≠g):=Qq (by rw[hk1];exact hd)
 have HL:Hid (q.l.length+t.length≤N):=Qq hl
 have hm1:m≤1024:=by omega
 have HM:=Qq hm;clear h hr1 hr hd hk1 hl hm hn hll;go_enter Tryz.func109,Tryz.ntmps109
 have hs1':∀w,(Instr.slice 23 (.slice a (m+1) c) (some (.int .i64 1)) none none).run Tryz.prog w=.ok (.slice a' m (c-1)) w:=hs1
 clear hs1;have hb0:((m:Int)+1==0)=false:=by rw[beq_eq_false_iff_ne];omega
 go_wp2_with fail;go_loopw [14] (fun iv wr=>∃i:Nat,i≤m∧iv=.int .i64 i∧Hid (yu wr p g N ⟨q.nx,q.l++t.take i⟩∧zK [p,g] w wr)) (fun iv _=>m-(intOf iv).toNat)
 case atStart=>exact⟨0,by omega,rfl,⟨by rw[QV,List.append_nil];exact H.out,zK.refl _ _⟩⟩
 case round =>
  obtain⟨i,hi,rfl,hr⟩:=hrel;by_cases hlt:i<m
  ·have hit:i<t.length:=by have:=HM.out;omega
   obtain⟨b9,o9,rfl,g9⟩:=(HR1.out.yE hr.out.2 (fun y hy=>by have:=HD1.out y hy;simp;omega)).ints i hit
   have hts:t.take (i+1)=t.take i++[t[i]]:=by rw[List.take_add_one,List.getElem?_eq_getElem hit];rfl
   have HTS:=Qq hts;clear hts
   generalize t[i]=y at g9 HTS
   have hli:(i:Int)<(m:Int):=by omega
   obtain⟨e,r1⟩:=hr.out.1.1;have R1:=Qq r1;clear r1
   go_wp2_with fail;refine(Rn _ _ _ _ _ _ _ y R1.out (by have:=HL.out;simp only[List.length_append,List.length_take];omega)).mono ?_
   rintro r w1 ⟨rfl,k1,k2⟩;have h2:yu w1 p g N ⟨q.nx,q.l++t.take (i+1)⟩∧zK [p,g] w w1:=⟨by rw[HTS.out,←List.append_assoc];exact hr.out.1.ring k1 k2,hr.out.2.trans k2.yE (fun x hx=>.inl hx)⟩
   have H2:=Qq h2;clear h2 k1 k2
   go_wp2;exact⟨⟨i+1,by omega,by go_num,H2⟩,by simp[intOf];omega⟩
  ·obtain rfl:i=m:=by omega
   obtain⟨b9,o9,rfl,g9⟩:=(HR.out.yE hr.out.2 (fun y hy=>by have:=HD.out y hy;simp;omega)).ints 0 (by simp)
   simp only[List.getElem_cons_zero,Nat.add_zero] at g9;have h2:yu wr p g N ⟨q.nx,q.l++t⟩∧zK [p,g] w wr:=by
    have:=hr.out
    rwa [List.take_of_length_le (by have:=HM.out;omega)] at this
   have H2:=Qq h2;clear h2 hr
   go_wp2;go_ret2
   exact⟨rfl,H2.out⟩
theorem RJ:∃j,Tryz.prog.info? 174=some j:=by
 cases h:Tryz.prog.info? 174 with
 | some j=>exact⟨j,rfl⟩
 | none =>
  have e:(Tryz.prog.info? 174).isSome=true:=by kernel_rfl
  rw[h] at e;cases e
theorem UP:∀j,Tryz.prog.info? 174=some j→j.size≠0:=fun j hj=>by
 have e:(Tryz.prog.info? 174).map (·.size)=some 5:=by kernel_rfl
 rw[hj] at e;simp at e;omega
theorem JA (w:World)(p p2 g g2 N N2:Nat)(q f:LQ)(h:yu w p g N q)(h2:yu w p2 g2 N2 f)(hne:p2≠p) :
  (binOp .eql 122 (.pointer (some ⟨p2,0,none⟩)) (.pointer (some ⟨p,0,none⟩))).run Tryz.prog w=.ok (.bool false) w:=by
 obtain⟨⟨e,h1⟩,-⟩:=h;obtain⟨⟨e2,h3⟩,-⟩:=h2;obtain⟨ca,ta,k1⟩:=h1.pl;obtain⟨cb,tb,k2⟩:=h3.pl;obtain⟨j,hj⟩:=RJ;exact run_eql_ptr_other w Tryz.underlying122 hj (UP j hj) (fun e=>hne (by injection e)) k2 k1
def mSteal (N:Nat)(q f:LQ):LQ×LQ×Option Int:=match f.l with
 | []=>(q,⟨none,[]⟩,f.nx)
 | x::t=>(⟨q.nx,q.l++(f.l.take (min ((f.l.length+1) / 2) (N-q.l.length+1))).tail⟩,⟨f.nx,f.l.drop (min ((f.l.length+1) / 2) (N-q.l.length+1))⟩,some x)
theorem Rw (w:World)(p:Nat) :
  Calls Tryz.prog 96 #[.pointer (some ⟨p,0,none⟩),.pointer (some ⟨p,0,none⟩)] w fun r w'=>r=.returned (Zc none)∧w'=w:=by
 have heq:=run_eql_ptr_same (P:=Tryz.prog) w (tp:=122) ⟨p,0,none⟩ Tryz.underlying122 RJ.choose_spec
 go_enter Tryz.func96,Tryz.ntmps96
 go_wp2;go_ret2
 exact⟨rfl,rfl⟩
theorem Pa (w:World)(p g N p2 g2 N2:Nat)(q f:LQ)(h:yu w p g N q)(h2:yu w p2 g2 N2 f)(d1:p≠p2)(d2:p≠g2)(d3:g≠p2)(d4:g≠g2) :
  Calls Tryz.prog 96 #[.pointer (some ⟨p,0,none⟩),.pointer (some ⟨p2,0,none⟩)] w fun r w'=>r=.returned (Zc (mSteal N q f).2.2)∧yu w' p g N (mSteal N q f).1∧yu w' p2 g2 N2 (mSteal N q f).2.1∧zK [p,g,p2,g2] w w':=by
 have H:=Qq h;have H2:=Qq h2;have hll:=h.ll;have hll2:=h2.ll;obtain⟨⟨e2,r2⟩,-⟩:=h2;have R2:=Qq r2;clear r2
 have HD:Hid (p≠p2∧p≠g2∧g≠p2∧g≠g2):=Qq ⟨d1,d2,d3,d4⟩
 have heq:=JA w p p2 g g2 N N2 q f h H2.out (fun e=>d1 e.symm)
 obtain⟨fx,fl⟩:=f;cases fl with
 | nil =>
  simp only[mSteal];have hc:=fun w hw=>Yx w p2 g2 N2 ⟨fx,[]⟩ hw
  have hlen:Calls Tryz.prog 108 #[.pointer (some ⟨p2,2,none⟩)] w fun r w'=>r=.returned (.int .i64 0)∧w'=w:=Wz _ _ _ _ _ _ _ R2.out
  have HLEN:=Qq hlen;clear hlen d2 d3 d4 hc h;have hgv:Value.tuple #[.int .i64 (LQ.num ⟨fx,[]⟩),.bool fx.isSome]=Zc fx:=rfl
  have HGV:=Qq hgv;clear hgv
  go_enter Tryz.func96,Tryz.ntmps96
  go_wp2_with fail;refine HLEN.out.mono ?_
  rintro r w1 ⟨rfl,rfl⟩;go_wp2_with fail;refine(Yx _ p2 g2 N2 ⟨fx,[]⟩ H2.out).mono ?_
  rintro r w2 ⟨rfl,k1,k2⟩;have K1:=Qq k1;have K2:=Qq k2;clear k1 k2;go_wp2;go_ret2
  refine⟨rfl,H.out.yE K2.out (by have:=HD.out;simp;omega) (by have:=HD.out;simp;omega),K1.out,K2.out.mono (fun x hx=>by simp at hx ⊢;omega)⟩
 | cons x t =>
  simp only[mSteal];obtain⟨n,hn⟩:∃n,n=(x::t).length:=⟨_,rfl⟩
  obtain⟨mo,hmo⟩:∃mo,mo=N-q.l.length+1:=⟨_,rfl⟩
  obtain⟨hf,hhf⟩:∃hf,hf=(n+1) / 2:=⟨_,rfl⟩
  obtain⟨k,hk⟩:∃k,k=min hf mo:=⟨_,rfl⟩
  have hnt:n=t.length+1:=by rw[hn];rfl
  have hn2:n≤1024:=by have:=hll2.1;rw[←hn] at this;omega
  have hk1:1≤k∧k≤n:=by omega
  rw[←hn,←hhf,←hmo,←hk];have e1:(x::t).take k=x::t.take (k-1):=by
   obtain⟨j,rfl⟩:∃j,k=j+1:=⟨k-1,by omega⟩
   simp
  rw[e1,List.tail_cons];have hT:xo (k:Int) (x::t).length=k:=by rw[←hn];unfold xo;omega
  have hquo:((n:Int)+1).tdiv 2=(hf:Int):=by rw[hhf,Int.tdiv_eq_ediv_of_nonneg (by omega)];rfl
  have hcase:((hf:Int)≤(mo:Int)∧k=hf)∨((mo:Int)<(hf:Int)∧k=mo):=by omega
  have hw1:IntKind.i64.wrap ((n:Int)+1)=(n:Int)+1:=by rw[IntKind.wrap_i64];omega
  have hw2:IntKind.i64.wrap (hf:Int)=(hf:Int):=by rw[IntKind.wrap_i64];omega
  have hcl:∀w',Below w.heap.size w w'→Calls Tryz.prog 111 #[.pointer (some ⟨p,0,none⟩)] w' fun r w''=>r=.returned (.int .i64 (mo:Int))∧∃m,w''=w'.drewN m:=fun w' hb=>by rw[hmo];exact TE w' p g N q (H.out.below hb)
  have hct:∀w',Below w.heap.size w w'→Calls Tryz.prog 110 #[.pointer (some ⟨p2,2,none⟩),.int .i64 (k:Int)] w' fun r w''=>∃bq e',r=.returned (.slice (some ⟨bq,0,none⟩) k k)∧w'.heap.size≤bq∧zN w'' (some ⟨bq,0,none⟩) k (x::t.take (k-1)) ∧
    zZ w'' p2 2 g2 N2 e' ((x::t).drop k)∧xu p2 2 g2 w' w'':=fun w' hb=>by
   have:=UX w' p2 2 g2 N2 e2 (x::t) (k:Int) (R2.out.below hb)
   rw[hT,e1] at this;exact this
  have hlen:Calls Tryz.prog 108 #[.pointer (some ⟨p2,2,none⟩)] w fun r w'=>r=.returned (.int .i64 (n:Int))∧w'=w:=by rw[hn];exact Wz _ _ _ _ _ _ _ R2.out
  have hnp:(0:Int)<(n:Int):=by omega
  have hlq:q.l.length+(t.take (k-1)).length≤N:=by rw[List.length_take];have:=hll.1;omega
  have hkt:k=(t.take (k-1)).length+1:=by rw[List.length_take];omega
  have HCL:=Qq hcl;have HCT:=Qq hct;have HLEN:=Qq hlen;have HLQ:=Qq hlq;have HKT:=Qq hkt;have hlt:=H.out.lt;have hlt2:=H2.out.lt;have HLT:Hid (p<w.heap.size∧g<w.heap.size):=Qq hlt
  generalize hD:(x::t).drop k=D at *
  generalize hE:t.take (k-1)=E at *
  clear hcl hct hlen hlq hkt e1 hT hk1 hnt hn hmo hhf hk h hll hll2 hlt hlt2 d1 d2 d3 d4 R2 hD hE;rcases hcase with⟨hle,rfl⟩|⟨hle,rfl⟩
  all_goals
   go_enter Tryz.func96,Tryz.ntmps96
   go_wp2_with fail;refine HLEN.out.mono ?_
   rintro r w1 ⟨rfl,rfl⟩;go_wp2_with fail;go_region_with (first
    | (go_at_call 111;refine(HCL.out w1.drew (zg w1)).mono ?_;rintro r w2 ⟨rfl,mq,rfl⟩)
    | (go_at_call 110;(first|(with_reducible refine(HCT.out (w1.drew.drewN mq) (below_drewN (zg _) _)).mono ?_)|(with_reducible refine(HCT.out (w1.drewN (mq+1)) (below_drewN (Below.refl _ _) _)).mono ?_)|(with_reducible refine(HCT.out (w1.drewN (1+mq)) (below_drewN (Below.refl _ _) _)).mono ?_));rintro r w3 ⟨bq,eq,rfl,k3,k4,k5,k6⟩)
    | (go_at_call 109;refine(Tr w3 p g N q _ _ _ x E ((H.out.below (by first|exact below_drewN (zg _) mq|exact below_drewN (Below.refl _ _) _)).yE k6.yE (by have:=HD.out;simp;omega) (by have:=HD.out;simp;omega)) k4 HKT.out (fun y hy=>by simp[zY] at hy;have:=HLT.out;simp at k3;omega) HLQ.out).mono ?_;simp only[Zc,Option.getD_some,Option.isSome_some];rintro r w4 ⟨rfl,k7,k8⟩))
   all_goals
    have b1:Below w1.heap.size w1 (w1.drewN (1+mq)):=below_drewN (Below.refl _ _) _
    have L2:=((H2.out.below b1).ring k5 k6).yE k8 (by have:=HD.out;simp;omega) (by have:=HD.out;simp;omega)
    have C4:zK [p,g,p2,g2] w1 w4:=(((zK.zO (F:=[p,g,p2,g2]) b1).trans k6.yE (fun y hy=>by simp at hy;simp;omega))).trans k8 (fun y hy=>by simp at hy;simp;omega)
    have HL2:=Qq L2;have HC4:=Qq C4;have HK7:=Qq k7;clear b1 L2 C4 k3 k4 k5 k6 k7 k8;go_wp2;go_ret2
    exact⟨rfl,HK7.out,HL2.out,HC4.out⟩
theorem OJ (w:World)(b:Gp)(gl:List Int)(F:List Nat)(h:xj w b gl F)(hl:gl.length≤1000000) :
  Calls Tryz.prog 42 #[.pointer (some ⟨b.b,14,none⟩)] w fun r w'=>∃a' c',r=.returned (.slice a' gl.length c')∧zN w' a' c' gl∧(∀x∈zY a',w.heap.size≤x)∧Below w.heap.size w w':=by
 obtain⟨a0,cap,rfl,h2,h3,h4⟩:=h;obtain⟨g0,f0⟩:=h3 14 _ rfl;have hc:=UT w a0 gl.length cap gl h4.ints rfl hl (fun e=>by
  rcases h4.2.2 with⟨_,h⟩|⟨_,_,h,_⟩
  ·exact h
  ·rw[e] at h;cases h)
 have HC:=Qq hc;clear hc h2 h3 h4 f0;go_enter Tryz.func42,Tryz.ntmps42
 go_wp2_with fail;refine HC.out.mono ?_
 rintro r w1 ⟨a',c',rfl,k⟩;have K:=Qq k;clear k
 go_wp2;go_ret;exact⟨a',c',rfl,K.out⟩
theorem Tn (w:World)(b:Gp)(gl:List Int)(F:List Nat)(k:Int)(h:xj w b gl F)(hl:gl.length≤1000000) :
  Calls Tryz.prog 106 #[.pointer (some ⟨b.b,14,none⟩),.int .i64 k] w fun r w'=>∃a' c',r=.returned (.slice a' (xo k gl.length) c')∧zN w' a' c' (gl.take (xo k gl.length))∧(∀x∈zY a',w.heap.size≤x) ∧
   xj w' b (gl.drop (xo k gl.length)) F∧zK F w w':=by
 have hFlt:=h.lt;obtain⟨a0,cap,rfl,h2,h3,h4⟩:=h;obtain⟨K,hK⟩:∃K,K=xo k gl.length:=⟨_,rfl⟩
 have hKl:=RP k gl.length;have hV:(K=0∧k<0)∨(K=0∧k=0)∨(k=(K:Int)∧0<K∧K<gl.length)∨(K=gl.length∧0<gl.length∧k=(gl.length:Int))∨(K=gl.length∧0<gl.length∧(gl.length:Int)<k)∨(K=0∧gl.length=0∧0<k):=by rw[hK];unfold xo;omega
 rw[←hK] at hKl ⊢;obtain⟨a1,hs1,hr1,hk1⟩:=Wh YU Wu h4 K hKl;have hcap:=h4.1;have hs0:∀w',(Instr.slice 23 (.slice a0 gl.length cap) none (some (.int .i64 (K:Int))) none).run Tryz.prog w'=.ok (.slice a0 K cap) w':=fun w'=>xX w' YU Wu a0 gl.length cap K (by omega)
 have hc:=UT w a0 K cap (gl.take K) (h4.take K).ints (by rw[List.length_take];omega) (by omega) (fun e=>by
  rcases h4.2.2 with⟨_,h⟩|⟨_,_,h,_⟩
  ·exact h
  ·rw[e] at h;cases h)
 have HC:=Qq hc;have H2:=Qq h2;have H3:=Qq h3;have HR1:=Qq hr1;have HK1:=Qq hk1;have HF:=Qq hFlt;obtain⟨g0,f0⟩:=h3 14 _ rfl;have hld:(gl.drop K).length=gl.length-K:=List.length_drop
 have HLD:=Qq hld;clear hc h2 h3 h4 hr1 hk1 hK hcap hld hFlt;obtain⟨n,hn⟩:∃n,n=gl.length:=⟨_,rfl⟩
 rw[←hn] at hV hs1 hs0 g0 hKl hl HLD;have HN:=Qq hn;clear hn
 go_enter Tryz.func106,Tryz.ntmps106
 go_upto_region 1 with fail
 go_cut [1] (fun s1 wx=>s1=.int .i64 (K:Int)∧Hid (wx=w))
 case first =>
  clear hs0 hs1;rcases hV with⟨rfl,hz⟩|⟨rfl,rfl⟩|⟨rfl,hz,hz'⟩|⟨rfl,hz,rfl⟩|⟨rfl,hz,hz'⟩|⟨rfl,rfl,hz⟩
  all_goals
   go_wp2_with fail;go_meet;exact⟨rfl,rfl⟩
 obtain⟨rfl,hr⟩:=hcut;obtain rfl:w=wc:=hr.out.symm
 clear hV hr;go_wp2_with fail;refine HC.out.mono ?_
 rintro r w1 ⟨a',c',rfl,k1,k2,b1⟩;have B1:=(H3.out).below b1
 obtain⟨g1,f1⟩:=B1 14 _ rfl;have hlt:=HF.out;have cs:zK [b.b] w1 (w1.setCell ⟨b.b,14,none⟩ (.slice a1 (n-K) (cap-K))):=(zK.refl _ _).setCell _ (.inl (by simp))
 have hfin:zN (w1.setCell ⟨b.b,14,none⟩ (.slice a1 (n-K) (cap-K))) a' c' (gl.take K)∧(∀x∈zY a',w.heap.size≤x)∧xj (w1.setCell ⟨b.b,14,none⟩ (.slice a1 (n-K) (cap-K))) b (gl.drop K) (b.b::zY a0)∧zK (b.b::zY a0) w (w1.setCell ⟨b.b,14,none⟩ (.slice a1 (n-K) (cap-K))):=by
  refine⟨k1.yE cs (fun x hx=>by have:=k2 x hx;have:=hlt b.b (by simp);simp;omega),k2,⟨a1,cap-K,by rw[HK1.out],by rw[HK1.out];exact H2.out,?_,(HR1.out.below b1).yE cs (fun x hx=>by rw[HK1.out] at hx;simp;intro e;subst e;exact H2.out hx)⟩,(zK.zO b1).trans cs (fun x hx=>.inl (by simp at hx;simp[hx]))⟩
  rw[HLD.out];exact B1.set 14 _
 have HFIN:=Qq hfin;have hcell:w1.cell? ⟨b.b,14,none⟩=some (.slice a0 n cap):=by rw[HN.out];exact g1
 clear hfin B1 g1 cs k1 k2 b1 hlt;go_wp2;go_ret;exact⟨a',c',rfl,HFIN.out⟩
def YS (N:Nat)(q:LQ)(gl:List Int)(k:Int):Nat:=min (if 0<k then 1+gl.length / k.toNat else 1) (N-q.l.length+1)
def mFetch (N:Nat)(q:LQ)(gl:List Int)(k:Int):LQ×List Int×Option Int:=match gl with
 | []=>(q,[],none)
 | x::t=>(⟨q.nx,q.l++(gl.take (YS N q gl k)).tail⟩,gl.drop (YS N q gl k),some x)
theorem Pd (N:Nat)(q:LQ)(gl:List Int)(k:Int):1≤YS N q gl k:=by unfold YS;generalize gl.length / k.toNat=d;split<;>omega
theorem Pf (w:World)(p g N:Nat)(b:Gp)(q:LQ)(gl:List Int)(F:List Nat)(k:Int)(h:yu w p g N q)(hg:xj w b gl F)(hp:p∉F)(hgF:g∉F)(hl:gl.length≤1000000) :
  Calls Tryz.prog 107 #[.pointer (some ⟨p,0,none⟩),.pointer (some ⟨b.b,14,none⟩),.int .i64 k] w fun r w'=>r=.returned (Zc (mFetch N q gl k).2.2)∧yu w' p g N (mFetch N q gl k).1 ∧
   zK (p::g::F) w w'∧xj w' b (mFetch N q gl k).2.1 F:=by
 obtain⟨S,hS⟩:∃S,S=if 0<k then 1+gl.length / k.toNat else 1:=⟨_,rfl⟩
 obtain⟨M,hM⟩:∃M,M=N-q.l.length+1:=⟨_,rfl⟩
 obtain⟨m,hm⟩:∃m,m=min S M:=⟨_,rfl⟩
 have hms:YS N q gl k=m:=by unfold YS;rw[←hS,←hM,←hm]
 have hS1:1≤S:=by rw[hS];generalize gl.length / k.toNat=d;split<;>omega
 have hll:=h.ll;have hSb:S≤gl.length+1:=by
  rw[hS];split
  ·have:=Nat.div_le_self gl.length k.toNat;omega
  ·omega
 have hM2:M≤1025:=by omega
 have hcase:((S:Int)≤(M:Int)∧m=S)∨((M:Int)<(S:Int)∧m=M):=by omega
 have hm1:1≤m:=by omega
 obtain⟨T,hT⟩:∃T,T=xo (m:Int) gl.length:=⟨_,rfl⟩
 have hTl:T=min m gl.length:=by rw[hT];rfl
 have hpl:=h.lt;have hFl:=hg.lt;have cG:Calls Tryz.prog 126 #[.pointer (some ⟨b.b,14,none⟩)] w fun r w'=>r=.returned (.int .i64 (gl.length:Int))∧w'=w:=KM w b gl F hg
 have cM:Calls Tryz.prog 111 #[.pointer (some ⟨p,0,none⟩)] w fun r w'=>r=.returned (.int .i64 (M:Int))∧∃j,w'=w.drewN j:=by rw[hM];exact TE w p g N q h
 have cT:∀j,Calls Tryz.prog 106 #[.pointer (some ⟨b.b,14,none⟩),.int .i64 (m:Int)] (w.drewN j) fun r w'=>∃a' c',r=.returned (.slice a' T c')∧zN w' a' c' (gl.take T)∧(∀x∈zY a',w.heap.size≤x)∧xj w' b (gl.drop T) F∧zK F w w':=fun j=>by
  refine(Tn (w.drewN j) b gl F (m:Int) (hg.below (below_drewN (Below.refl _ _) j)) hl).mono ?_
  rw[←hT];rintro r w' ⟨a',c',e1,k1,k2,k3,k4⟩;exact⟨a',c',e1,k1,k2,k3,(zK.zO (below_drewN (Below.refl _ _) j)).trans k4 (fun x hx=>.inl hx)⟩
 have cO:∀w1 a' c',zN w1 a' c' (gl.take T)→(∀x∈zY a',w.heap.size≤x)→zK F w w1→Calls Tryz.prog 109 #[.pointer (some ⟨p,0,none⟩),.slice a' T c'] w1 fun r w'=>r=.returned (Zc (mFetch N q gl k).2.2)∧yu w' p g N (mFetch N q gl k).1∧zK [p,g] w1 w':=fun w1 a' c' k1 k2 k4=>by
  have hL1:=h.yE k4 hp hgF;cases gl with
  | nil =>
   obtain rfl:T=0:=by rw[hTl];simp
   exact(Qn w1 p a' c').mono (by rintro r w' ⟨rfl,rfl⟩;exact⟨rfl,hL1,zK.refl _ _⟩)
  | cons x t =>
   simp only[mFetch,hms];obtain⟨T',rfl⟩:∃T',T=T'+1:=⟨T-1,by simp at hTl;omega⟩
   have e:(x::t).take m=x::t.take T':=by
    obtain⟨m',rfl⟩:∃m',m=m'+1:=⟨m-1,by omega⟩
    rw[QX];congr 1
    simp at hTl
    rw[List.take_eq_take_iff];omega
   rw[e,List.tail_cons];rw[QX] at k1;refine Tr w1 p g N q a' (T'+1) c' x (t.take T') hL1 k1 (by rw[List.length_take];simp at hTl;omega) (fun y hy=>by have:=k2 y hy;omega) (by rw[List.length_take];omega)
 have hdrop:gl.drop T=(mFetch N q gl k).2.1:=by
  cases gl with
  | nil=>simp[mFetch]
  | cons x t =>
   simp only[mFetch,hms];by_cases e:m≤(x::t).length
   ·rw[show T=m by omega]
   ·rw[List.drop_of_length_le (by omega),List.drop_of_length_le (by omega)]
 have hfin:∀w1 w2,xj w1 b (gl.drop T) F→zK F w w1→zK [p,g] w1 w2→zK (p::g::F) w w2∧xj w2 b (mFetch N q gl k).2.1 F:=fun w1 w2 k1 k2 k3=>by
  refine⟨(k2.mono (fun x hx=>by simp[hx])).trans k3 (fun x hx=>.inl (by simp at hx;simp;omega)),?_⟩
  rw[←hdrop];exact k1.yE k3 (fun x hx hc=>by simp at hc;rcases hc with rfl|rfl;exact hp hx;exact hgF hx)
 generalize (mFetch N q gl k).2.2=V at *
 generalize (mFetch N q gl k).2.1=GL at *
 generalize (mFetch N q gl k).1=Q at *
 have CG:=Qq cG;have CM:=Qq cM;have CT:=Qq cT;have CO:=Qq cO;have HFIN:=Qq hfin;clear cG cM cT cO hfin hdrop hTl hT hms hll hpl hFl hm1 h hg hp hgF hm hM;obtain⟨n,hn⟩:∃n,n=gl.length:=⟨_,rfl⟩
 have hk:(0<k∧∃d:Nat,(n:Int).tdiv k=(d:Int)∧S=1+d∧d≤n)∨(¬0<k∧S=1):=by
  rw[←hn] at hS;by_cases h0:0<k
  ·left
   rw[if_pos h0] at hS;obtain⟨kk,rfl⟩:=Int.eq_ofNat_of_zero_le (show 0≤k by omega)
   exact⟨h0,n / kk,by rw[Int.tdiv_eq_ediv_of_nonneg (by omega)];rfl,hS,Nat.div_le_self _ _⟩
  ·exact .inr ⟨h0,by rw[if_neg h0] at hS;exact hS⟩
 rw[←hn] at CG hl hSb;clear hS hn;have HCA:Hid (((S:Int)≤(M:Int)∧m=S)∨((M:Int)<(S:Int)∧m=M)):=hcase
 clear hcase;rcases hk with⟨hk0,d,hd,rfl,hdn⟩|⟨hk0,rfl⟩
 ·have hw1:IntKind.i64.wrap (d:Int)=(d:Int):=by rw[IntKind.wrap_i64];omega
  have hb0:(k==0)=false:=by rw[beq_eq_false_iff_ne];omega
  go_enter Tryz.func107,Tryz.ntmps107
  go_wp2_with fail;refine CG.out.mono ?_
  rintro r w1 ⟨rfl,rfl⟩;go_wp2_with fail;refine CM.out.mono ?_
  rintro r w2 ⟨rfl,mq,rfl⟩;rcases HCA.out with⟨hle,rfl⟩|⟨hle,rfl⟩
  all_goals
   have CT':=Qq (CT.out mq)
   try rw[show((1+d:Nat):Int)=1+(d:Int) by omega] at CT'
   go_wp2_with fail;refine CT'.out.mono ?_
   rintro r w3 ⟨a',c',rfl,k1,k2,k3,k4⟩;have c5:=CO.out _ _ _ k1 k2 k4;simp only[Zc] at c5 ⊢
   have C5:=Qq c5;have K3:=Qq k3;have K4:=Qq k4;clear k1 k2 k3 k4 c5;go_wp2_with fail;refine C5.out.mono ?_
   rintro r w4 ⟨rfl,k5,k6⟩;have K5:=Qq k5;have K6:=Qq (HFIN.out _ _ K3.out K4.out k6)
   clear k5 k6;go_wp2;go_ret2
   exact⟨rfl,K5.out,K6.out⟩
 ·go_enter Tryz.func107,Tryz.ntmps107
  go_wp2_with fail;refine CM.out.mono ?_
  rintro r w2 ⟨rfl,mq,rfl⟩;rcases HCA.out with⟨hle,rfl⟩|⟨hle,rfl⟩
  all_goals
   have CT':=Qq (CT.out mq)
   try rw[show((1:Nat):Int)=1 by rfl] at CT'
   go_wp2_with fail;refine CT'.out.mono ?_
   rintro r w3 ⟨a',c',rfl,k1,k2,k3,k4⟩;have c5:=CO.out _ _ _ k1 k2 k4;simp only[Zc] at c5 ⊢
   have C5:=Qq c5;have K3:=Qq k3;have K4:=Qq k4;clear k1 k2 k3 k4 c5;go_wp2_with fail;refine C5.out.mono ?_
   rintro r w4 ⟨rfl,k5,k6⟩;have K5:=Qq k5;have K6:=Qq (HFIN.out _ _ K3.out K4.out k6)
   clear k5 k6;go_wp2;go_ret2
   exact⟨rfl,K5.out,K6.out⟩
section
variable {P:Program} {ops:Array Oper} {Q:Exit→Act→World→Prop} {S:World→Prop}
def xq (P:Program)(ops:Array Oper)(S:World→Prop)(K:Act→Prop):List Oper→Act→Prop
 | [],a=>K a
 | o::l,a=>(Region.wanted o (yielded ops a.tmps)=true∧∃v,(∀w,S w→(execOp a.eval o).run P w=.ok (.value v) w)∧xq P ops S K l (a.put o.dst v)) ∨
  (Region.wanted o (yielded ops a.tmps)=false∧xq P ops S K l (a.put o.dst undef))
theorem zb {K:Act→Prop}{a:Act}(h:K a):xq P ops S K [] a:=h
theorem VV {K:Act→Prop}{a:Act}{o:Oper}{l:List Oper}(hw:Region.wanted o (yielded ops a.tmps)=true)(h:∃v,(∀w,S w→(execOp a.eval o).run P w=.ok (.value v) w)∧xq P ops S K l (a.put o.dst v)):xq P ops S K (o::l) a:=.inl ⟨hw,h⟩
theorem Mg {K:Act→Prop}{a:Act}{o:Oper}{l:List Oper}(hw:Region.wanted o (yielded ops a.tmps)=false)(h:xq P ops S K l (a.put o.dst undef)):xq P ops S K (o::l) a:=.inr ⟨hw,h⟩
theorem Qx {K:Act→Prop}{a:Act}{o:Oper}{l:List Oper}(hw:Region.wanted o (yielded ops a.tmps)=false:=by rfl)(h:xq P ops S K l (a.put o.dst undef)):xq P ops S K (o::l) a:=Mg hw h
theorem Qv {K:Act→Prop}{a:Act}{o:Oper}{l:List Oper}{v:Value}(hw:Region.wanted o (yielded ops a.tmps)=true:=by rfl)(hv:∀w,S w→(execOp a.eval o).run P w=.ok (.value v) w:=by intro wx hS;(try dsimp only at hS);go_simp;first|done|with_reducible rfl)(h:xq P ops S K l (a.put o.dst v)):xq P ops S K (o::l) a:=VV hw ⟨v,hv,h⟩
theorem Qw {K:Act→Prop}{a:Act}{o:Oper}{l:List Oper}{v:Value}(hw:Region.wanted o (yielded ops a.tmps)=true:=by rfl)(hv:∀w,S w→(execOp a.eval o).run P w=.ok (.value v) w:=by rintro wx ⟨nq,rfl⟩;go_simp;first|done|with_reducible rfl)(h:xq P ops S K l (a.put o.dst v)):xq P ops S K (o::l) a:=VV hw ⟨v,hv,h⟩
def segB (ops:Array Oper):Nat→Nat→Array Bool→Bool
 | 0,_,_=>true
 | f+1,k,listed=>(Region.ready .any ops listed).contains k&&Region.free .any ops listed k&&segB ops f (k+1) (listed.setIfInBounds k true)
def marks:Nat→Nat→Array Bool→Array Bool
 | 0,_,listed=>listed
 | f+1,k,listed=>marks f (k+1) (listed.setIfInBounds k true)
theorem Xo (hs:Region.noSelect ops=true)(hQ:∀(d:Option Tmp) (v:Value) c a w,Q (.panic c) (a.put d v) w→Q (.panic c) a w)(fuel:Nat)(w:World)(hS:S w) :
  ∀(l:List Oper) (k:Nat) (listed:Array Bool) (a:Act),(∀j,j<l.length→l[j]?=ops[k+j]?)→segB ops l.length k listed=true →
   xq P ops S (fun a'=>wpAnyH P .any ops Q S fuel (marks l.length k listed) a' w) l a→wpAnyH P .any ops Q S (l.length+fuel) listed a w
 | [],k,listed,a,_,_,h=>by rw[List.length_nil,Nat.zero_add];exact h
 | o::l,k,listed,a,hl,hB,h=>by
  have h0:ops[k]?=some o:=by simpa using (hl 0 (by simp)).symm
  simp only[List.length_cons,segB,Bool.and_eq_true] at hB;obtain⟨⟨hr,hf⟩,hB⟩:=hB;have hl':∀j,j<l.length→l[j]?=ops[k+1+j]?:=fun j hj=>by have:=hl (j+1) (by simp;omega);simpa [Nat.add_assoc,Nat.add_comm 1 j] using this
  rw[List.length_cons,show l.length+1+fuel=(l.length+fuel)+1 by omega]
  rcases h with⟨hw,v,hv,h⟩|⟨hw,h⟩
  ·exact wpAnyH_take h0 hs hf hr (fun c a w=>hQ o.dst v c a w) (.inl ⟨hw,hv⟩) hS (Xo hs hQ fuel w hS l (k+1) _ _ hl' hB h)
  ·exact wpAnyH_take h0 hs hf hr (fun c a w=>hQ o.dst undef c a w) (.inr ⟨hw,rfl⟩) hS (Xo hs hQ fuel w hS l (k+1) _ _ hl' hB h)
theorem zm {l:List Oper}(k n:Nat)(listed listed':Array Bool)(fuel:Nat){a:Act}{w:World}(hs:Region.noSelect l.toArray=true)(hQ:∀(d:Option Tmp) (v:Value) c a w,Q (.panic c) (a.put d v) w→Q (.panic c) a w)(hS:S w)
  (hB:(segB l.toArray n k listed&&decide (k+n≤l.length)&&(marks n k listed==listed'))=true) (h:xq P l.toArray S (fun a'=>wpAnyH P .any l.toArray Q S fuel listed' a' w) ((l.drop k).take n) a):wpAnyH P .any l.toArray Q S (n+fuel) listed a w:=by
 simp only[Bool.and_eq_true,decide_eq_true_eq,beq_iff_eq] at hB;obtain⟨⟨hB,hn⟩,rfl⟩:=hB;have hln:((l.drop k).take n).length=n:=by rw[List.length_take,List.length_drop];omega
 have:=Xo (P:=P) (Q:=Q) (S:=S) hs hQ fuel w hS ((l.drop k).take n) k listed a (fun j hj=>by
  rw[hln] at hj;rw[List.getElem?_take,if_pos hj,List.getElem?_drop];simp) (by rw[hln];exact hB) (by rw[hln];exact h)
 rwa [hln] at this
def xR (P:Program)(ops:Array Oper)(Q:Exit→Act→World→Prop)(K:Act→World→Prop)(a:Act)(w:World):List Oper→Prop
 | []=>False
 | o::_=>Region.wanted o (yielded ops a.tmps)=true∧o.wp P a w K Q
theorem zc {K:Act→World→Prop}{a:Act}{w:World}{o:Oper}{l:List Oper}(hw:Region.wanted o (yielded ops a.tmps)=true)(h:o.wp P a w K Q):xR P ops Q K a w (o::l):=⟨hw,h⟩
theorem zh {l:List Oper}(k:Nat)(listed listed':Array Bool)(fuel:Nat){a:Act}{w:World}(hB:(decide (Region.ready .any l.toArray listed=[k])&&(listed.setIfInBounds k true==listed'))=true)
  (h:∀K:Act→World→Prop,(∀a' w',S w'→wpAnyH P .any l.toArray Q S fuel listed' a' w'→K a' w')→xR P l.toArray Q K a w (l.drop k)):wpAnyH P .any l.toArray Q S (fuel+1) listed a w:=by
 simp only[Bool.and_eq_true,decide_eq_true_eq,beq_iff_eq] at hB;obtain⟨hr,rfl⟩:=hB;refine wpAnyH_all hr (by simp) (fun i hi=>?_)
 have hik:i=k:=by simpa using hi
 subst hik;have h1:=h (fun a' w'=>S w'∧wpAnyH P .any l.toArray Q S fuel (listed.setIfInBounds i true) a' w') (fun a' w' h2 h3=>⟨h2,h3⟩)
 cases hd:l.drop i with
 | nil=>rw[hd] at h1;exact h1.elim
 | cons o r =>
  rw[hd] at h1;have h0:l.toArray[i]?=some o:=by
   have:(l.drop i)[0]?=some o:=by rw[hd];rfl
   rw[List.getElem?_drop] at this
   simpa using this
  unfold wpOp;simp only[h0];rw[if_pos h1.1];exact .inl h1.2
theorem zV {id:Nat}{a:Act}{w:World}{l:List Oper}(S:World→Prop)(fuel:Nat)(listed:Array Bool)(hm:P.follows .mixedOrders=true)(hB:(decide (l.length=fuel)&&(Array.replicate l.length false==listed))=true)
  (h:wpAnyH P .any l.toArray (NoPanic Q) S fuel listed a w.drew):(Code.region id l.toArray true).wp P Q a w:=by
 simp only[Bool.and_eq_true,decide_eq_true_eq,beq_iff_eq] at hB;obtain⟨rfl,rfl⟩:=hB;exact wp_region_noPanic (wp_region_held hm (by simpa using h))
theorem za (d:Option Tmp)(v:Value)(c:_)(a:Act)(w:World):NoPanic Q (.panic c) (a.put d v) w→NoPanic Q (.panic c) a w:=fun h=>h
end
end Go.Proofs.YtlkjheheofgdgaaGreat
open Go Go.RowKit
namespace Go.Proofs.YtlkjheheofgdgaaGreat
section
variable {P:Program} {Q:Exit→Act→World→Prop} {S:World→Prop}
theorem yz {l:List Oper}(k k':Nat)(listed listed' listed'':Array Bool)(fuel:Nat){a:Act}{w:World}(hB:(decide (Region.ready .any l.toArray listed=[k,k'])&&(listed.setIfInBounds k true==listed')&&(listed.setIfInBounds k' true==listed''))=true)
  (h1:∀K:Act→World→Prop,(∀a' w',S w'→wpAnyH P .any l.toArray Q S fuel listed' a' w'→K a' w')→xR P l.toArray Q K a w (l.drop k))
  (h2:∀K:Act→World→Prop,(∀a' w',S w'→wpAnyH P .any l.toArray Q S fuel listed'' a' w'→K a' w')→xR P l.toArray Q K a w (l.drop k')):wpAnyH P .any l.toArray Q S (fuel+1) listed a w:=by
 simp only[Bool.and_eq_true,decide_eq_true_eq,beq_iff_eq] at hB;obtain⟨⟨hr,rfl⟩,rfl⟩:=hB;refine wpAnyH_all hr (by simp) (fun i hi=>?_)
 have h:∀K:Act→World→Prop,(∀a' w',S w'→wpAnyH P .any l.toArray Q S fuel (listed.setIfInBounds i true) a' w'→K a' w')→xR P l.toArray Q K a w (l.drop i):=by
  have hik:i=k∨i=k':=by simpa using hi
  rcases hik with rfl|rfl
  ·exact h1
  ·exact h2
 have h1:=h (fun a' w'=>S w'∧wpAnyH P .any l.toArray Q S fuel (listed.setIfInBounds i true) a' w') (fun a' w' h2 h3=>⟨h2,h3⟩)
 cases hd:l.drop i with
 | nil=>rw[hd] at h1;exact h1.elim
 | cons o r =>
  rw[hd] at h1;have h0:l.toArray[i]?=some o:=by
   have:(l.drop i)[0]?=some o:=by rw[hd];rfl
   rw[List.getElem?_drop] at this
   simpa using this
  unfold wpOp;simp only[h0];rw[if_pos h1.1];exact .inl h1.2
end
end Go.Proofs.YtlkjheheofgdgaaGreat
open Go Go.RowKit
namespace Go.Proofs.YtlkjheheofgdgaaGreat
section
variable {P:Program} {ops:Array Oper} {Q:Exit→Act→World→Prop} {S:World→Prop} {md:Region.Mode}
def XG (md:Region.Mode)(ops:Array Oper)(K i:Nat):Bool:=(List.range ops.size).all fun j=>decide (j<K)||(match ops[j]? with
 | some o=>o.after.any fun e=>Region.binds md e&&e.on==i
 | none=>false)
def x9 (P:Program)(md:Region.Mode)(ops:Array Oper)(Q:Exit→Act→World→Prop)(S:World→Prop)(K:Nat):Nat→Array Bool→Act→World→Prop
 | 0,listed,a,w=>Region.ready md ops listed=[]∧Q .normal a w
 | fuel+1,listed,a,w =>
  (Region.ready md ops listed=[]→Q .normal a w) ∧
  ∀i∈Region.ready md ops listed,wpOp P ops Q i (fun a' w'=>(K≤i∨(S w→S w'))∧x9 P md ops Q S K fuel (listed.setIfInBounds i true) a' w') a w
theorem VO {K:Nat}:∀(fuel:Nat) (listed:Array Bool) (a:Act) (w:World),x9 P md ops Q S K fuel listed a w→wpAny P md ops Q fuel listed a w
 | 0,_,_,_,h=>h
 | fuel+1,_,_,_,h=>⟨h.1,fun i hi=>wpOp_mono (fun a' w' h'=>VO fuel _ a' w' h'.2) (h.2 i hi)⟩
theorem Pr {K i j:Nat}{listed:Array Bool}(hj:j∈Region.ready md ops listed)(hi:i∈Region.ready md ops listed)(hK:K≤j)(he:XG md ops K i=true):False:=by
 obtain⟨_,oj,hoj,hall⟩:=mem_ready.1 hj;have hjl:j<ops.size:=(Array.getElem?_eq_some_iff.1 hoj).1
 unfold XG at he;rw[List.all_eq_true] at he;have h1:=he j (List.mem_range.2 hjl)
 rw[hoj,Bool.or_eq_true] at h1;rcases h1 with h1|h1
 ·have:=of_decide_eq_true h1;omega
 ·obtain⟨e,he1,he2⟩:=Array.any_eq_true'.1 h1
  rw[Bool.and_eq_true] at he2;have h2:=hall e he1 he2.1;have h3:e.on=i:=by simpa using he2.2
  rw[h3] at h2;have h0:=(mem_ready.1 hi).1
  rcases Nat.lt_or_ge i listed.size with h'|h'
  ·simp[h'] at h0 h2;rw[h0] at h2;cases h2
  ·simp[Array.getElem?_eq_none h'] at h2
theorem YV {K i:Nat}{oi:Oper}{v:Value}{T:World→Prop}(hi:ops[i]?=some oi)(hsel:∀(j:Nat) (o:Oper) cs b,ops[j]?=some o→o.op≠.select cs b)
  (hQ:∀c a w,Q (.panic c) (a.put oi.dst v) w→Q (.panic c) a w) (hT:(T=S∧XG md ops K i=true)∨∀w,T w) :
  ∀(fuel:Nat) (listed:Array Bool) (a:Act) (w:World),
   (∀j oj,ops[j]?=some oj→j≠i→listed.getD j true=false→(∀e∈oj.after,Region.binds md e=true→e.on≠i)→oi.apart ops oj=true) →
   i∈Region.ready md ops listed→YieldsIf P ops T oi v a→T w →
   x9 P md ops Q S K fuel (listed.setIfInBounds i true) (a.put oi.dst v) w→x9 P md ops Q S K (fuel+1) listed a w
 | 0,listed,a,w,_,hr,hy,hS,H=>by
  refine⟨fun h=>(by rw[h] at hr;cases hr),fun j hj=>?_⟩
  by_cases hji:j=i
  ·subst hji;exact hy.wpOp hi hS ⟨.inr id,H⟩
  ·have:=ready_mono hj hji
   rw[H.1] at this;cases this
 | fuel+1,listed,a,w,hfree,hr,hy,hS,H=>by
  refine⟨fun h=>(by rw[h] at hr;cases hr),fun j hj=>?_⟩
  by_cases hji:j=i
  ·subst hji;exact hy.wpOp hi hS ⟨.inr id,H⟩
  ·have h1:=H.2 j (ready_mono hj hji)
   obtain⟨hjun,oj,hoj,hall⟩:=mem_ready.1 hj;have hnot:∀e∈oj.after,Region.binds md e=true→e.on≠i:=fun e he hb heq=>by
    have h2:=hall e he hb;have h0:=(mem_ready.1 hr).1
    rw[heq] at h2;rcases Nat.lt_or_ge i listed.size with h'|h'
    ·simp[h'] at h0 h2;rw[h0] at h2;cases h2
    ·simp[Array.getElem?_eq_none h'] at h2
   refine wpOp_mono (fun a' w' h3=>?_) (wpOp_putIf hoj (hfree j oj hoj hji hjun hnot) (fun cs b=>hsel i oi cs b hi) (fun cs b=>hsel j oj cs b hoj) hQ hy h1)
   have hS':T w':=by
    rcases hT with⟨rfl,hw⟩|hT
    ·rcases h3.2.1 with h4|h4
     ·exact(Pr hj hr h4 hw).elim
     ·exact h4 hS
    ·exact hT w'
   refine⟨h3.2.1,YV hi hsel hQ hT fuel (listed.setIfInBounds j true) a' w' (fun k ok hk hki hun hno=>hfree k ok hk hki ?_ hno) (ready_mono hr (Ne.symm hji)) h3.1 hS' ?_⟩
   ·by_cases hjk:j=k
    ·subst hjk;exact hjun
    ·rw[getD_set_ne true hjk] at hun;exact hun
   ·rw[Array.setIfInBounds_comm _ _ hji]
    exact h3.2.2
theorem Yl {K:Nat}{T:World→Prop}(hs:Region.noSelect ops=true)(hQ:∀(d:Option Tmp) (v:Value) c a w,Q (.panic c) (a.put d v) w→Q (.panic c) a w)(fuel:Nat)(w:World)(hS:T w) :
  ∀(l:List Oper) (k:Nat) (listed:Array Bool) (a:Act),(∀j,j<l.length→l[j]?=ops[k+j]?)→segB ops l.length k listed=true→(∀j,j<l.length→(T=S∧XG .any ops K (k+j)=true)∨∀w,T w) →
   xq P ops T (fun a'=>x9 P .any ops Q S K fuel (marks l.length k listed) a' w) l a→x9 P .any ops Q S K (l.length+fuel) listed a w
 | [],k,listed,a,_,_,_,h=>by rw[List.length_nil,Nat.zero_add];exact h
 | o::l,k,listed,a,hl,hB,hT,h=>by
  have h0:ops[k]?=some o:=by simpa using (hl 0 (by simp)).symm
  simp only[List.length_cons,segB,Bool.and_eq_true] at hB;obtain⟨⟨hr,hf⟩,hB⟩:=hB;have hl':∀j,j<l.length→l[j]?=ops[k+1+j]?:=fun j hj=>by have:=hl (j+1) (by simp;omega);simpa [Nat.add_assoc,Nat.add_comm 1 j] using this
  have hT':∀j,j<l.length→(T=S∧XG .any ops K (k+1+j)=true)∨∀w,T w:=fun j hj=>by have:=hT (j+1) (by simp;omega);rwa [show k+(j+1)=k+1+j by omega] at this
  rw[List.length_cons,show l.length+1+fuel=(l.length+fuel)+1 by omega]
  have hr':k∈Region.ready .any ops listed:=by simpa using hr
  have hT0:=hT 0 (by simp)
  rw[Nat.add_zero] at hT0;rcases h with⟨hw,v,hv,h⟩|⟨hw,h⟩
  ·exact YV h0 (Region.noSelect_spec hs) (fun c a w=>hQ o.dst v c a w) hT0 _ listed a w (Region.free_spec h0 hf) hr' (.inl ⟨hw,hv⟩) hS (Yl hs hQ fuel w hS l (k+1) _ _ hl' hB hT' h)
  ·exact YV h0 (Region.noSelect_spec hs) (fun c a w=>hQ o.dst undef c a w) hT0 _ listed a w (Region.free_spec h0 hf) hr' (.inr ⟨hw,rfl⟩) hS (Yl hs hQ fuel w hS l (k+1) _ _ hl' hB hT' h)
theorem yw {K:Nat}{l:List Oper}(k n:Nat)(listed listed':Array Bool)(fuel:Nat){a:Act}{w:World}(hs:Region.noSelect l.toArray=true)(hQ:∀(d:Option Tmp) (v:Value) c a w,Q (.panic c) (a.put d v) w→Q (.panic c) a w)(hS:S w)
  (hB:(segB l.toArray n k listed&&decide (k+n≤l.length)&&(marks n k listed==listed')&&(List.range n).all fun j=>XG .any l.toArray K (k+j))=true) (h:xq P l.toArray S (fun a'=>x9 P .any l.toArray Q S K fuel listed' a' w) ((l.drop k).take n) a):x9 P .any l.toArray Q S K (n+fuel) listed a w:=by
 simp only[Bool.and_eq_true,decide_eq_true_eq,beq_iff_eq] at hB;obtain⟨⟨⟨hB,hn⟩,rfl⟩,hw⟩:=hB;have hln:((l.drop k).take n).length=n:=by rw[List.length_take,List.length_drop];omega
 have:=Yl (P:=P) (Q:=Q) (S:=S) (K:=K) hs hQ fuel w hS ((l.drop k).take n) k listed a (fun j hj=>by
  rw[hln] at hj;rw[List.getElem?_take,if_pos hj,List.getElem?_drop];simp) (by rw[hln];exact hB) (fun j hj=>.inl ⟨rfl,List.all_eq_true.1 hw j (List.mem_range.2 (by rw[hln] at hj;exact hj))⟩) (by rw[hln];exact h)
 rwa [hln] at this
theorem xF {K:Nat}{l:List Oper}(k n:Nat)(listed listed':Array Bool)(fuel:Nat){a:Act}{w:World}(hs:Region.noSelect l.toArray=true)(hQ:∀(d:Option Tmp) (v:Value) c a w,Q (.panic c) (a.put d v) w→Q (.panic c) a w)
  (hB:(segB l.toArray n k listed&&decide (k+n≤l.length)&&(marks n k listed==listed'))=true) (h:xq P l.toArray (fun _=>True) (fun a'=>x9 P .any l.toArray Q S K fuel listed' a' w) ((l.drop k).take n) a):x9 P .any l.toArray Q S K (n+fuel) listed a w:=by
 simp only[Bool.and_eq_true,decide_eq_true_eq,beq_iff_eq] at hB;obtain⟨⟨hB,hn⟩,rfl⟩:=hB;have hln:((l.drop k).take n).length=n:=by rw[List.length_take,List.length_drop];omega
 have:=Yl (P:=P) (Q:=Q) (S:=S) (K:=K) (T:=fun _=>True) hs hQ fuel w trivial ((l.drop k).take n) k listed a (fun j hj=>by
  rw[hln] at hj;rw[List.getElem?_take,if_pos hj,List.getElem?_drop];simp) (by rw[hln];exact hB) (fun j hj=>.inr fun _=>trivial) (by rw[hln];exact h)
 rwa [hln] at this
theorem Hb {l:List Oper}{i:Nat}{a:Act}{w:World}{K:Act→World→Prop}(h1:xR P l.toArray Q K a w (l.drop i)):wpOp P l.toArray Q i K a w:=by
 cases hd:l.drop i with
 | nil=>rw[hd] at h1;exact h1.elim
 | cons o r =>
  rw[hd] at h1;have h0:l.toArray[i]?=some o:=by
   have:(l.drop i)[0]?=some o:=by rw[hd];rfl
   rw[List.getElem?_drop] at this
   simpa using this
  unfold wpOp;simp only[h0];rw[if_pos h1.1];exact .inl h1.2
theorem yj {K0:Nat}{l:List Oper}(k:Nat)(listed listed':Array Bool)(fuel:Nat){a:Act}{w:World}(hB:(decide (Region.ready .any l.toArray listed=[k])&&(listed.setIfInBounds k true==listed'))=true)
  (h:∀K:Act→World→Prop,(∀a' w',S w'→x9 P .any l.toArray Q S K0 fuel listed' a' w'→K a' w')→xR P l.toArray Q K a w (l.drop k)):x9 P .any l.toArray Q S K0 (fuel+1) listed a w:=by
 simp only[Bool.and_eq_true,decide_eq_true_eq,beq_iff_eq] at hB;obtain⟨hr,rfl⟩:=hB;refine⟨fun h0=>(by rw[hr] at h0;cases h0),fun i hi=>?_⟩
 rw[hr] at hi;have hik:i=k:=by simpa using hi
 subst hik;exact Hb (h _ (fun a' w' h2 h3=>⟨.inr fun _=>h2,h3⟩))
theorem xE {K0:Nat}{l:List Oper}(k:Nat)(listed listed':Array Bool)(fuel:Nat){a:Act}{w:World}(hB:(decide (Region.ready .any l.toArray listed=[k])&&(listed.setIfInBounds k true==listed')&&decide (K0≤k))=true)
  (h:∀K:Act→World→Prop,(∀a' w',x9 P .any l.toArray Q S K0 fuel listed' a' w'→K a' w')→xR P l.toArray Q K a w (l.drop k)):x9 P .any l.toArray Q S K0 (fuel+1) listed a w:=by
 simp only[Bool.and_eq_true,decide_eq_true_eq,beq_iff_eq] at hB;obtain⟨⟨hr,rfl⟩,he⟩:=hB;refine⟨fun h0=>(by rw[hr] at h0;cases h0),fun i hi=>?_⟩
 rw[hr] at hi;have hik:i=k:=by simpa using hi
 subst hik;exact Hb (h _ (fun a' w' h3=>⟨.inl he,h3⟩))
theorem xG {K:Nat}{listed:Array Bool}{a:Act}{w:World}(hr:Region.ready md ops listed=[])(h:Q .normal a w):∀fuel,x9 P md ops Q S K fuel listed a w
 | 0=>⟨hr,h⟩
 | _+1=>⟨fun _=>h,by rw[hr];simp⟩
theorem xg {id:Nat}{a:Act}{w:World}{l:List Oper}(S:World→Prop)(K:Nat)(fuel:Nat)(listed:Array Bool)(hm:P.follows .mixedOrders=true)(hB:(decide (l.length=fuel)&&(Array.replicate l.length false==listed))=true)
  (h:x9 P .any l.toArray (NoPanic Q) S K fuel listed a w.drew):(Code.region id l.toArray true).wp P Q a w:=by
 simp only[Bool.and_eq_true,decide_eq_true_eq,beq_iff_eq] at hB;obtain⟨rfl,rfl⟩:=hB;exact wp_region_noPanic (wp_region_any hm (VO _ _ _ _ (by simpa using h)))
end
end Go.Proofs.YtlkjheheofgdgaaGreat
open Go Go.RowKit
namespace Go.Proofs.YtlkjheheofgdgaaGreat
structure zv where
 at_:World→List Nat→Prop
 lt:∀{w F},at_ w F→∀x∈F,x<w.heap.size
 yE:∀{w w' F G},at_ w F→zK G w w'→(∀x∈F,x∉G)→at_ w' F
def Sep (w:World):List zv→List Nat→Prop
 | [],F=>F=[]
 | A::As,F=>∃F1 F2,F=F1++F2∧A.at_ w F1∧(∀x∈F1,x∉F2)∧Sep w As F2
theorem Sep.lt {w:World}:∀{As:List zv} {F:List Nat},Sep w As F→∀x∈F,x<w.heap.size
 | [],F,h,x,hx=>by unfold Sep at h;subst h;simp at hx
 | A::As,F,h,x,hx=>by
  obtain⟨F1,F2,rfl,h1,h2,h3⟩:=h;rcases List.mem_append.1 hx with hx|hx
  ·exact A.lt h1 x hx
  ·exact h3.lt x hx
theorem Sep.yE {w w':World}{G:List Nat}(c:zK G w w'):∀{As:List zv} {F:List Nat},Sep w As F→(∀x∈F,x∉G)→Sep w' As F
 | [],F,h,_=>h
 | A::As,F,h,hd=>by
  obtain⟨F1,F2,rfl,h1,h2,h3⟩:=h;exact⟨F1,F2,rfl,A.yE h1 c (fun x hx=>hd x (by simp[hx])),h2,Sep.yE c h3 (fun x hx=>hd x (by simp[hx]))⟩
theorem Sep.perm {w:World}{As Bs:List zv}(hp:As.Perm Bs):∀{F:List Nat},Sep w As F→∃F',Sep w Bs F'∧∀x,x∈F'↔x∈F:=by
 induction hp with
 | nil=>exact fun h=>⟨_,h,fun _=>Iff.rfl⟩
 | cons A _ ih =>
  intro F h;obtain⟨F1,F2,rfl,h1,h2,h3⟩:=h;obtain⟨F',h4,h5⟩:=ih h3;exact⟨F1++F',⟨F1,F',rfl,h1,fun x hx hc=>h2 x hx ((h5 x).1 hc),h4⟩,fun x=>by simp[h5]⟩
 | swap A B l =>
  intro F h;obtain⟨F1,_,rfl,h1,h2,F2,F3,rfl,h3,h4,h5⟩:=h;exact⟨F2++(F1++F3),⟨F2,_,rfl,h3,fun x hx hc=>by
   rcases List.mem_append.1 hc with h|h
   ·exact h2 x h (by simp[hx])
   ·exact h4 x hx h,F1,F3,rfl,h1,fun x hx hc=>h2 x hx (by simp[hc]),h5⟩,fun x=>by simp;constructor<;>(intro h;rcases h with h|h|h<;>simp[h])⟩
 | trans _ _ i1 i2 =>
  intro F h;obtain⟨F1,h1,e1⟩:=i1 h;obtain⟨F2,h2,e2⟩:=i2 h1;exact⟨F2,h2,fun x=>(e2 x).trans (e1 x)⟩
theorem Sep.split {w:World}:∀{As Bs:List zv} {F:List Nat},Sep w (As++Bs) F→∃F1 F2,F=F1++F2∧Sep w As F1∧(∀x∈F1,x∉F2)∧Sep w Bs F2
 | [],Bs,F,h=>⟨[],F,rfl,rfl,fun x hx=>by simp at hx,h⟩
 | A::As,Bs,F,h=>by
  obtain⟨F1,F2,rfl,h1,h2,h3⟩:=h;obtain⟨F3,F4,rfl,h4,h5,h6⟩:=h3.split;exact⟨F1++F3,F4,by simp,⟨F1,F3,rfl,h1,fun x hx hc=>h2 x hx (by simp[hc]),h4⟩,fun x hx hc=>by
   rcases List.mem_append.1 hx with h|h
   ·exact h2 x h (by simp[hc])
   ·exact h5 x h hc,h6⟩
theorem Sep.app {w:World}:∀{As Bs:List zv} {F G:List Nat},Sep w As F→Sep w Bs G→(∀x∈F,x∉G)→Sep w (As++Bs) (F++G)
 | [],Bs,F,G,h,k,_=>by unfold Sep at h;subst h;exact k
 | A::As,Bs,F,G,h,k,d=>by
  obtain⟨F1,F2,rfl,h1,h2,h3⟩:=h;exact⟨F1,F2++G,by simp,h1,fun x hx hc=>by
   rcases List.mem_append.1 hc with h|h
   ·exact h2 x hx h
   ·exact d x (by simp[hx]) h,h3.app k (fun x hx=>d x (by simp[hx]))⟩
def Own (w0 w:World)(As:List zv):Prop:=Below w0.heap.size w0 w∧∃F,Sep w As F∧∀x∈F,w0.heap.size≤x
theorem Own.bel {w0 w:World}{As:List zv}(h:Own w0 w As):Below w0.heap.size w0 w:=h.1
theorem Own.nil {w0 w:World}(h:Below w0.heap.size w0 w):Own w0 w []:=⟨h,[],rfl,fun x hx=>by simp at hx⟩
theorem Own.perm {w0 w:World}{As Bs:List zv}(h:Own w0 w As)(hp:As.Perm Bs):Own w0 w Bs:=by
 obtain⟨h1,F,h2,h3⟩:=h;obtain⟨F',h4,h5⟩:=h2.perm hp;exact⟨h1,F',h4,fun x hx=>h3 x ((h5 x).1 hx)⟩
theorem Own.drop {w0 w:World}{A:zv}{As:List zv}(h:Own w0 w (A::As)):Own w0 w As:=by
 obtain⟨h1,F,⟨F1,F2,rfl,h2,h3,h4⟩,h5⟩:=h;exact⟨h1,F2,h4,fun x hx=>h5 x (by simp[hx])⟩
theorem Own.Zj {w0 w:World}{As Bs:List zv}(h:Own w0 w (As++Bs)):Own w0 w Bs:=by
 induction As with
 | nil=>exact h
 | cons A As ih=>exact ih h.drop
theorem Own.head {w0 w:World}{A:zv}{As:List zv}(h:Own w0 w (A::As)):∃F,A.at_ w F∧∀x∈F,w0.heap.size≤x:=by
 obtain⟨h1,F,⟨F1,F2,rfl,h2,h3,h4⟩,h5⟩:=h;exact⟨F1,h2,fun x hx=>h5 x (by simp[hx])⟩
theorem Own.step {w0 w w':World}{As:List zv}(h:Own w0 w As)(hb:Below w.heap.size w w'):Own w0 w' As:=by
 obtain⟨h1,F,h2,h3⟩:=h;exact⟨zB h1 hb,F,h2.yE (zK.zO (F:=[]) hb) (fun _ _=>by simp),h3⟩
theorem Own.add {w0 w w':World}{As:List zv}(h:Own w0 w As)(hb:Below w.heap.size w w'){A:zv}{F:List Nat}(hA:A.at_ w' F)(hF:∀x∈F,w.heap.size≤x):Own w0 w' (A::As):=by
 obtain⟨h1,F2,h2,h3⟩:=h;exact⟨zB h1 hb,F++F2,⟨F,F2,rfl,hA,fun x hx hc=>by have:=h2.lt x hc;have:=hF x hx;omega,h2.yE (zK.zO (F:=[]) hb) (fun _ _=>by simp)⟩,fun x hx=>by
  rcases List.mem_append.1 hx with h|h
  ·exact Nat.le_trans h1.size (hF x h)
  ·exact h3 x h⟩
theorem Own.SY {w0 w w':World}{As As' R:List zv}(h:Own w0 w (As++R))(hc:∀F,Sep w As F→∃F',Sep w' As' F'∧zK F w w'∧∀x∈F',x∈F∨w.heap.size≤x):Own w0 w' (As'++R):=by
 obtain⟨h1,F,h2,h3⟩:=h;obtain⟨F1,F2,rfl,h4,h5,h6⟩:=h2.split;obtain⟨F',k1,k2,k3⟩:=hc F1 h4;have hs:=h1.size;refine⟨zK.below h1 k2 (fun x hx=>h3 x (by simp[hx])),F'++F2,k1.app (h6.yE k2 (fun x hx hc=>h5 x hc hx)) (fun x hx hc=>?_),fun x hx=>?_⟩
 ·rcases k3 x hx with h|h
  ·exact h5 x h hc
  ·have:=h6.lt x hc;omega
 ·rcases List.mem_append.1 hx with h|h
  ·rcases k3 x h with h|h
   ·exact h3 x (by simp[h])
   ·omega
  ·exact h3 x (by simp[h])
theorem Own.call {w0 w:World}{As R:List zv}(h:Own w0 w (As++R)){P:Program}{f:FuncId}{args:Array Value}{post:Ending→List zv→Prop}
  (hc:∀F,Sep w As F→Calls P f args w fun r w'=>∃As',post r As'∧∃F',Sep w' As' F'∧zK F w w'∧∀x∈F',x∈F∨w.heap.size≤x) :
  Calls P f args w fun r w'=>∃As',post r As'∧Own w0 w' (As'++R):=by
 have h':=h;obtain⟨h1,F,h2,h3⟩:=h';obtain⟨F1,F2,rfl,h4,h5,h6⟩:=h2.split;have hs:=h1.size;refine(hc F1 h4).mono ?_
 rintro r w' ⟨As',hp,F',k1,k2,k3⟩;refine⟨As',hp,zK.below h1 k2 (fun x hx=>h3 x (by simp[hx])),F'++F2,k1.app (h6.yE k2 (fun x hx hc=>h5 x hc hx)) (fun x hx hc=>?_),fun x hx=>?_⟩
 ·rcases k3 x hx with h|h
  ·exact h5 x h hc
  ·have:=h6.lt x hc;omega
 ·rcases List.mem_append.1 hx with h|h
  ·rcases k3 x h with h|h
   ·exact h3 x (by simp[h])
   ·omega
  ·exact h3 x (by simp[h])
theorem xe {w:World}{A:zv}{F:List Nat}:Sep w [A] F↔A.at_ w F:=by
 constructor
 ·rintro⟨F1,F2,rfl,h1,h2,h3⟩
  unfold Sep at h3;subst h3;simpa using h1
 ·intro h;exact⟨F,[],by simp,h,fun _ _=>by simp,rfl⟩
theorem Own.PN {w0 w:World}{A A':zv}{R:List zv}(h:Own w0 w (A::R)){P:Program}{f:FuncId}{args:Array Value}{ret:Ending→Prop}
  (hc:∀F,A.at_ w F→Calls P f args w fun r w'=>ret r∧∃F',A'.at_ w' F'∧zK F w w'∧∀x∈F',x∈F∨w.heap.size≤x) :
  Calls P f args w fun r w'=>ret r∧Own w0 w' (A'::R):=by
 have:=Own.call (As:=[A]) (R:=R) h (P:=P) (f:=f) (args:=args) (post:=fun r l=>ret r∧l=[A']) (fun F hF=>(hc F (xe.1 hF)).mono (by
  rintro r w' ⟨h1,F',h2,h3,h4⟩;exact⟨[A'],⟨h1,rfl⟩,F',xe.2 h2,h3,h4⟩))
 refine this.mono ?_
 rintro r w' ⟨_,⟨h1,rfl⟩,h2⟩;exact⟨h1,h2⟩
theorem Own.call2 {w0 w:World}{A B A' B':zv}{R:List zv}(h:Own w0 w (A::B::R)){P:Program}{f:FuncId}{args:Array Value}{ret:Ending→Prop}
  (hc:∀F G,A.at_ w F→B.at_ w G→(∀x∈F,x∉G)→Calls P f args w fun r w'=>ret r∧∃F' G',A'.at_ w' F'∧B'.at_ w' G'∧(∀x∈F',x∉G')∧zK (F++G) w w'∧(∀x∈F',x∈F++G∨w.heap.size≤x)∧∀x∈G',x∈F++G∨w.heap.size≤x) :
  Calls P f args w fun r w'=>ret r∧Own w0 w' (A'::B'::R):=by
 have:=Own.call (As:=[A,B]) (R:=R) h (P:=P) (f:=f) (args:=args) (post:=fun r l=>ret r∧l=[A',B']) (fun F hF=>by
  obtain⟨F1,F2,rfl,h1,h2,h3⟩:=hF;refine(hc F1 F2 h1 (xe.1 h3) h2).mono ?_
  rintro r w' ⟨k1,F',G',k2,k3,k4,k5,k6,k7⟩;exact⟨[A',B'],⟨k1,rfl⟩,F'++G',⟨F',G',rfl,k2,k4,xe.2 k3⟩,k5,fun x hx=>by
   rcases List.mem_append.1 hx with h|h
   ·exact k6 x h
   ·exact k7 x h⟩)
 refine this.mono ?_
 rintro r w' ⟨_,⟨h1,rfl⟩,h2⟩;exact⟨h1,h2⟩
theorem xN {α:Type}:∀(l:List α) (i:Nat) (a:α),l[i]?=some a→l.Perm (a::l.eraseIdx i)
 | [],i,a,h=>by simp at h
 | x::l,0,a,h=>by simp at h;subst h;simp
 | x::l,i+1,a,h=>by
  simp only[List.getElem?_cons_succ] at h
  exact((xN l i a h).cons x).trans (.swap a x _)
theorem ZV {α:Type}:∀(l:List α) (i:Nat) (a:α),i<l.length→(a::l.eraseIdx i).Perm (l.set i a)
 | [],i,a,h=>by simp at h
 | x::l,0,a,h=>by simp
 | x::l,i+1,a,h=>by
  simp only[List.eraseIdx_cons_succ,QZ];exact(List.Perm.swap x a _).trans ((ZV l i a (by simpa using h)).cons x)
theorem Own.pick {w0 w:World}{As:List zv}(h:Own w0 w As)(i:Nat){A:zv}(hi:As[i]?=some A):Own w0 w (A::As.eraseIdx i):=h.perm (xN As i A hi)
theorem Own.back {w0 w:World}{As:List zv}{A:zv}{i:Nat}(h:Own w0 w (A::As.eraseIdx i))(hi:i<As.length):Own w0 w (As.set i A):=h.perm (ZV As i A hi)
theorem Own.fact {w0 w:World}{As:List zv}(h:Own w0 w As)(i:Nat){A:zv}(hi:As[i]?=some A):∃F,A.at_ w F∧∀x∈F,w0.heap.size≤x:=(h.pick i hi).head
theorem V3 {α:Type}(l:List α)(i k:Nat)(a b:α)(hi:l[i]?=some a)(hk:l[k]?=some b)(hne:i≠k):∃R,l.Perm (a::b::R)∧∀x y,(x::y::R).Perm ((l.set i x).set k y):=by
 have hil:=(List.getElem?_eq_some_iff.1 hi).1
 have hkl:=(List.getElem?_eq_some_iff.1 hk).1
 obtain⟨k',hk',hs⟩:∃k',(l.eraseIdx i)[k']?=some b∧∀y x,(x::(l.eraseIdx i).set k' y).Perm ((l.set i x).set k y):=by
  by_cases h:i<k
  ·refine⟨k-1,by rw[List.getElem?_eraseIdx_of_ge (by omega),show k-1+1=k by omega];exact hk,fun y x=>?_⟩
   have e:(l.eraseIdx i).set (k-1) y=(l.set k y).eraseIdx i:=by
    apply List.ext_getElem?
    intro j;simp only[List.getElem?_set,List.getElem?_eraseIdx,List.length_eraseIdx]
    split<;>split<;>(try split)<;>(try split)<;>(try split)<;>simp_all<;>omega
   rw[e,List.set_comm _ _ hne];exact ZV _ i x (by simpa using hil)
  ·refine⟨k,by rw[List.getElem?_eraseIdx_of_lt (by omega)];exact hk,fun y x=>?_⟩
   have e:(l.eraseIdx i).set k y=(l.set k y).eraseIdx i:=by
    apply List.ext_getElem?
    intro j;simp only[List.getElem?_set,List.getElem?_eraseIdx,List.length_eraseIdx]
    split<;>split<;>(try split)<;>(try split)<;>(try split)<;>simp_all<;>omega
   rw[e,List.set_comm _ _ hne];exact ZV _ i x (by simpa using hil)
 refine⟨(l.eraseIdx i).eraseIdx k',(xN l i a hi).trans ((xN _ k' b hk').cons a),fun x y=>?_⟩
 exact((ZV _ k' y (List.getElem?_eq_some_iff.1 hk').1).cons x).trans (hs y x)
def ze (b:Nat)(cs:List Value):zv where
 at_ w F:=F=[b]∧b<w.heap.size∧zH w b cs
 lt:=by rintro w F ⟨rfl,h1,h2⟩ x hx;simp at hx;subst hx;exact h1
 yE:=by
  rintro w w' F G ⟨rfl,h1,h2⟩ c hd
  exact⟨rfl,Nat.lt_of_lt_of_le h1 c.size,h2.yE c (hd b (by simp))⟩
def Y3 (a:Option Addr)(cap:Nat)(l:List Int):zv where
 at_ w F:=F=zY a∧zN w a cap l
 lt:=by rintro w F ⟨rfl,h1⟩ x hx;exact h1.lt x hx
 yE:=by rintro w w' F G ⟨rfl,h1⟩ c hd;exact⟨rfl,h1.yE c hd⟩
theorem Own.zi {w0 w:World}{As:List zv}(h:Own w0 w As)(i:Nat){b:Nat}{cs:List Value}(hi:As[i]?=some (ze b cs)):zH w b cs:=by
 obtain⟨F,⟨_,_,h1⟩,_⟩:=h.fact i hi;exact h1
theorem Own.row {w0 w:World}{As:List zv}(h:Own w0 w As)(i:Nat){a:Option Addr}{cap:Nat}{l:List Int}(hi:As[i]?=some (Y3 a cap l)):zN w a cap l:=by
 obtain⟨F,⟨_,h1⟩,_⟩:=h.fact i hi;exact h1
theorem Own.alloc {w0 w:World}{As:List zv}(h:Own w0 w As)(l:List Value)(t:TypeId){b:Nat}(hb:b=w.heap.size):Own w0 (w.alloc (.cells l.toArray t)) (ze b l::As) :=
 h.add (below_alloc1 _ _) (F:=[b]) ⟨rfl,by subst hb;simp,zH.mk w l t b hb⟩ (fun x hx=>by simp at hx;omega)
theorem Own.set {w0 w:World}{As:List zv}{b:Nat}{cs:List Value}(h:Own w0 w (ze b cs::As))(k:Nat)(v:Value):Own w0 (w.setCell ⟨b,k,none⟩ v) (ze b (cs.set k v)::As):=by
 refine Own.SY (As:=[ze b cs]) (As':=[ze b (cs.set k v)]) (R:=As) h (fun F hF=>?_)
 obtain⟨rfl,h1,h2⟩:=xe.1 hF;exact⟨[b],xe.2 ⟨rfl,by rw[World.size_setCell];exact h1,h2.set k v⟩,(zK.refl _ _).setCell _ (.inl (by simp)),fun x hx=>.inl hx⟩
theorem Own.setAt {w0 w:World}{As:List zv}(h:Own w0 w As)(i:Nat){b:Nat}{cs:List Value}(hi:As[i]?=some (ze b cs))(k:Nat)(v:Value):Own w0 (w.setCell ⟨b,k,none⟩ v) (As.set i (ze b (cs.set k v))) :=
 ((h.pick i hi).set k v).back (List.getElem?_eq_some_iff.1 hi).1
theorem Own.newRow {w0 w w':World}{As:List zv}(h:Own w0 w As)(hb:Below w.heap.size w w'){a:Option Addr}{cap:Nat}{l:List Int}(hr:zN w' a cap l)(hF:∀x∈zY a,w.heap.size≤x):Own w0 w' (Y3 a cap l::As) :=
 h.add hb (F:=zY a) ⟨rfl,hr⟩ hF
theorem GA {p q r s t:Prop}(h:p∧q∧r∧s∧t):t:=h.2.2.2.2
def Er:zv where
 at_ w F:=F=[]
 lt:=by rintro w F rfl x hx;simp at hx
 yE:=by rintro w w' F G rfl c hd;rfl
theorem Own.Dk {w0 w:World}{A:zv}{As:List zv}(h:Own w0 w (A::As)):Own w0 w (As++[A]):=h.perm (List.perm_append_singleton A As).symm
def zT (s:Nat)(w:World)(a:Option Addr)(cap n:Nat)(cs:List Value):Prop :=
 cs.length=n*s∧n≤cap∧cap≤maxLen∧((a=none∧cap=0)∨∃b off,a=some ⟨b,off,none⟩∧b<w.heap.size ∧
  (∀j,j<cap*s→(w.cell? ⟨b,off+j,none⟩).isSome=true∧w.frozen? ⟨b,off+j,none⟩=false)∧∀j v,cs[j]?=some v→w.cell? ⟨b,off+j,none⟩=some v)
def zr (w:World)(a:Option Addr)(cs:List Value):Prop:=∀j v,cs[j]?=some v→∃b off,a=some ⟨b,off,none⟩∧w.cell? ⟨b,off+j,none⟩=some v
theorem zr.below {w w':World}{a:Option Addr}{cs:List Value}(h:zr w a cs)(hb:Below w.heap.size w w'):zr w' a cs:=fun j v hj=>by
 obtain⟨b,off,h1,h2⟩:=h j v hj;exact⟨b,off,h1,zq h2 hb⟩
theorem zr.nil (w:World)(a:Option Addr):zr w a []:=fun j v h=>by simp at h
theorem zT.nil (s:Nat)(w:World):zT s w none 0 0 []:=⟨by simp,by simp,by simp,.inl ⟨rfl,rfl⟩⟩
theorem zT.cells {s:Nat}{w:World}{a:Option Addr}{cap n:Nat}{cs:List Value}(h:zT s w a cap n cs):zr w a cs:=fun j v hj=>by
 obtain⟨h1,h2,h3,h4⟩:=h;rcases h4 with⟨rfl,h0⟩|⟨b,off,rfl,hb,h5,h6⟩
 ·have hl:=(List.getElem?_eq_some_iff.1 hj).1
  have:n=0:=by omega
  subst this;simp at h1;subst h1;simp at hl
 ·exact⟨b,off,rfl,h6 j v hj⟩
theorem zT.lt {s:Nat}{w:World}{a:Option Addr}{cap n:Nat}{cs:List Value}(h:zT s w a cap n cs):∀x∈zY a,x<w.heap.size:=by
 rcases h.2.2.2 with⟨rfl,_⟩|⟨b,off,rfl,hb,_⟩
 ·intro x hx;simp[zY] at hx
 ·intro x hx;simp[zY] at hx;subst hx;exact hb
theorem zT.Es {s:Nat}{w:World}{a:Option Addr}{cap n:Nat}{cs:List Value}(h:zT s w a cap n cs)(e:a=none):cap=0:=by
 rcases h.2.2.2 with⟨_,h⟩|⟨_,_,h,_⟩
 ·exact h
 ·rw[e] at h;cases h
theorem zT.yE {s:Nat}{F:List Nat}{w w':World}{a:Option Addr}{cap n:Nat}{cs:List Value}(h:zT s w a cap n cs)(c:zK F w w')(hd:∀x∈zY a,x∉F):zT s w' a cap n cs:=by
 refine⟨h.1,h.2.1,h.2.2.1,?_⟩
 rcases h.2.2.2 with h0|⟨b,off,rfl,hb,h1,h2⟩
 ·exact .inl h0
 ·have hk:=c.block b hb (hd b (by simp[zY]))
  refine .inr ⟨b,off,rfl,Nat.lt_of_lt_of_le hb c.size,fun j hj=>?_,fun j v hj=>?_⟩
  ·rw[cell_of_heap hk,World.frozen?_of_block (a:=⟨b,off+j,none⟩) hk];exact h1 j hj
  ·rw[cell_of_heap hk];exact h2 j v hj
theorem zT.below {s:Nat}{w w':World}{a:Option Addr}{cap n:Nat}{cs:List Value}(h:zT s w a cap n cs)(hb:Below w.heap.size w w'):zT s w' a cap n cs :=
 h.yE (zK.zO (F:=[]) hb) (fun _ _=>by simp)
theorem zT.zero {s:Nat}{w:World}{b:Nat}(hb:b<w.heap.size):zT s w (some ⟨b,0,none⟩) 0 0 []:=⟨by simp,by simp,by simp,.inr ⟨b,0,rfl,hb,fun j hj=>by simp at hj,fun j v hj=>by simp at hj⟩⟩
theorem zT.new (s n:Nat)(w:World)(cs:List Value)(t:TypeId)(hn:cs.length=n*s)(hl:n≤maxLen){b:Nat}(hb:b=w.heap.size):zT s (w.alloc (.cells cs.toArray t)) (some ⟨b,0,none⟩) n n cs:=by
 subst hb;have hB:=zH.new w cs.toArray t;refine⟨hn,Nat.le_refl _,hl,.inr ⟨_,0,rfl,by simp,fun j hj=>?_,fun j v hj=>?_⟩⟩
 ·rw[Nat.zero_add]
  obtain⟨h1,h2⟩:=hB j _ (List.getElem?_eq_getElem (show j<cs.length by omega))
  exact⟨by rw[h1];rfl,h2⟩
 ·rw[Nat.zero_add];exact(hB j v hj).1
theorem zr.new (w:World)(cs:List Value)(t:TypeId){b:Nat}(hb:b=w.heap.size):zr (w.alloc (.cells cs.toArray t)) (some ⟨b,0,none⟩) cs:=fun j v hj=>by
 subst hb;exact⟨_,0,rfl,by rw[Nat.zero_add];exact(zH.new w cs.toArray t j v hj).1⟩
theorem zr.yE {F:List Nat}{w w':World}{a:Option Addr}{cs:List Value}(h:zr w a cs)(c:zK F w w')(hd:∀x∈zY a,x∉F):zr w' a cs:=fun j v hj=>by
 obtain⟨b,off,rfl,h2⟩:=h j v hj;exact⟨b,off,rfl,Ze h2 c (hd b (by simp[zY]))⟩
theorem Xv {P:Program}{t:TypeId}{s:Nat}(ht:P.underlying t=some (.slice (P.elem t)))(hs:∀w,(sizeOf (P.elem t)).run P w=.ok s w){w0:World}{a:Option Addr}{cap n:Nat}{cs:List Value}(h:zT s w0 a cap n cs)(m:Nat)(hm:m≤n) :
  ∃a',(∀w,(Instr.slice t (.slice a n cap) (some (.int .i64 (m:Int))) none none).run P w=.ok (.slice a' (n-m) (cap-m)) w)∧zT s w0 a' (cap-m) (n-m) (cs.drop (m*s))∧zY a'=zY a:=by
 have hl:=h.2.1;have h1l:=h.1;have hdl:(cs.drop (m*s)).length=(n-m)*s:=by rw[List.length_drop,h1l,Nat.sub_mul]
 rcases h.2.2.2 with⟨rfl,rfl⟩|⟨b,off,rfl,hb,h1,h2⟩
 ·obtain rfl:n=0:=by omega
  obtain rfl:m=0:=by omega
  refine⟨none,fun w=>?_,⟨hdl,by omega,by simp,.inl ⟨rfl,rfl⟩⟩,rfl⟩
  rw[run_slice_l (P:=P) (t:=t) (ht:=ht) (kl:=.i64) (l:=((0:Nat):Int)) (h0:=by omega) (h1:=by simp),hs]
  simp[Result.andThen,sliced]
 ·by_cases hc:cap=m
  ·refine⟨some ⟨b,off,none⟩,fun w=>?_,⟨hdl,by omega,by have:=h.2.2.1;omega,.inr ⟨b,off,rfl,hb,fun j hj=>?_,fun j v hj=>?_⟩⟩,rfl⟩
   ·rw[run_slice_l (P:=P) (t:=t) (ht:=ht) (kl:=.i64) (l:=(m:Int)) (h0:=by omega) (h1:=by omega),hs]
    simp[Result.andThen,sliced,hc]
   ·rw[hc] at hj;simp at hj
   ·have:cs.drop (m*s)=[]:=List.length_eq_zero_iff.1 (by rw[hdl,show n-m=0 by omega];simp)
    rw[this] at hj;simp at hj
  ·refine⟨some ⟨b,off+m*s,none⟩,fun w=>?_,⟨hdl,by omega,by have:=h.2.2.1;omega,.inr ⟨b,off+m*s,rfl,hb,fun j hj=>?_,fun j v hj=>?_⟩⟩,rfl⟩
   ·rw[run_slice_l (P:=P) (t:=t) (ht:=ht) (kl:=.i64) (l:=(m:Int)) (h0:=by omega) (h1:=by omega),hs]
    by_cases hm0:m=0
    ·subst hm0;simp[Result.andThen,sliced,hc,Addr.add]
    ·simp[Result.andThen,sliced,hc,Addr.add,hm0]
     try (intro hz;omega)
   ·have hlt:m*s+j<cap*s:=by
     have:cap*s=m*s+(cap-m)*s:=by rw[←Nat.add_mul];congr 1;omega
     omega
    have:=h1 (m*s+j) hlt
    rwa [←Nat.add_assoc] at this
   ·have:=h2 (m*s+j) v (by rw[List.getElem?_drop] at hj;exact hj)
    rwa [←Nat.add_assoc] at this
theorem zT.take {s:Nat}{w:World}{a:Option Addr}{cap n:Nat}{cs:List Value}(h:zT s w a cap n cs)(m:Nat)(hm:m≤n):zT s w a cap m (cs.take (m*s)):=by
 obtain⟨h1,h2,h3,h4⟩:=h;have hms:m*s≤n*s:=Nat.mul_le_mul_right _ hm
 refine⟨by rw[List.length_take];omega,by omega,h3,?_⟩
 rcases h4 with h0|⟨b,off,rfl,hb,h5,h6⟩
 ·exact .inl h0
 ·refine .inr ⟨b,off,rfl,hb,h5,fun j v hj=>h6 j v ?_⟩
  rw[List.getElem?_take] at hj
  split at hj
  ·exact hj
  ·simp at hj
theorem zT.xH {s:Nat}{w:World}{base n:Nat}{e:TypeId}{v:Value}{cs:List Value}(h:w.ownsRow base e s v n cs):∃a cap,v=.slice a n cap∧zT s w a cap n cs∧∀x∈zY a,base≤x:=by
 have hx:=h.1;rcases h.2 with⟨rfl,h0⟩|⟨g,cap,cur,rfl,hb,hg,h1,h2,h3,h4⟩
 ·exact⟨none,0,by rw[h0],⟨hx,by omega,by simp,.inl ⟨rfl,rfl⟩⟩,fun x hx=>by simp[zY] at hx⟩
 ·have hlt:g<w.heap.size:=(Array.getElem?_eq_some_iff.1 hg).1
  refine⟨_,cap,rfl,⟨hx,h1,h2,.inr ⟨g,0,rfl,hlt,fun j hj=>⟨?_,?_⟩,fun j v hj=>?_⟩⟩,fun x hx=>by simp[zY] at hx;subst hx;exact hb⟩
  ·rw[Nat.zero_add,cell_of_row w g j cur e (0,0) hg,Array.getElem?_eq_getElem (by omega)];rfl
  ·rw[Nat.zero_add];exact frozen_of_row w g j cur e hg
  ·rw[Nat.zero_add,cell_of_row w g j cur e (0,0) hg]
   rw[←h4,List.getElem?_take] at hj
   split at hj
   ·simpa using hj
   ·cases hj
theorem Xd {P:Program}{w:World}{s by_:Nat}(t ty e:TypeId)(i:TypeInfo)(z:Value)(ht:P.underlying t=some (.slice e))(hi:P.info? e=some i)(hz:i.zero=some z)(hsize:i.size=s)(hby:i.bytes=by_)(hzs:z.cells.size=s)(hs0:0<s)(hb0:by_≤1000)
  {a b:Option Addr} {cap c n m:Nat} {cs ds:List Value} (ha:zT s w a cap n cs) (hb:zr w b ds) (hd:ds.length=m*s) (hone:∀u∈ds,u.oneCell'=true) (h47:n+m≤1000000000) :
  ∃a' cap' w',(Builtin.append_ #[t,t] ty #[.slice a n cap,.slice b m c]).run P w=.ok (.slice a' (n+m) cap') w'∧zT s w' a' cap' (n+m) (cs++ds)∧zK (zY a) w w'∧∀x∈zY a',x∈zY a∨w.heap.size≤x:=by
 have hbyt:(n+m)*by_≤140737488355328:=Nat.le_trans (Nat.mul_le_mul h47 hb0) (by omega)
 cases b with
 | none =>
  have hdn:ds=[]:=by
   cases ds with
   | nil=>rfl
   | cons x t=>obtain⟨_,_,h1,_⟩:=hb 0 x rfl;cases h1
  subst hdn;have:m=0:=by
   have h0:m*s=0:=by rw[←hd];rfl
   rcases Nat.mul_eq_zero.1 h0 with h|h
   ·exact h
   ·omega
  subst this;have hl:=ha.2.1;refine⟨a,cap,w,?_,by simpa using ha,zK.refl _ _,fun x hx=>.inl hx⟩
  cases a<;>simp[Builtin.append_,run_underlying ht,sizeOf,typeInfo,hi,Builtin.lenOf,Builtin.firstCells,storeCells,hl]
 | some ad =>
  by_cases hm0:m=0
  ·subst hm0
   have hdn:ds=[]:=List.length_eq_zero_iff.1 (by rw[hd];simp)
   subst hdn;have hl:=ha.2.1;refine⟨a,cap,w,?_,by simpa using ha,zK.refl _ _,fun x hx=>.inl hx⟩
   cases a<;>simp[Builtin.append_,run_underlying ht,sizeOf,typeInfo,hi,Builtin.lenOf,Builtin.firstCells,storeCells,loadCells,loadCellsFrom,hl]
  have hnews:∀j u,ds[j]?=some u→w.cell? (ad.add j)=some u:=fun j u hj=>by
   obtain⟨b,off,h1,h2⟩:=hb j u hj;cases h1
   rw[Addr.add_lit,h2]
  rcases ha.2.2.2 with⟨rfl,h0⟩|⟨b,off,rfl,hbl,h1,h2⟩
  ·obtain rfl:n=0:=by have:=ha.2.1;omega
   have hl0:cs=[]:=List.length_eq_zero_iff.1 (by have:=ha.1;omega)
   subst hl0;subst h0;obtain⟨v',w',hr,r1,r2,_⟩:=run_append_own (P:=P) w w.heap.size t ty e i z s by_ ht hi hz hsize hby hzs hs0 (.slice none 0 0) 0 [] (World.ownsRow_nil _ _ _ _) ad m c ds hd hnews hone (by unfold maxLen;omega) hbyt (Nat.le_refl _)
   simp only[List.nil_append] at r1;obtain⟨a',cap',rfl,hrow,hbase⟩:=zT.xH r1;exact⟨a',cap',w',hr,by simpa using hrow,yy r2 |>.mono (by simp[Value.ownBlock,zY]),fun x hx=>.inr (hbase x hx)⟩
  ·by_cases hroom:n+m≤cap
   ·have hcap:(n+m)*s≤cap*s:=Nat.mul_le_mul_right _ hroom
    rw[Nat.add_mul] at hcap;have hr:=run_append_room_cells (P:=P) w t ty e i ht hi b off n cap ad m c ds (by rw[hd,hsize]) hnews hone hroom
     (fun j hj=>by rw[hsize];have:=(h1 (n*s+j) (by omega)).1;rwa [←Nat.add_assoc] at this)
     (fun j hj=>by rw[hsize];have:=(h1 (n*s+j) (by omega)).2;rwa [←Nat.add_assoc] at this)
    rw[hsize] at hr;have hin:=World.cell?_setCells_in b ds (off+n*s) w (fun j hj=>by have:=(h1 (n*s+j) (by omega)).1;rwa [←Nat.add_assoc] at this)
    have hcl:=ha.1;refine⟨_,cap,_,hr,⟨by rw[List.length_append,hd,hcl,Nat.add_mul],hroom,ha.2.2.1,.inr ⟨b,off,rfl,Nat.lt_of_lt_of_le hbl ((zK.refl [b] w).setCells ds (off+n*s) (.inl (by simp))).size,fun j hj=>⟨?_,?_⟩,fun j v hj=>?_⟩⟩,(zK.refl _ _).setCells _ _ (.inl (by simp[zY])),fun x hx=>.inl hx⟩
    ·by_cases hj2:n*s≤j∧j<n*s+m*s
     ·have:=hin (j-n*s) (by omega)
      rw[show off+n*s+(j-n*s)=off+j by omega] at this
      rw[this];rfl
     ·rw[World.cell?_setCells_out b ds _ w _ (fun _ _=>by simp only;omega)]
      exact(h1 j hj).1
    ·rw[World.frozen?_setCells];exact(h1 j hj).2
    ·by_cases hj2:j<n*s
     ·rw[List.getElem?_append_left (by omega)] at hj
      rw[World.cell?_setCells_out b ds _ w _ (fun _ _=>by simp only;omega)]
      exact h2 j v hj
     ·rw[List.getElem?_append_right (by omega),hcl] at hj
      have hlt:j-n*s<ds.length:=(List.getElem?_eq_some_iff.1 hj).1
      have:=hin (j-n*s) hlt
      rw[show off+n*s+(j-n*s)=off+j by omega] at this
      rw[this];rw[List.getElem?_eq_getElem hlt] at hj
      exact hj
   ·obtain⟨v',w',hr,r1,r2⟩:=run_append_arg_grows (P:=P) w t ty e i z s by_ ht hi hz hsize hby hzs hs0 ⟨b,off,none⟩ n cap cs ha.1 (fun j u hj=>by rw[Addr.add_lit];exact h2 j u hj) ad m c ds hd hnews (by omega) (by unfold maxLen;omega) hbyt
    obtain⟨a',cap',rfl,hrow,hbase⟩:=zT.xH r1;exact⟨a',cap',w',hr,hrow,(yy r2).mono (by simp),fun x hx=>.inr (hbase x hx)⟩
theorem yk {P:Program}{w:World}{ops:Array Oper}{rest:List Oper}{o:Oper}{ac:Act}{Q:Exit→Act→World→Prop}{s by_:Nat}(hgd:o.guard=none)(sl x:Operand)(t:TypeId)
  (ho:o.op=.call { callee:=.builtin .append,args:=#[sl,x],argTypes:=#[t,t] }) (e:TypeId) (i:TypeInfo) (z:Value) (ht:P.underlying t=some (.slice e)) (hi:P.info? e=some i) (hz:i.zero=some z) (hsize:i.size=s) (hby:i.bytes=by_) (hzs:z.cells.size=s) (hs0:0<s) (hb0:by_≤1000)
  {a b:Option Addr} {cap c n m:Nat} {cs ds:List Value} (hs:ac.eval sl=.slice a n cap) (hx:ac.eval x=.slice b m c) (ha:zT s w a cap n cs) (hb:zr w b ds) (hd:ds.length=m*s) (hone:∀u∈ds,u.oneCell'=true) (h47:n+m≤1000000000)
  (h:∀a' cap' w',zT s w' a' cap' (n+m) (cs++ds)→zK (zY a) w w'→(∀x∈zY a',x∈zY a∨w.heap.size≤x)→wpList P ops Q rest (ac.put o.dst (.slice a' (n+m) cap')) w'):wpList P ops Q (o::rest) ac w:=by
 refine wpList_plain hgd fun K hK=>?_
 obtain⟨a',cap',w',hr,h2,h3,h4⟩:=Xd (P:=P) (w:=w) t o.type e i z ht hi hz hsize hby hzs hs0 hb0 ha (c:=c) hb hd hone h47
 unfold Oper.wp execOp;simp only[ho,resolve,invoke,builtin,Sem.run_bind,Sem.run_pure,Result.andThen_ok,List.map_toArray,List.map_cons,List.map_nil,hs,hx,hr];exact hK _ _ (h a' cap' w' h2 h3 h4)
theorem ZG {P:Program}{w:World}{ops:Array Oper}{o:Oper}{ac:Act}{K:Act→World→Prop}{Q:Exit→Act→World→Prop}{E:Prop}{s by_:Nat}(hgd:o.guard=none)(sl x:Operand)(t:TypeId)
  (ho:o.op=.call { callee:=.builtin .append,args:=#[sl,x],argTypes:=#[t,t] }) (e:TypeId) (i:TypeInfo) (z:Value) (ht:P.underlying t=some (.slice e)) (hi:P.info? e=some i) (hz:i.zero=some z) (hsize:i.size=s) (hby:i.bytes=by_) (hzs:z.cells.size=s) (hs0:0<s) (hb0:by_≤1000)
  {a b:Option Addr} {cap c n m:Nat} {cs ds:List Value} (hs:ac.eval sl=.slice a n cap) (hx:ac.eval x=.slice b m c) (ha:zT s w a cap n cs) (hb:zr w b ds) (hd:ds.length=m*s) (hone:∀u∈ds,u.oneCell'=true) (h47:n+m≤1000000000)
  (h:∀a' cap' w',zT s w' a' cap' (n+m) (cs++ds)→zK (zY a) w w'→(∀x∈zY a',x∈zY a∨w.heap.size≤x)→K (ac.put o.dst (.slice a' (n+m) cap')) w'):if Region.wanted o (yielded ops ac.tmps)=true then Oper.wp P o ac w K Q else E:=by
 have hw:Region.wanted o (yielded ops ac.tmps)=true:=by simp[Region.wanted,hgd]
 rw[if_pos hw];obtain⟨a',cap',w',hr,h2,h3,h4⟩:=Xd (P:=P) (w:=w) t o.type e i z ht hi hz hsize hby hzs hs0 hb0 ha (c:=c) hb hd hone h47
 unfold Oper.wp execOp;simp only[ho,resolve,invoke,builtin,Sem.run_bind,Sem.run_pure,Result.andThen_ok,List.map_toArray,List.map_cons,List.map_nil,hs,hx,hr];exact h a' cap' w' h2 h3 h4
theorem zT.L5 {w:World}{a:Option Addr}{cap:Nat}{l:List Int}(h:zN w a cap l):zT 1 w a cap l.length (zt l):=⟨by rw[yI];simp,h.1,h.2.1,by simpa using h.2.2⟩
theorem zT.Lq {w:World}{a:Option Addr}{cap n:Nat}{l:List Int}(h:zT 1 w a cap n (zt l)):zN w a cap l∧n=l.length:=by
 have h1:=h.1;rw[yI,Nat.mul_one] at h1;exact⟨⟨by rw[h1];exact h.2.1,h.2.2.1,by simpa using h.2.2.2⟩,h1.symm⟩
def zd (s:Nat)(a:Option Addr)(cap n:Nat)(cs:List Value):zv where
 at_ w F:=F=zY a∧zT s w a cap n cs
 lt:=by rintro w F ⟨rfl,h1⟩ x hx;exact h1.lt x hx
 yE:=by rintro w w' F G ⟨rfl,h1⟩ c hd;exact⟨rfl,h1.yE c hd⟩
theorem zr.int {w:World}{a:Option Addr}{l:List Int}(h:zr w a (zt l))(i:Nat)(hi:i<l.length):∃b off,a=some ⟨b,off,none⟩∧w.cell? ⟨b,off+i,none⟩=some (.int .i64 l[i]):=h _ _ (XA l i hi)
theorem Own.xl {w0 w:World}{As:List zv}(h:Own w0 w As)(i:Nat){s:Nat}{a:Option Addr}{cap n:Nat}{cs:List Value}(hi:As[i]?=some (zd s a cap n cs)):zT s w a cap n cs:=by
 obtain⟨F,⟨_,h1⟩,_⟩:=h.fact i hi;exact h1
theorem Own.yJ {w0 w w':World}{As:List zv}{s:Nat}{a a':Option Addr}{cap cap' n n':Nat}{cs cs':List Value}(h:Own w0 w (zd s a cap n cs::As))(hr:zT s w' a' cap' n' cs')(c:zK (zY a) w w')(hf:∀x∈zY a',x∈zY a∨w.heap.size≤x) :
  Own w0 w' (zd s a' cap' n' cs'::As):=by
 refine Own.SY (As:=[zd s a cap n cs]) (As':=[zd s a' cap' n' cs']) (R:=As) h (fun F hF=>?_)
 obtain⟨rfl,h1⟩:=xe.1 hF;exact⟨zY a',xe.2 ⟨rfl,hr⟩,c,hf⟩
theorem Own.unfold{w0 w:World}{A:zv}{R:List zv}(h:Own w0 w (A::R)){P:List zv→Prop}(hA:∀F,A.at_ w F→∃As,P As∧Sep w As F):∃As,P As∧Own w0 w (As++R):=by
 obtain⟨h1,F,⟨F1,F2,rfl,h2,h3,h4⟩,h5⟩:=h;obtain⟨As,hp,hs⟩:=hA F1 h2;exact⟨As,hp,h1,F1++F2,hs.app h4 h3,h5⟩
theorem Own.fold {w0 w:World}{A:zv}{As R:List zv}(h:Own w0 w (As++R))(hA:∀F,Sep w As F→A.at_ w F):Own w0 w (A::R):=by
 obtain⟨h1,F,h2,h5⟩:=h;obtain⟨F1,F2,rfl,h3,h4,h6⟩:=h2.split;exact⟨h1,F1++F2,⟨F1,F2,rfl,hA F1 h3,h4,h6⟩,h5⟩
theorem zT.setCell {s:Nat}{w:World}{b off cap n:Nat}{cs:List Value}(h:zT s w (some ⟨b,off,none⟩) cap n cs)(j:Nat)(v:Value)(hj:j<cs.length):zT s (w.setCell ⟨b,off+j,none⟩ v) (some ⟨b,off,none⟩) cap n (cs.set j v):=by
 obtain⟨h1,h2,h3,h4⟩:=h;rcases h4 with⟨h0,_⟩|⟨b',off',hb',hlt,h5,h6⟩
 ·cases h0
 ·simp only[Option.some.injEq,Addr.mk.injEq,and_true] at hb'
  obtain⟨rfl,rfl⟩:=hb';have hms:n*s≤cap*s:=Nat.mul_le_mul_right _ h2
  refine⟨by rw[List.length_set];exact h1,h2,h3,.inr ⟨b,off,rfl,by rw[World.size_setCell];exact hlt,fun k hk=>⟨?_,by rw[World.frozen?_setCell];exact(h5 k hk).2⟩,fun k u hk=>?_⟩⟩
  ·by_cases e:k=j
   ·subst e;rw[World.cell?_setCell_same' _ _ _ (h5 k hk).1];rfl
   ·rw[World.cell?_setCell_other _ _ _ _ (by simp<;>omega)];exact(h5 k hk).1
  ·by_cases e:k=j
   ·subst e
    rw[List.getElem?_set_self hj] at hk
    obtain rfl:v=u:=by simpa using hk
    exact World.cell?_setCell_same' _ _ _ (h5 k (by omega)).1
   ·rw[List.getElem?_set_ne (by omega)] at hk
    rw[World.cell?_setCell_other _ _ _ _ (by simp<;>omega)];exact h6 k u hk
theorem Own.YX {w0 w:World}{As:List zv}{s b off cap n:Nat}{cs:List Value}(h:Own w0 w (zd s (some ⟨b,off,none⟩) cap n cs::As))(j:Nat)(v:Value)(hj:j<cs.length):Own w0 (w.setCell ⟨b,off+j,none⟩ v) (zd s (some ⟨b,off,none⟩) cap n (cs.set j v)::As) :=
 Own.yJ h ((h.xl 0 rfl).setCell j v hj) ((zK.refl _ _).setCell _ (.inl (by simp[zY]))) (fun x hx=>.inl hx)
theorem zT.spot {s:Nat}{w:World}{b off cap n:Nat}{cs:List Value}(h:zT s w (some ⟨b,off,none⟩) cap n cs)(j:Nat)(hj:j<cap*s):∃v,w.cell? ⟨b,off+j,none⟩=some v∧w.frozen? ⟨b,off+j,none⟩=false:=by
 rcases h.2.2.2 with⟨h0,_⟩|⟨b',off',hb',hlt,h5,h6⟩
 ·cases h0
 ·simp only[Option.some.injEq,Addr.mk.injEq,and_true] at hb'
  obtain⟨rfl,rfl⟩:=hb';obtain⟨v,hv⟩:=Option.isSome_iff_exists.1 (h5 j hj).1
  exact⟨v,hv,(h5 j hj).2⟩
theorem ZK {α:Type}(f:α→List Value)(s:Nat)(hf:∀x,(f x).length=s):∀l:List α,(l.flatMap f).length=l.length*s
 | []=>by simp
 | x::l=>by rw[List.flatMap_cons,List.length_append,hf,ZK f s hf l,List.length_cons,Nat.add_mul];omega
theorem x6 {α:Type}(f:α→List Value)(s:Nat)(hf:∀x,(f x).length=s):∀(l:List α) (i k:Nat) (hi:i<l.length),k<s→(l.flatMap f)[i*s+k]?=(f l[i])[k]?
 | [],i,k,hi,_=>by simp at hi
 | x::l,0,k,_,hk=>by rw[List.flatMap_cons,Nat.zero_mul,Nat.zero_add,List.getElem?_append_left (by rw[hf];exact hk)];rfl
 | x::l,i+1,k,hi,hk=>by
  have ih:=x6 f s hf l i k (by simpa using hi) hk
  have e:(i+1)*s+k=s+(i*s+k):=by rw[Nat.add_mul];omega
  rw[List.flatMap_cons,e,List.getElem?_append_right (by rw[hf];omega),hf,Nat.add_sub_cancel_left,ih]
  rfl
def setL (cs:List Value)(o:Nat):List Value→List Value
 | []=>cs
 | v::vs=>setL (cs.set o v) (o+1) vs
theorem Sm:∀(vs:List Value) (cs:List Value) (o j:Nat),(setL cs o vs)[j]?=if o≤j∧j<o+vs.length∧j<cs.length then vs[j-o]? else cs[j]?
 | [],cs,o,j=>by
  rw[if_neg (by simp;omega)];rfl
 | v::vs,cs,o,j=>by
  rw[setL,Sm vs (cs.set o v) (o+1) j]
  simp only[List.length_set,List.length_cons];by_cases h:o=j
  ·subst h
   rw[if_neg (by omega)]
   by_cases hl:o<cs.length
   ·rw[if_pos (by omega),List.getElem?_set_self hl];simp
   ·rw[if_neg (by omega),List.getElem?_eq_none (by simp;omega),List.getElem?_eq_none (by omega)]
  ·rw[List.getElem?_set_ne h]
   by_cases h2:o+1≤j∧j<o+1+vs.length∧j<cs.length
   ·rw[if_pos h2,if_pos (by omega),show j-o=(j-(o+1))+1 by omega];rfl
   ·rw[if_neg h2,if_neg (by omega)]
theorem Uk {α:Type}(f:α→List Value)(s:Nat)(hf:∀x,(f x).length=s)(l:List α)(i:Nat)(x:α)(hi:i<l.length):setL (l.flatMap f) (i*s) (f x)=(l.set i x).flatMap f:=by
 have hL:=ZK f s hf;apply List.ext_getElem?
 intro j;rw[Sm,hf,hL];by_cases hs:s=0
 ·subst hs
  rw[if_neg (by omega),List.getElem?_eq_none (by rw[hL];omega),List.getElem?_eq_none (by rw[hL];omega)]
 by_cases hj:j<l.length*s
 ·have hd:j / s<l.length:=Nat.div_lt_of_lt_mul (by rw[Nat.mul_comm];exact hj)
  have hm:j%s<s:=Nat.mod_lt _ (by omega)
  have e:j=j / s*s+j%s:=by rw[Nat.mul_comm];exact(Nat.div_add_mod j s).symm
  have r1:=x6 f s hf (l.set i x) (j / s) (j%s) (by simpa using hd) hm
  have r2:=x6 f s hf l (j / s) (j%s) hd hm
  rw[←e] at r1 r2;rw[r1];by_cases hi2:j / s=i
  ·have e2:(l.set i x)[j / s]'(by simpa using hd)=x:=by simp[hi2]
   rw[e2];have e3:j-i*s=j%s:=by rw[←hi2];omega
   rw[if_pos ⟨by rw[←hi2];omega,by rw[←hi2];omega,hj⟩,e3]
  ·have e2:(l.set i x)[j / s]'(by simpa using hd)=l[j / s]:=by rw[List.getElem_set_ne (by omega)]
   rw[e2,←r2,if_neg];rintro⟨h1,h2,h3⟩
   have h4:i≤j / s:=by rw[Nat.le_div_iff_mul_le (by omega)];exact h1
   have h5:j / s<i+1:=by rw[Nat.div_lt_iff_lt_mul (by omega),Nat.add_mul];omega
   omega
 ·rw[if_neg (by omega),List.getElem?_eq_none (by rw[hL];omega),List.getElem?_eq_none (by rw[hL];simp;omega)]
theorem zr.rec {α:Type}{f:α→List Value}{s:Nat}(hf:∀x,(f x).length=s){w:World}{a:Option Addr}{l:List α}(h:zr w a (l.flatMap f))(i:Nat)(hi:i<l.length)(hs:0<s) :
  ∃b off,a=some ⟨b,off,none⟩∧∀k v,(f l[i])[k]?=some v→w.cell? ⟨b,off+i*s+k,none⟩=some v:=by
 have h0:=x6 f s hf l i 0 hi hs;obtain⟨v0,hv0⟩:∃v,(f l[i])[0]?=some v:=by
  have hl0:0<(f l[i]).length:=by rw[hf];exact hs
  exact⟨_,List.getElem?_eq_getElem hl0⟩
 rw[hv0] at h0;obtain⟨b,off,rfl,e1⟩:=h _ _ h0;refine⟨b,off,rfl,fun k v hk=>?_⟩
 have hks:k<s:=by have:=(List.getElem?_eq_some_iff.1 hk).1;rw[hf] at this;exact this
 have h1:=x6 f s hf l i k hi hks;rw[hk] at h1;obtain⟨b2,o2,e,e2⟩:=h _ _ h1;cases e
 rw[Nat.add_assoc];exact e2
theorem yx {P:Program}{w:World}{o:Oper}{ac:Act}{K:Act→World→Prop}{Q:Exit→Act→World→Prop}{s by_:Nat}(sl x:Operand)(t:TypeId)
  (ho:o.op=.call { callee:=.builtin .append,args:=#[sl,x],argTypes:=#[t,t] }) (e:TypeId) (i:TypeInfo) (z:Value) (ht:P.underlying t=some (.slice e)) (hi:P.info? e=some i) (hz:i.zero=some z) (hsize:i.size=s) (hby:i.bytes=by_) (hzs:z.cells.size=s) (hs0:0<s) (hb0:by_≤1000)
  {a b:Option Addr} {cap c n m:Nat} {cs ds:List Value} (hs:ac.eval sl=.slice a n cap) (hx:ac.eval x=.slice b m c) (ha:zT s w a cap n cs) (hb:zr w b ds) (hd:ds.length=m*s) (hone:∀u∈ds,u.oneCell'=true) (h47:n+m≤1000000000)
  (h:∀a' cap' w',zT s w' a' cap' (n+m) (cs++ds)→zK (zY a) w w'→(∀x∈zY a',x∈zY a∨w.heap.size≤x)→K (ac.put o.dst (.slice a' (n+m) cap')) w'):Oper.wp P o ac w K Q:=by
 obtain⟨a',cap',w',hr,h2,h3,h4⟩:=Xd (P:=P) (w:=w) t o.type e i z ht hi hz hsize hby hzs hs0 hb0 ha (c:=c) hb hd hone h47
 unfold Oper.wp execOp;simp only[ho,resolve,invoke,builtin,Sem.run_bind,Sem.run_pure,Result.andThen_ok,List.map_toArray,List.map_cons,List.map_nil,hs,hx,hr];exact h a' cap' w' h2 h3 h4
structure Qd where
 p:Nat
 g:Nat
 N:Nat
 q:LQ
 xa:Option Addr
 xc:Nat
def Zx (d:Qd):zv where
 at_ w F:=F=[d.p,d.g]∧yu w d.p d.g d.N d.q
 lt:=by rintro w F ⟨rfl,h⟩ x hx;have:=h.lt;simp at hx;rcases hx with rfl|rfl<;>omega
 yE:=by rintro w w' F G ⟨rfl,h⟩ c hd;exact⟨rfl,h.yE c (hd _ (by simp)) (hd _ (by simp))⟩
def Ya (b:Gp)(gl:List Int):zv where
 at_ w F:=xj w b gl F
 lt:=fun h=>h.lt
 yE:=fun h c hd=>h.yE c hd
def Y6 (ds:List Qd):List zv:=ds.map Zx
theorem Wp {ds:List Qd}{i:Nat}{d:Qd}(h:ds[i]?=some d):(Y6 ds)[i]?=some (Zx d):=by unfold Y6;rw[List.getElem?_map,h];rfl
theorem WJ (ds:List Qd)(i:Nat)(d:Qd):(Y6 ds).set i (Zx d)=Y6 (ds.set i d):=by unfold Y6;rw[List.map_set]
theorem Own.Pv {w0 w:World}{d:Qd}{q':LQ}{b:Gp}{gl gl':List Int}{R:List zv}(h:Own w0 w (Zx d::Ya b gl::R)){f:FuncId}{args:Array Value}{ret:Ending→Prop}
  (hc:∀F,yu w d.p d.g d.N d.q→xj w b gl F→d.p∉F→d.g∉F→Calls Tryz.prog f args w fun r w'=>ret r∧yu w' d.p d.g d.N q'∧zK (d.p::d.g::F) w w'∧∃F',xj w' b gl' F'∧∀x∈F',x∈F∨w.heap.size≤x) :
  Calls Tryz.prog f args w fun r w'=>ret r∧Own w0 w' (Zx ⟨d.p,d.g,d.N,q',d.xa,d.xc⟩::Ya b gl'::R):=by
 refine h.call2 (fun F G hF hG hd=>?_)
 obtain⟨rfl,h1⟩:=hF;have hp:d.p∉G:=hd _ (by simp)
 have hg:d.g∉G:=hd _ (by simp)
 have hlt:=h1.lt;refine(hc G h1 hG hp hg).mono ?_
 rintro r w' ⟨k1,k2,k3,F',k4,k5⟩;exact⟨k1,[d.p,d.g],F',⟨rfl,k2⟩,k4,fun x hx hc=>by
  simp at hx
  rcases k5 x hc with h|h
  ·rcases hx with rfl|rfl
   ·exact hp h
   ·exact hg h
  ·rcases hx with rfl|rfl<;>omega,k3,fun x hx=>.inl (by simp at hx ⊢;rcases hx with rfl|rfl<;>simp),fun x hx=>by
  rcases k5 x hx with h|h
  ·exact .inl (by simp[h])
  ·exact .inr h⟩
section
variable {w0 w:World} {d:Qd} {b:Gp} {gl:List Int} {R:List zv}
theorem PG (h:Own w0 w (Zx d::Ya b gl::R))(v:Int)(hl:gl.length≤1000000) :
  Calls Tryz.prog 86 #[.pointer (some ⟨d.p,0,none⟩),.int .i64 v,.pointer (some ⟨b.b,14,none⟩)] w fun r w'=>r=.returned (.int .i64 ((xx d.N d.q v gl).2.2:Int))∧Own w0 w' (Zx ⟨d.p,d.g,d.N,(xx d.N d.q v gl).1,d.xa,d.xc⟩::Ya b (xx d.N d.q v gl).2.1::R) :=
 h.Pv (fun F h1 h2 h3 h4=>QC w d.p d.g d.N b d.q gl F v h1 h2 h3 h4 hl)
theorem ON (h:Own w0 w (Zx d::Ya b gl::R))(hl:gl.length≤1000000) :
  Calls Tryz.prog 94 #[.pointer (some ⟨d.p,0,none⟩),.pointer (some ⟨b.b,14,none⟩)] w fun r w'=>r=.returned (.int .i64 ((mTurn d.N d.q gl).2.2:Int))∧Own w0 w' (Zx ⟨d.p,d.g,d.N,⟨none,(mTurn d.N d.q gl).1.l⟩,d.xa,d.xc⟩::Ya b (mTurn d.N d.q gl).2.1::R) :=
 h.Pv (fun F h1 h2 h3 h4=>Tq w d.p d.g d.N b d.q gl F h1 h2 h3 h4 hl)
theorem PH (h:Own w0 w (Zx d::Ya b gl::R))(k:Int)(hl:gl.length≤1000000) :
  Calls Tryz.prog 107 #[.pointer (some ⟨d.p,0,none⟩),.pointer (some ⟨b.b,14,none⟩),.int .i64 k] w fun r w'=>r=.returned (Zc (mFetch d.N d.q gl k).2.2)∧Own w0 w' (Zx ⟨d.p,d.g,d.N,(mFetch d.N d.q gl k).1,d.xa,d.xc⟩::Ya b (mFetch d.N d.q gl k).2.1::R) :=
 h.Pv (fun F h1 h2 h3 h4=>(Pf w d.p d.g d.N b d.q gl F k h1 h2 h3 h4 hl).mono fun r w' ⟨k1,k2,k3,k4⟩=>⟨k1,k2,k3,F,k4,fun x hx=>.inl hx⟩)
theorem Lj (h:Own w0 w (Zx d::R)) :
  Calls Tryz.prog 83 #[.pointer (some ⟨d.p,0,none⟩)] w fun r w'=>r=.returned (Zc (mGet d.q).2)∧Own w0 w' (Zx ⟨d.p,d.g,d.N,(mGet d.q).1,d.xa,d.xc⟩::R) :=
 h.PN (fun F ⟨e,h1⟩=>(M4 w d.p d.g d.N d.q h1).mono fun r w' ⟨k1,k2,k3⟩=>⟨k1,[d.p,d.g],⟨rfl,k2⟩,by rw[e];exact k3,fun x hx=>.inl (by rw[e];exact hx)⟩)
theorem Q5 {e:Qd}(h:Own w0 w (Zx d::Zx e::R)) :
  Calls Tryz.prog 96 #[.pointer (some ⟨d.p,0,none⟩),.pointer (some ⟨e.p,0,none⟩)] w fun r w'=>r=.returned (Zc (mSteal d.N d.q e.q).2.2)∧Own w0 w' (Zx ⟨d.p,d.g,d.N,(mSteal d.N d.q e.q).1,d.xa,d.xc⟩::Zx ⟨e.p,e.g,e.N,(mSteal d.N d.q e.q).2.1,e.xa,e.xc⟩::R):=by
 refine h.call2 (fun F G hF hG hd=>?_)
 obtain⟨rfl,h1⟩:=hF;obtain⟨rfl,h2⟩:=hG;have d1:d.p≠e.p:=fun hc=>hd d.p (by simp) (by simp[hc])
 have d2:d.p≠e.g:=fun hc=>hd d.p (by simp) (by simp[hc])
 have d3:d.g≠e.p:=fun hc=>hd d.g (by simp) (by simp[hc])
 have d4:d.g≠e.g:=fun hc=>hd d.g (by simp) (by simp[hc])
 refine(Pa w d.p d.g d.N e.p e.g e.N d.q e.q h1 h2 d1 d2 d3 d4).mono ?_
 rintro r w' ⟨k1,k2,k3,k4⟩;exact⟨k1,[d.p,d.g],[e.p,e.g],⟨rfl,k2⟩,⟨rfl,k3⟩,hd,by simpa using k4,fun x hx=>.inl (by simp at hx ⊢;omega),fun x hx=>.inl (by simp at hx ⊢;omega)⟩
theorem O8 (h:Own w0 w (Ya b gl::R))(a:Option Addr)(n c:Nat)(m:List Int)(hn:n=m.length)(hm:yT w a m)(hl:gl.length+m.length≤1000000000) :
  Calls Tryz.prog 39 #[.pointer (some ⟨b.b,14,none⟩),.slice a n c] w fun r w'=>r=.returned (.tuple #[])∧Own w0 w' (Ya b (gl++m)::R) :=
 h.PN (fun F h1=>(SV w b gl F h1 a n c m hn hm hl).mono fun r w' ⟨k1,k2,F',k3,k4⟩=>⟨k1,F',k3,k2,k4⟩)
theorem Pg (h:Own w0 w (Ya b gl::R))(k:Int)(hl:gl.length≤1000000) :
  Calls Tryz.prog 106 #[.pointer (some ⟨b.b,14,none⟩),.int .i64 k] w fun r w'=>∃a' c',r=.returned (.slice a' (xo k gl.length) c')∧Own w0 w' (Y3 a' c' (gl.take (xo k gl.length))::Ya b (gl.drop (xo k gl.length))::R):=by
 refine(Own.call (As:=[Ya b gl]) (R:=R) h (post:=fun r l=>∃a' c',r=.returned (.slice a' (xo k gl.length) c')∧l=[Y3 a' c' (gl.take (xo k gl.length)),Ya b (gl.drop (xo k gl.length))]) (fun F hF=>?_)).mono ?_
 ·have h1:=xe.1 hF
  have hlt:=h1.lt;refine(Tn w b gl F k h1 hl).mono ?_
  rintro r w' ⟨a',c',k1,k2,k3,k4,k5⟩;refine⟨_,⟨a',c',k1,rfl⟩,zY a'++F,⟨zY a',F,rfl,⟨rfl,k2⟩,fun x hx hc=>by have:=k3 x hx;have:=hlt x hc;omega,xe.2 k4⟩,k5,fun x hx=>?_⟩
  rcases List.mem_append.1 hx with h|h
  ·exact .inr (k3 x h)
  ·exact .inl h
 ·rintro r w' ⟨_,⟨a',c',k1,rfl⟩,k3⟩
  exact⟨a',c',k1,k3⟩
end
end Go.Proofs.YtlkjheheofgdgaaGreat
open Go Go.RowKit
namespace Go.Proofs.YtlkjheheofgdgaaGreat
abbrev Wt:=Int×Int×Int
def wv (x:Wt):Value:=.agg #[.int .i64 x.1,.int .i64 x.2.1,.int .i64 x.2.2]
def xf (l:List Wt):List Value:=l.flatMap fun x=>[.int .i64 x.1,.int .i64 x.2.1,.int .i64 x.2.2]
theorem P3 (l:List Wt):(xf l).length=l.length*3:=by
 unfold xf;induction l with
 | nil=>rfl
 | cons x l ih=>simp only[List.flatMap_cons,List.length_append,ih,List.length_cons,List.length_nil];omega
theorem OB (l m:List Wt):xf (l++m)=xf l++xf m:=by unfold xf;rw[List.flatMap_append]
theorem Z6 (x:Wt)(l:List Wt):xf (x::l)=.int .i64 x.1::.int .i64 x.2.1::.int .i64 x.2.2::xf l:=rfl
theorem KL:∀(l:List Wt) (i:Nat) (h:i<l.length),(xf l)[i*3]?=some (.int .i64 l[i].1)∧(xf l)[i*3+1]?=some (.int .i64 l[i].2.1)∧(xf l)[i*3+2]?=some (.int .i64 l[i].2.2)
 | x::l,0,_=>⟨rfl,rfl,rfl⟩
 | x::l,i+1,h=>by
  have:=KL l i (by simpa using h)
  rw[Z6,show(i+1)*3=i*3+1+1+1 by omega]
  exact this
theorem LD (l:List Wt)(n:Nat):xf (l.drop n)=(xf l).drop (n*3):=by
 induction l generalizing n with
 | nil=>simp[xf]
 | cons x l ih =>
  cases n with
  | zero=>simp
  | succ n =>
   rw[QQ,Z6,show(n+1)*3=n*3+1+1+1 by omega]
   simp only[QQ];exact ih n
theorem RT (l:List Wt)(n:Nat):xf (l.take n)=(xf l).take (n*3):=by
 induction l generalizing n with
 | nil=>simp[xf]
 | cons x l ih =>
  cases n with
  | zero=>simp[xf]
  | succ n =>
   rw[QX,Z6,Z6,show(n+1)*3=n*3+1+1+1 by omega]
   simp only[QX];rw[ih]
theorem Ox (l:List Wt):∀v∈xf l,v.oneCell'=true:=fun v hv=>by
 unfold xf at hv;rw[List.mem_flatMap] at hv;obtain⟨x,_,hx⟩:=hv;simp at hx
 rcases hx with rfl|rfl|rfl<;>rfl
theorem zr.wt {w:World}{a:Option Addr}{l:List Wt}(h:zr w a (xf l))(i:Nat)(hi:i<l.length):∃b off,a=some ⟨b,off,none⟩∧w.cell? ⟨b,off+i*3,none⟩=some (.int .i64 l[i].1)∧w.cell? ⟨b,off+i*3+1,none⟩=some (.int .i64 l[i].2.1)∧w.cell? ⟨b,off+i*3+2,none⟩=some (.int .i64 l[i].2.2):=by
 obtain⟨h1,h2,h3⟩:=KL l i hi;obtain⟨b,off,rfl,e1⟩:=h _ _ h1;obtain⟨b2,o2,k2,e2⟩:=h _ _ h2;obtain⟨b3,o3,k3,e3⟩:=h _ _ h3;cases k2
 cases k3
 exact⟨b,off,rfl,e1,by rw[Nat.add_assoc];exact e2,by rw[Nat.add_assoc];exact e3⟩
theorem TK:(Tryz.prog.info? 270).map (fun i=>(i.zero,i.size,i.bytes))=some (some (.agg #[.int .i64 0,.int .i64 0,.int .i64 0]),3,24):=by kernel_rfl
theorem VE:(Tryz.prog.info? 2).map (fun i=>(i.zero,i.size,i.bytes))=some (some (.int .i64 0),1,8):=by kernel_rfl
theorem Sp:∀w,(sizeOf (Tryz.prog.elem 191)).run Tryz.prog w=.ok 3 w:=by
 obtain⟨i0,hi,hz0,hz1,hz2⟩:=info_parts TK;intro w;have e:Tryz.prog.elem 191=270:=by kernel_rfl
 rw[e];simp[sizeOf,typeInfo,hi,hz1]
theorem V6:Tryz.prog.underlying 191=some (.slice (Tryz.prog.elem 191)):=by
 have e:Tryz.prog.elem 191=270:=by kernel_rfl
 rw[e];exact Tryz.underlying191
theorem Iq:∀w,(sizeOf (Tryz.prog.elem 39)).run Tryz.prog w=.ok 1 w:=by
 obtain⟨i0,hi,hz0,hz1,hz2⟩:=info_parts VE;intro w;have e:Tryz.prog.elem 39=2:=by kernel_rfl
 rw[e];simp[sizeOf,typeInfo,hi,hz1]
theorem Ks:Tryz.prog.underlying 39=some (.slice (Tryz.prog.elem 39)):=by
 have e:Tryz.prog.elem 39=2:=by kernel_rfl
 rw[e];exact Tryz.underlying39
def zw:Wt:=(0,0,0)
theorem Va {w0 w:World}{R:List zv}{p k c:Nat}{cs:List Value}{a:Option Addr}(h:Own w0 w (ze p cs::R))(hk:cs[k]?=some (.slice a 0 c)) :
  Calls Tryz.prog 185 #[.pointer (some ⟨p,k,none⟩)] w fun r w'=>r=.returned (.tuple #[wv zw,.bool false])∧Own w0 w' (ze p cs::R)∧Below w.heap.size w w':=by
 obtain⟨g0,f0⟩:=h.zi 0 rfl k _ hk;have hs:∀w',Below w.heap.size w w'→Own w0 w' (ze p cs::R)∧Below w.heap.size w w':=fun w' hb=>⟨h.step hb,hb⟩
 have HS:=Qq hs;have hpl:=World.block_lt_of_cell? w _ g0
 clear h hs hk;go_enter Tryz.func185,Tryz.ntmps185
 go_wp2;exact bodyPost_ret (v:=.tuple #[wv zw,.bool false]) (by simp[results,Tryz.results185,go_sem,wv,zw]) rfl ⟨rfl,HS.out _ (by repeat(first|exact Below.refl _ _|refine Below.setCell ?_ (by simp) _|refine Below.alloc ?_ (by simp) _))⟩
theorem Tw {w0 w:World}{R:List zv}{p k c n:Nat}{cs:List Value}{a:Option Addr}{x:Wt}{t:List Wt}(h:Own w0 w (ze p cs::zd 3 a c n (xf (x::t))::R))(hk:cs[k]?=some (.slice a n c))(hn:n=(x::t).length)(hnl:n≤1000000) :
  Calls Tryz.prog 185 #[.pointer (some ⟨p,k,none⟩)] w fun r w'=>r=.returned (.tuple #[wv x,.bool true])∧∃a',Own w0 w' (ze p (cs.set k (.slice a' t.length (c-1)))::zd 3 a' (c-1) t.length (xf t)::R):=by
 obtain⟨g0,f0⟩:=h.zi 0 rfl k _ hk;have hrow:=h.xl 1 rfl;obtain⟨b,off,rfl,e1,e2,e3⟩:=hrow.cells.wt 0 (by simp)
 simp only[List.getElem_cons_zero,Nat.zero_mul,Nat.add_zero] at e1 e2 e3;obtain⟨a',hsl,hrow',hbl⟩:=Xv V6 Sp hrow 1 (by rw[hn];simp)
 have hsl2:∀w,(Instr.slice 191 (.slice (some ⟨b,off,none⟩) n c) (some (.int .i64 1)) none none).run Tryz.prog w=.ok (.slice a' (n-1) (c-1)) w:=hsl
 rw[Nat.one_mul,Z6] at hrow'
 simp only[QQ,QJ] at hrow'
 have hn1:n-1=t.length:=by rw[hn];simp
 rw[hn1] at hsl2 hrow'
 have hn0:0<n:=by rw[hn];simp
 have hpl:=World.block_lt_of_cell? w _ g0
 have hbp:b<w.heap.size:=World.block_lt_of_cell? w _ e1
 have hne:∀x∈zY (some ⟨b,off,none⟩),x∉[p]:=fun x hx hc=>by
  obtain⟨_,F,⟨F1,F2,rfl,⟨rfl,_⟩,h4,F3,F4,rfl,⟨rfl,_⟩,_,_⟩,_⟩:=h;simp at hc;subst hc
  exact h4 x (by simp) (by simp[hx])
 have hs:∃a'',Own w0 (w.setCell ⟨p,k,none⟩ (.slice a' t.length (c-1))) (ze p (cs.set k (.slice a'' t.length (c-1)))::zd 3 a'' (c-1) t.length (xf t)::R):=by
  have h2:=h.setAt 0 rfl k (.slice a' t.length (c-1))
  have h3:=Own.yJ (h2.pick 1 rfl) (hrow'.yE (F:=[p]) ((zK.refl _ _).setCell _ (.inl (by simp))) (fun x hx=>hne x (by rw[←hbl];exact hx))) (zK.refl _ _) (fun x hx=>.inl (by rw[hbl] at hx;exact hx))
  exact⟨a',h3.pick 1 rfl⟩
 have hs:=fun o1 o2=>hs.imp fun a'' h=>h.step (below_alloc2 _ o1 o2)
 have HS:=Qq hs;clear h hs hrow hrow' hsl hne hbl hn hn1 hk;go_enter Tryz.func185,Tryz.ntmps185
 go_wp2;exact bodyPost_ret (v:=.tuple #[wv x,.bool true]) (by simp[results,Tryz.results185,go_sem,wv]) rfl ⟨rfl,HS.out _ _⟩
theorem NT {w0 w:World}{R:List zv}{p k c:Nat}{cs:List Value}{a:Option Addr}(h:Own w0 w (ze p cs::R))(hk:cs[k]?=some (.slice a 0 c)) :
  Calls Tryz.prog 186 #[.pointer (some ⟨p,k,none⟩)] w fun r w'=>r=.returned (.tuple #[.int .i64 0,.bool false])∧w=w':=by
 obtain⟨g0,f0⟩:=h.zi 0 rfl k _ hk;clear h hk;go_enter Tryz.func186,Tryz.ntmps186
 go_wp2;go_ret2
 exact⟨rfl,rfl⟩
theorem Tv {w0 w:World}{R:List zv}{p k c n:Nat}{cs:List Value}{a:Option Addr}{x:Int}{t:List Int}(h:Own w0 w (ze p cs::zd 1 a c n (zt (x::t))::R))(hk:cs[k]?=some (.slice a n c))(hn:n=(x::t).length)(hnl:n≤1000000) :
  Calls Tryz.prog 186 #[.pointer (some ⟨p,k,none⟩)] w fun r w'=>r=.returned (.tuple #[.int .i64 x,.bool true])∧∃a',Own w0 w' (ze p (cs.set k (.slice a' t.length (c-1)))::zd 1 a' (c-1) t.length (zt t)::R):=by
 obtain⟨g0,f0⟩:=h.zi 0 rfl k _ hk;have hrow:=h.xl 1 rfl;obtain⟨b,off,rfl,e1⟩:=hrow.cells.int 0 (by simp)
 simp only[List.getElem_cons_zero,Nat.add_zero] at e1;obtain⟨a',hsl,hrow',hbl⟩:=Xv Ks Iq hrow 1 (by rw[hn];simp)
 have hsl2:∀w,(Instr.slice 39 (.slice (some ⟨b,off,none⟩) n c) (some (.int .i64 1)) none none).run Tryz.prog w=.ok (.slice a' (n-1) (c-1)) w:=hsl
 have hcd:(zt (x::t)).drop 1=zt t:=rfl
 rw[Nat.one_mul,hcd] at hrow'
 have hn1:n-1=t.length:=by rw[hn];simp
 rw[hn1] at hsl2 hrow'
 have hn0:0<n:=by rw[hn];simp
 have hpl:=World.block_lt_of_cell? w _ g0
 have hbp:b<w.heap.size:=World.block_lt_of_cell? w _ e1
 have hne:∀x∈zY (some ⟨b,off,none⟩),x∉[p]:=fun x hx hc=>by
  obtain⟨_,F,⟨F1,F2,rfl,⟨rfl,_⟩,h4,F3,F4,rfl,⟨rfl,_⟩,_,_⟩,_⟩:=h;simp at hc;subst hc
  exact h4 x (by simp) (by simp[hx])
 have hs:∃a'',Own w0 (w.setCell ⟨p,k,none⟩ (.slice a' t.length (c-1))) (ze p (cs.set k (.slice a'' t.length (c-1)))::zd 1 a'' (c-1) t.length (zt t)::R):=by
  have h2:=h.setAt 0 rfl k (.slice a' t.length (c-1))
  have h3:=Own.yJ (h2.pick 1 rfl) (hrow'.yE (F:=[p]) ((zK.refl _ _).setCell _ (.inl (by simp))) (fun x hx=>hne x (by rw[←hbl];exact hx))) (zK.refl _ _) (fun x hx=>.inl (by rw[hbl] at hx;exact hx))
  exact⟨a',h3.pick 1 rfl⟩
 have HS:=Qq hs;clear h hs hrow hrow' hsl hne hbl hn hn1 hk hcd;go_enter Tryz.func186,Tryz.ntmps186
 go_wp2;go_ret2
 exact⟨rfl,HS.out⟩
structure Ch where
 buf:List Int
 S:List Wt
 R:List Wt
 cl:Bool
 deriving DecidableEq
def yO (N:Nat)(C:Ch)(ba:Option Addr)(bc:Nat)(sa:Option Addr)(sc:Nat)(ra:Option Addr)(rc:Nat):List Value :=
 [.int .i64 (N:Int),.slice ba C.buf.length bc,.slice sa C.S.length sc,.slice ra C.R.length rc,.bool C.cl]
def Q3 (p N:Nat)(C:Ch)(ba:Option Addr)(bc:Nat)(sa:Option Addr)(sc:Nat)(ra:Option Addr)(rc:Nat):List zv :=
 [ze p (yO N C ba bc sa sc ra rc),zd 1 ba bc C.buf.length (zt C.buf),zd 3 sa sc C.S.length (xf C.S),zd 3 ra rc C.R.length (xf C.R)]
def yv (p N:Nat)(C:Ch):zv where
 at_ w F:=∃ba bc sa sc ra rc,Sep w (Q3 p N C ba bc sa sc ra rc) F
 lt:=by rintro w F ⟨_,_,_,_,_,_,h⟩;exact h.lt
 yE:=by
  rintro w w' F G ⟨ba,bc,sa,sc,ra,rc,h⟩ c hd
  exact⟨ba,bc,sa,sc,ra,rc,h.yE c hd⟩
theorem Own.chan {w0 w:World}{p N:Nat}{C:Ch}{R:List zv}(h:Own w0 w (yv p N C::R)):∃ba bc sa sc ra rc,Own w0 w (ze p (yO N C ba bc sa sc ra rc)::zd 1 ba bc C.buf.length (zt C.buf)::zd 3 sa sc C.S.length (xf C.S)::zd 3 ra rc C.R.length (xf C.R)::R):=by
 obtain⟨As,⟨ba,bc,sa,sc,ra,rc,rfl⟩,h1⟩:=Own.unfold h (P:=fun As=>∃ba bc sa sc ra rc,As=Q3 p N C ba bc sa sc ra rc) (fun F ⟨ba,bc,sa,sc,ra,rc,h⟩=>⟨_,⟨ba,bc,sa,sc,ra,rc,rfl⟩,h⟩)
 exact⟨ba,bc,sa,sc,ra,rc,h1⟩
theorem Own.Zf {w0 w:World}{p N:Nat}{C:Ch}{R:List zv}{ba sa ra:Option Addr}{bc sc rc:Nat}(h:Own w0 w (ze p (yO N C ba bc sa sc ra rc)::zd 1 ba bc C.buf.length (zt C.buf)::zd 3 sa sc C.S.length (xf C.S)::zd 3 ra rc C.R.length (xf C.R)::R)):Own w0 w (yv p N C::R) :=
 Own.fold (As:=Q3 p N C ba bc sa sc ra rc) h (fun F hF=>⟨ba,bc,sa,sc,ra,rc,hF⟩)
def Zz (z:Int):Nat:=(min (max z 0) 16).toNat
theorem KP (z:Int):Zz z≤16:=by unfold Zz;omega
theorem Lm {w0 w:World}{As:List zv}(h:Own w0 w As)(z:Int) :
  Calls Tryz.prog 65 #[.int .i64 z] w fun r w'=>∃p,r=.returned (.pointer (some ⟨p,0,none⟩))∧Own w0 w' (yv p (Zz z) ⟨[],[],[],false⟩::As)∧Below w.heap.size w w':=by
 obtain⟨N,hN⟩:∃N,N=Zz z:=⟨_,rfl⟩
 have hm:min (max z 0) 16=(N:Int):=by rw[hN];unfold Zz;omega
 have hV:(N:Int)=0∧z<0∨(N:Int)=z∧0≤z∧z≤16∨(N:Int)=16∧16<z:=by omega
 rw[←hN];have hf:Own w0 (w.alloc (.cells #[.int .i64 (N:Int),.slice none 0 0,.slice none 0 0,.slice none 0 0,.bool false] 195)) (yv w.heap.size N ⟨[],[],[],false⟩::As)∧Below w.heap.size w (w.alloc (.cells #[.int .i64 (N:Int),.slice none 0 0,.slice none 0 0,.slice none 0 0,.bool false] 195)):=by
  have h1:=h.add (below_alloc1 w (.cells #[.int .i64 (N:Int),.slice none 0 0,.slice none 0 0,.slice none 0 0,.bool false] 195)) (A:=yv w.heap.size N ⟨[],[],[],false⟩) (F:=[w.heap.size])
   ⟨none,0,none,0,none,0,[w.heap.size],[],rfl,⟨rfl,by simp,zH.mk w (yO N ⟨[],[],[],false⟩ none 0 none 0 none 0) _ _ rfl⟩,by simp,[],[],rfl,⟨rfl,zT.nil _ _⟩,by simp,[],[],rfl,⟨rfl,zT.nil _ _⟩,by simp,[],[],rfl,⟨rfl,zT.nil _ _⟩,by simp,rfl⟩ (fun x hx=>by simp at hx;omega)
  exact⟨h1,below_alloc1 _ _⟩
 have HF:=Qq hf;clear hf h hN hm;rcases hV with⟨hV,hz⟩|⟨hV,hz,hz'⟩|⟨hV,hz⟩
 all_goals
  rw[hV] at HF;have HV:=Qq hV;clear hV
  go_enter Tryz.func65,Tryz.ntmps65
  go_wp2;go_ret;exact⟨_,rfl,HF.out⟩
theorem SJ {w0 w:World}{R:List zv}{p N:Nat}{C:Ch}(h:Own w0 w (yv p N C::R)) :
  Calls Tryz.prog 167 #[.pointer (some ⟨p,0,none⟩)] w fun r w'=>r=.returned (.bool (decide (C.buf.length<N)))∧∃m,w'=w.drewN m:=by
 obtain⟨ba,bc,sa,sc,ra,rc,h⟩:=h.chan;obtain⟨g0,-⟩:=h.zi 0 rfl 0 _ rfl;obtain⟨g1,-⟩:=h.zi 0 rfl 1 _ rfl;generalize C.buf.length=n at *;clear h;go_enter Tryz.func167,Tryz.ntmps167
 go_wp2_with fail;go_quiet (fail)
 go_wp2;go_ret;exact⟨Rg (by simp),_,rfl⟩
def mSend (N:Nat)(C:Ch)(v:Int):Ch×Wt×Bool×Int :=
 if C.cl then(C,zw,false,10) else match C.R with
  | x::t=>(⟨C.buf,C.S,t,C.cl⟩,(x.1,x.2.1,v),true,0)
  | []=>if C.buf.length<N then(⟨C.buf++[v],C.S,C.R,C.cl⟩,zw,false,0) else(C,zw,false,6)
theorem Own.GM {w0 w:World}{As:List zv}{b:Nat}{cs:List Value}(h:Own w0 w (ze b cs::As)):Own w0 w As:=h.drop
theorem OF {w0 w:World}{R:List zv}{p N:Nat}{C:Ch}(h:Own w0 w (yv p N C::R))(v:Int)(hb:C.buf.length≤100000)(hr:C.R.length≤100000) :
  Calls Tryz.prog 179 #[.pointer (some ⟨p,0,none⟩),.int .i64 v] w fun r w'=>r=.returned (.tuple #[wv (mSend N C v).2.1,.bool (mSend N C v).2.2.1,.int .i64 (mSend N C v).2.2.2])∧Own w0 w' (yv p N (mSend N C v).1::R):=by
 have h0:=h;obtain⟨ba,bc,sa,sc,ra,rc,h⟩:=h.chan;obtain⟨buf,S,Rv,cl⟩:=C;have hpl:=World.block_lt_of_cell? w _ (h.zi 0 rfl 0 _ rfl).1
 obtain⟨g4,f4⟩:=h.zi 0 rfl 4 _ rfl;simp only[yO] at h g4 hb hr;cases cl with
 | true =>
  have hs:∀w',Below w.heap.size w w'→Own w0 w' (yv p N ⟨buf,S,Rv,true⟩::R):=fun w' hb=>h0.step hb
  have HS:=Qq hs;clear h h0 hs hb hr;simp only[mSend,if_true];go_enter Tryz.func179,Tryz.ntmps179
  go_wp2;exact bodyPost_ret (v:=.tuple #[wv zw,.bool false,.int .i64 10]) (by simp[results,Tryz.results179,go_sem,wv,zw]) rfl ⟨rfl,HS.out _ (by repeat(first|exact Below.refl _ _|refine Below.setCell ?_ (by simp) _|refine Below.alloc ?_ (by simp) _))⟩
 | false =>
  have hA:=h.alloc [.int .i64 0,.int .i64 0,.int .i64 0] 270 (b:=w.heap.size) rfl
  clear h h0;cases Rv with
  | cons x t =>
   have e:mSend N ⟨buf,S,x::t,false⟩ v=(⟨buf,S,t,false⟩,(x.1,x.2.1,v),true,0):=rfl
   rw[e];have hB:=(hA.pick 4 rfl).pick 2 rfl
   have he:=Tw (k:=3) (R:=[ze w.heap.size [.int .i64 0,.int .i64 0,.int .i64 0],zd 1 ba bc buf.length (zt buf),zd 3 sa sc S.length (xf S)]++R) hB rfl rfl (by simp at hr ⊢;omega)
   have HE:=Qq he;clear he hA hB hb hr e;unfold wv at HE ⊢
   simp only
   go_enter Tryz.func179,Tryz.ntmps179
   go_wp2_with fail;refine HE.out.mono ?_
   rintro r w2 ⟨rfl,a',h2⟩;have h3:Own w0 w2 (ze p (yO N ⟨buf,S,t,false⟩ ba bc sa sc a' (rc-1))::zd 3 a' (rc-1) t.length (xf t)::ze w.heap.size [.int .i64 0,.int .i64 0,.int .i64 0]::zd 1 ba bc buf.length (zt buf)::zd 3 sa sc S.length (xf S)::R):=h2
   have hC:Own w0 w2 (ze w.heap.size [.int .i64 0,.int .i64 0,.int .i64 0]::yv p N ⟨buf,S,t,false⟩::R) :=
    (Own.Zf ((((h3.pick 1 rfl).pick 4 rfl).pick 4 rfl).pick 3 rfl)).pick 1 rfl
   obtain⟨z0,y0⟩:=hC.zi 0 rfl 0 _ rfl;obtain⟨z1,y1⟩:=hC.zi 0 rfl 1 _ rfl;obtain⟨z2,y2⟩:=hC.zi 0 rfl 2 _ rfl;have hzl:=World.block_lt_of_cell? w2 _ z0
   have HC:=Qq hC;clear h2 h3 hC HE;go_wp2;exact bodyPost_ret (v:=.tuple #[.agg #[.int .i64 x.1,.int .i64 x.2.1,.int .i64 v],.bool true,.int .i64 0]) (by simp[results,Tryz.results179,go_sem,hzl,z0,z1,z2]) rfl ⟨rfl,Own.GM (Own.step (Own.set (Own.set (Own.set HC.out 0 _) 1 _) 2 _) (below_alloc1 _ _))⟩
  | nil =>
   have e:mSend N ⟨buf,S,[],false⟩ v=if buf.length<N then(⟨buf++[v],S,[],false⟩,zw,false,0) else(⟨buf,S,[],false⟩,zw,false,6):=rfl
   rw[e];have he:=Va (k:=3) (R:=[ze w.heap.size [.int .i64 0,.int .i64 0,.int .i64 0],zd 1 ba bc buf.length (zt buf),zd 3 sa sc S.length (xf S),zd 3 ra rc 0 (xf [])]++R) (hA.pick 1 rfl) rfl
   have HE:=Qq he;clear he hA hr e;obtain⟨n,hn⟩:∃n,n=buf.length:=⟨_,rfl⟩
   rw[←hn] at HE hb ⊢;have HN:=Qq hn;clear hn;unfold wv at HE ⊢
   by_cases hlt:n<N
   case' pos=>rw[if_pos hlt];have hd:=Qq (show decide (n<N)=true by simpa using hlt)
   case' neg=>rw[if_neg hlt];have hd:=Qq (show decide (n<N)=false by simpa using hlt)
   all_goals
      have HLT:=Qq hlt;clear hlt;simp only[zw] at HE ⊢
      go_enter Tryz.func179,Tryz.ntmps179
      go_wp2_with fail;refine HE.out.mono ?_
      rintro r w2 ⟨rfl,h2,b2⟩;have h3:Own w0 w2 (ze p (yO N ⟨buf,S,[],false⟩ ba bc sa sc ra rc)::ze w.heap.size [.int .i64 0,.int .i64 0,.int .i64 0]::zd 1 ba bc buf.length (zt buf)::zd 3 sa sc S.length (xf S)::zd 3 ra rc 0 (xf [])::R):=by rw[HN.out] at h2;exact h2
      have h4:Own w0 w2 (ze w.heap.size [.int .i64 0,.int .i64 0,.int .i64 0]::yv p N ⟨buf,S,[],false⟩::R):=(Own.Zf (((((h3.pick 4 rfl).pick 4 rfl).pick 4 rfl).pick 3 rfl))).pick 1 rfl
      obtain⟨z0,y0⟩:=h3.zi 1 rfl 0 _ rfl;obtain⟨z1,y1⟩:=h3.zi 1 rfl 1 _ rfl;obtain⟨z2,y2⟩:=h3.zi 1 rfl 2 _ rfl;have hzl:=World.block_lt_of_cell? w2 _ z0
      have hg:=SJ ((h4.pick 1 rfl).step (below_alloc1 w2 (.cells #[.int .i64 0,.int .i64 0,.int .i64 0] 270)))
      simp only at hg
      rw[←HN.out] at hg;have HG:=Qq hg;have H4:=Qq h4;have H3:=Qq h3;clear h2 h3 h4 hg b2 HE;go_wp2_with fail;refine HG.out.mono ?_
      rintro r w3 ⟨rfl,m,rfl⟩;have hB3:Below w2.heap.size w2 ((w2.alloc (.cells #[.int .i64 0,.int .i64 0,.int .i64 0] 270)).drewN m):=below_drewN (below_alloc1 _ _) m
      generalize (w2.alloc (.cells #[.int .i64 0,.int .i64 0,.int .i64 0] 270)).drewN m=W3 at *
      have h3:=H3.out.step hB3;have h4:=H4.out.step hB3;obtain⟨p1,q1⟩:=h3.zi 0 rfl 1 _ rfl;rw[show(Value.slice ba (Ch.buf ⟨buf,S,[],false⟩).length bc)=Value.slice ba n bc by rw[HN.out]] at p1
      obtain⟨z0',y0'⟩:=h4.zi 0 rfl 0 _ rfl;obtain⟨z1',y1'⟩:=h4.zi 0 rfl 1 _ rfl;obtain⟨z2',y2'⟩:=h4.zi 0 rfl 2 _ rfl;have hzl':=World.block_lt_of_cell? W3 _ z0'
      have K3:=Qq h3;have K4:=Qq h4;clear h3 h4 HG z0 y0 z1 y1 z2 y2 hzl g4 f4 H3 H4 hB3;have hd1:=hd.out;rw[hd1];clear hd hd1
   ·go_wp2
    exact bodyPost_ret (v:=.tuple #[.agg #[.int .i64 0,.int .i64 0,.int .i64 0],.bool false,.int .i64 6]) (by simp[results,Tryz.results179,go_sem,hzl',z0',z1',z2']) rfl ⟨rfl,Own.GM (Own.set (Own.set (Own.set K4.out 0 _) 1 _) 2 _)⟩
   ·have hrow:=K3.out.xl 2 rfl
    rw[←HN.out] at hrow;have HR:=Qq hrow;obtain⟨i0,hi0,hz0,hz1,hz2⟩:=info_parts VE;have Hi:=Qq hi0;clear hi0
    have Hz0:=Qq hz0;clear hz0
    have Hz1:=Qq hz1;clear hz1
    have Hz2:=Qq hz2;clear hz2
    clear hrow;go_wp2_with (at_builtin;refine yk (m:=1) (ds:=zt [v]) rfl _ _ 39 rfl 2 i0 _ Tryz.underlying39 Hi.out Hz0.out Hz1.out Hz2.out rfl (by omega) (by omega) rfl rfl (HR.out.below (below_alloc1 _ _)) (zr.new _ (zt [v]) _ rfl) rfl (ZL _) (by omega) ?_)
    intro a1 c1 w4 k1 ch1 f1;have h5:=Own.yJ ((K3.out.step (below_alloc1 W3 (.cells #[.int .i64 v] 2))).pick 2 rfl) k1 ch1 (fun x hx=>by have:=f1 x hx;simpa using this)
    obtain⟨p1',q1'⟩:=h5.zi 1 rfl 1 _ rfl;have h6:Own w0 (w4.setCell ⟨p,1,none⟩ (.slice a1 (n+1) c1)) (zd 1 a1 c1 (n+1) (zt (buf++[v]))::ze p (yO N ⟨buf++[v],S,[],false⟩ a1 c1 sa sc ra rc)::ze w.heap.size [.int .i64 0,.int .i64 0,.int .i64 0]::zd 3 sa sc S.length (xf S)::zd 3 ra rc 0 (xf [])::R):=by
     have h7:=h5.setAt 1 rfl 1 (.slice a1 (n+1) c1)
     have e:n+1=(buf++[v]).length:=by rw[HN.out];simp
     rw[ZM];simp only[yO];rw[←e];exact h7
    have e:n+1=(buf++[v]).length:=by rw[HN.out];simp
    rw[e] at h6;have hC:Own w0 (w4.setCell ⟨p,1,none⟩ (.slice a1 (n+1) c1)) (ze w.heap.size [.int .i64 0,.int .i64 0,.int .i64 0]::yv p N ⟨buf++[v],S,[],false⟩::R):=by
     rw[e];exact(Own.Zf ((((h6.pick 4 rfl).pick 4 rfl).pick 2 rfl).pick 3 rfl)).pick 1 rfl
    obtain⟨z0,y0⟩:=hC.zi 0 rfl 0 _ rfl;obtain⟨z1,y1⟩:=hC.zi 0 rfl 1 _ rfl;obtain⟨z2,y2⟩:=hC.zi 0 rfl 2 _ rfl;obtain⟨u0,v0⟩:=h5.zi 2 rfl 0 _ rfl;obtain⟨u1,v1⟩:=h5.zi 2 rfl 1 _ rfl;obtain⟨u2,v2⟩:=h5.zi 2 rfl 2 _ rfl;have hpw:p≠w.heap.size:=by omega
    have hpl4:=World.block_lt_of_cell? w4 _ p1'
    have hzl4:=World.block_lt_of_cell? w4 _ u0
    have HC:=Qq hC;clear h5 h6 hC k1 ch1 f1 e z0' y0' z1' y1' z2' y2' hzl' p1 q1;go_wp2;exact bodyPost_ret (v:=.tuple #[.agg #[.int .i64 0,.int .i64 0,.int .i64 0],.bool false,.int .i64 0]) (by simp[results,Tryz.results179,go_sem,hzl4,u0,u1,u2]) rfl ⟨rfl,Own.GM (Own.set (Own.set (Own.set HC.out 0 _) 1 _) 2 _)⟩
def TH (v:Int)(some_:Bool)(x:Wt)(woken:Bool):Value:=.agg #[.int .i64 v,.bool some_,.int .i64 x.1,.int .i64 x.2.1,.int .i64 x.2.2,.bool woken]
theorem Own.V1 {w0 w w':World}{As:List zv}{s:Nat}{a a':Option Addr}{cap cap' n n':Nat}{cs cs':List Value}(c:zK (zY a) w w')(hr:zT s w' a' cap' n' cs')(hf:∀x∈zY a',x∈zY a∨w.heap.size≤x)(h:Own w0 w (zd s a cap n cs::As)) :
  Own w0 w' (zd s a' cap' n' cs'::As):=Own.yJ h hr c hf
def mRecv (C:Ch):Ch×(Int×Bool×Wt×Bool)×Int:=match C.S with
 | x::t=>(match C.buf++[x.2.2] with
  | y::b=>(⟨b,t,C.R,C.cl⟩,(y,true,x,true),0)
  | []=>(⟨[],t,C.R,C.cl⟩,(0,false,x,true),0))
 | []=>match C.buf with
  | y::b=>(⟨b,[],C.R,C.cl⟩,(y,true,zw,false),0)
  | []=>(C,(0,false,zw,false),if C.cl then 0 else 5)
theorem X8 {w0 w:World}{As:List zv}(h:Own w0 w As)(l m:List Value)(t u:TypeId):Own w0 ((w.alloc (.cells l.toArray t)).alloc (.cells m.toArray u)) (ze (w.heap.size+1) m::ze w.heap.size l::As) :=
 (h.alloc l t rfl).alloc m u (by simp)
theorem QL {w0 w:World}{R:List zv}{p N:Nat}{Rv:List Wt}{cl:Bool}(h:Own w0 w (yv p N ⟨[],[],Rv,cl⟩::R)) :
  Calls Tryz.prog 180 #[.pointer (some ⟨p,0,none⟩)] w fun r w'=>r=.returned (.tuple #[TH 0 false zw false,.int .i64 (if cl then 0 else 5)])∧Own w0 w' (yv p N ⟨[],[],Rv,cl⟩::R):=by
 obtain⟨ba,bc,sa,sc,ra,rc,h1⟩:=h.chan;have hpl:=World.block_lt_of_cell? w _ (h1.zi 0 rfl 0 _ rfl).1
 have hA:=X8 h1 [.int .i64 0,.bool false,.int .i64 0,.int .i64 0,.int .i64 0,.bool false] [.int .i64 0,.bool false,.int .i64 0,.int .i64 0,.int .i64 0,.bool false] 290 290
 have he:=Va (k:=2) (a:=sa) (c:=sc) (hA.pick 2 rfl) rfl
 have HE:=Qq he;clear hA he h h1;unfold wv at HE;simp only[zw] at HE;have hw:∀e:Int,.returned (Value.tuple #[TH 0 false zw false,.int .i64 e])=Ending.returned (.tuple #[.agg #[.int .i64 0,.bool false,.int .i64 0,.int .i64 0,.int .i64 0,.bool false],.int .i64 e]):=fun e=>rfl
 rw[hw];clear hw;go_enter Tryz.func180,Tryz.ntmps180
 go_wp2_with fail;refine HE.out.mono ?_
 rintro r w2 ⟨rfl,h2,b2⟩;have h3:Own w0 w2 (ze p (yO N ⟨[],[],Rv,cl⟩ ba bc sa sc ra rc)::ze (w.heap.size+1) [.int .i64 0,.bool false,.int .i64 0,.int .i64 0,.int .i64 0,.bool false]::ze w.heap.size [.int .i64 0,.bool false,.int .i64 0,.int .i64 0,.int .i64 0,.bool false]::zd 1 ba bc 0 (zt [])::zd 3 sa sc 0 (xf [])::zd 3 ra rc Rv.length (xf Rv)::R):=h2
 have h4:=(((h3.setAt 1 rfl 2 (.int .i64 0)).setAt 1 rfl 3 (.int .i64 0)).setAt 1 rfl 4 (.int .i64 0)).setAt 1 rfl 5 (.bool false)
 obtain⟨a2,b2'⟩:=h3.zi 1 rfl 2 _ rfl;obtain⟨a3,b3⟩:=h3.zi 1 rfl 3 _ rfl;obtain⟨a4,b4⟩:=h3.zi 1 rfl 4 _ rfl;obtain⟨a5,b5⟩:=h3.zi 1 rfl 5 _ rfl;have H4:=Qq h4;clear h2 h3 h4 b2 HE;go_wp2_with fail;refine(NT (k:=1) H4.out rfl).mono ?_
 rintro r w3 ⟨rfl,rfl⟩;generalize hW:(((w2.setCell ⟨w.heap.size+1,2,none⟩ (.int .i64 0)).setCell ⟨w.heap.size+1,3,none⟩ (.int .i64 0)).setCell ⟨w.heap.size+1,4,none⟩ (.int .i64 0)).setCell ⟨w.heap.size+1,5,none⟩ (.bool false)=W3 at *
 have h5:=H4.out;obtain⟨c0,d0⟩:=h5.zi 1 rfl 0 _ rfl;obtain⟨c1,d1⟩:=h5.zi 1 rfl 1 _ rfl;obtain⟨c2,d2⟩:=h5.zi 1 rfl 2 _ rfl;obtain⟨c3,d3⟩:=h5.zi 1 rfl 3 _ rfl;obtain⟨c4,d4⟩:=h5.zi 1 rfl 4 _ rfl;obtain⟨c5,d5⟩:=h5.zi 1 rfl 5 _ rfl;obtain⟨e0,f0⟩:=h5.zi 2 rfl 0 _ rfl;obtain⟨e1,f1⟩:=h5.zi 2 rfl 1 _ rfl;obtain⟨e2,f2⟩:=h5.zi 2 rfl 2 _ rfl;obtain⟨e3,f3⟩:=h5.zi 2 rfl 3 _ rfl;obtain⟨e4,f4⟩:=h5.zi 2 rfl 4 _ rfl;obtain⟨e5,f5⟩:=h5.zi 2 rfl 5 _ rfl;obtain⟨g4,k4⟩:=h5.zi 0 rfl 4 _ rfl;have hps:p≠w.heap.size+1:=by omega
 have hps2:p≠w.heap.size:=by omega
 have hfin:∀v0 v1 u0 u1 u2 u3 u4 u5,Own w0 ((((((((W3.setCell ⟨w.heap.size+1,0,none⟩ v0).setCell ⟨w.heap.size+1,1,none⟩ v1).setCell ⟨w.heap.size,0,none⟩ u0).setCell ⟨w.heap.size,1,none⟩ u1).setCell ⟨w.heap.size,2,none⟩ u2).setCell ⟨w.heap.size,3,none⟩ u3).setCell ⟨w.heap.size,4,none⟩ u4).setCell ⟨w.heap.size,5,none⟩ u5) (yv p N ⟨[],[],Rv,cl⟩::R):=fun v0 v1 u0 u1 u2 u3 u4 u5=>by
  have h6:=(((((((h5.setAt 1 rfl 0 v0).setAt 1 rfl 1 v1).setAt 2 rfl 0 u0).setAt 2 rfl 1 u1).setAt 2 rfl 2 u2).setAt 2 rfl 3 u3).setAt 2 rfl 4 u4).setAt 2 rfl 5 u5
  exact Own.Zf ((h6.pick 1 rfl).drop.pick 1 rfl).drop
 have HF:=Qq hfin;clear h5 hfin H4 hW a2 b2' a3 b3 a4 b4 a5 b5;cases cl
 all_goals
  simp only[yO] at g4;go_wp2
 ·exact bodyPost_ret (v:=.tuple #[.agg #[.int .i64 0,.bool false,.int .i64 0,.int .i64 0,.int .i64 0,.bool false],.int .i64 5]) (by simp[results,Tryz.results180,go_sem,e0,e1,e2,e3,e4,e5]) rfl ⟨rfl,HF.out _ _ _ _ _ _ _ _⟩
 ·exact bodyPost_ret (v:=.tuple #[.agg #[.int .i64 0,.bool false,.int .i64 0,.int .i64 0,.int .i64 0,.bool false],.int .i64 0]) (by simp[results,Tryz.results180,go_sem,e0,e1,e2,e3,e4,e5]) rfl ⟨rfl,HF.out _ _ _ _ _ _ _ _⟩
theorem Mo {w0 w:World}{R:List zv}{p N:Nat}{Rv:List Wt}{cl:Bool}{y:Int}{b:List Int}(h:Own w0 w (yv p N ⟨y::b,[],Rv,cl⟩::R))(hbl:b.length≤100000) :
  Calls Tryz.prog 180 #[.pointer (some ⟨p,0,none⟩)] w fun r w'=>r=.returned (.tuple #[TH y true zw false,.int .i64 0])∧Own w0 w' (yv p N ⟨b,[],Rv,cl⟩::R):=by
 obtain⟨ba,bc,sa,sc,ra,rc,h1⟩:=h.chan;have hpl:=World.block_lt_of_cell? w _ (h1.zi 0 rfl 0 _ rfl).1
 have hA:=X8 h1 [.int .i64 0,.bool false,.int .i64 0,.int .i64 0,.int .i64 0,.bool false] [.int .i64 0,.bool false,.int .i64 0,.int .i64 0,.int .i64 0,.bool false] 290 290
 have he:=Va (k:=2) (a:=sa) (c:=sc) (hA.pick 2 rfl) rfl
 have HE:=Qq he;clear hA he h h1;unfold wv at HE;simp only[zw] at HE;have hw:.returned (Value.tuple #[TH y true zw false,.int .i64 0])=Ending.returned (.tuple #[.agg #[.int .i64 y,.bool true,.int .i64 0,.int .i64 0,.int .i64 0,.bool false],.int .i64 0]):=rfl
 rw[hw];clear hw;go_enter Tryz.func180,Tryz.ntmps180
 go_wp2_with fail;refine HE.out.mono ?_
 rintro r w2 ⟨rfl,h2,b2⟩;have h3:Own w0 w2 (ze p (yO N ⟨y::b,[],Rv,cl⟩ ba bc sa sc ra rc)::ze (w.heap.size+1) [.int .i64 0,.bool false,.int .i64 0,.int .i64 0,.int .i64 0,.bool false]::ze w.heap.size [.int .i64 0,.bool false,.int .i64 0,.int .i64 0,.int .i64 0,.bool false]::zd 1 ba bc (y::b).length (zt (y::b))::zd 3 sa sc 0 (xf [])::zd 3 ra rc Rv.length (xf Rv)::R):=h2
 have h4:=(((h3.setAt 1 rfl 2 (.int .i64 0)).setAt 1 rfl 3 (.int .i64 0)).setAt 1 rfl 4 (.int .i64 0)).setAt 1 rfl 5 (.bool false)
 obtain⟨a2,b2'⟩:=h3.zi 1 rfl 2 _ rfl;obtain⟨a3,b3⟩:=h3.zi 1 rfl 3 _ rfl;obtain⟨a4,b4⟩:=h3.zi 1 rfl 4 _ rfl;obtain⟨a5,b5⟩:=h3.zi 1 rfl 5 _ rfl;have H4:=Qq h4;have he:=Tv (k:=1) (R:=[ze (w.heap.size+1) [.int .i64 0,.bool false,.int .i64 0,.int .i64 0,.int .i64 0,.bool false],ze w.heap.size [.int .i64 0,.bool false,.int .i64 0,.int .i64 0,.int .i64 0,.bool false],zd 3 sa sc 0 (xf []),zd 3 ra rc Rv.length (xf Rv)]++R) ((h4.pick 3 rfl).pick 1 rfl) rfl rfl (by simp;omega)
 have HE2:=Qq he;clear h2 h3 h4 b2 HE he;go_wp2_with fail;refine HE2.out.mono ?_
 rintro r W3 ⟨rfl,a',h5⟩;have h5:Own w0 W3 (ze p (yO N ⟨b,[],Rv,cl⟩ a' (bc-1) sa sc ra rc)::ze (w.heap.size+1) [.int .i64 0,.bool false,.int .i64 0,.int .i64 0,.int .i64 0,.bool false]::ze w.heap.size [.int .i64 0,.bool false,.int .i64 0,.int .i64 0,.int .i64 0,.bool false]::zd 1 a' (bc-1) b.length (zt b)::zd 3 sa sc 0 (xf [])::zd 3 ra rc Rv.length (xf Rv)::R):=(((h5.pick 1 rfl).pick 3 rfl).pick 3 rfl).pick 3 rfl
 obtain⟨c0,d0⟩:=h5.zi 1 rfl 0 _ rfl;obtain⟨c1,d1⟩:=h5.zi 1 rfl 1 _ rfl;obtain⟨c2,d2⟩:=h5.zi 1 rfl 2 _ rfl;obtain⟨c3,d3⟩:=h5.zi 1 rfl 3 _ rfl;obtain⟨c4,d4⟩:=h5.zi 1 rfl 4 _ rfl;obtain⟨c5,d5⟩:=h5.zi 1 rfl 5 _ rfl;obtain⟨e0,f0⟩:=h5.zi 2 rfl 0 _ rfl;obtain⟨e1,f1⟩:=h5.zi 2 rfl 1 _ rfl;obtain⟨e2,f2⟩:=h5.zi 2 rfl 2 _ rfl;obtain⟨e3,f3⟩:=h5.zi 2 rfl 3 _ rfl;obtain⟨e4,f4⟩:=h5.zi 2 rfl 4 _ rfl;obtain⟨e5,f5⟩:=h5.zi 2 rfl 5 _ rfl;have hps:p≠w.heap.size+1:=by omega
 have hps2:p≠w.heap.size:=by omega
 have hfin:∀v0 v1 u0 u1 u2 u3 u4 u5,Own w0 ((((((((W3.setCell ⟨w.heap.size+1,0,none⟩ v0).setCell ⟨w.heap.size+1,1,none⟩ v1).setCell ⟨w.heap.size,0,none⟩ u0).setCell ⟨w.heap.size,1,none⟩ u1).setCell ⟨w.heap.size,2,none⟩ u2).setCell ⟨w.heap.size,3,none⟩ u3).setCell ⟨w.heap.size,4,none⟩ u4).setCell ⟨w.heap.size,5,none⟩ u5) (yv p N ⟨b,[],Rv,cl⟩::R):=fun v0 v1 u0 u1 u2 u3 u4 u5=>by
  have h6:=(((((((h5.setAt 1 rfl 0 v0).setAt 1 rfl 1 v1).setAt 2 rfl 0 u0).setAt 2 rfl 1 u1).setAt 2 rfl 2 u2).setAt 2 rfl 3 u3).setAt 2 rfl 4 u4).setAt 2 rfl 5 u5
  exact Own.Zf ((h6.pick 1 rfl).drop.pick 1 rfl).drop
 have HF:=Qq hfin;clear h5 hfin H4 a2 b2' a3 b3 a4 b4 a5 b5;go_wp2;exact bodyPost_ret (v:=.tuple #[.agg #[.int .i64 y,.bool true,.int .i64 0,.int .i64 0,.int .i64 0,.bool false],.int .i64 0]) (by simp[results,Tryz.results180,go_sem,e0,e1,e2,e3,e4,e5]) rfl ⟨rfl,HF.out _ _ _ _ _ _ _ _⟩
theorem Py {w0 w:World}{R:List zv}{p N:Nat}{Rv t:List Wt}{cl:Bool}{x:Wt}{y:Int}{buf b:List Int}(h:Own w0 w (yv p N ⟨buf,x::t,Rv,cl⟩::R))(hyb:buf++[x.2.2]=y::b)(hbl:buf.length≤100000)(htl:t.length≤100000) :
  Calls Tryz.prog 180 #[.pointer (some ⟨p,0,none⟩)] w fun r w'=>r=.returned (.tuple #[TH y true x true,.int .i64 0])∧Own w0 w' (yv p N ⟨b,t,Rv,cl⟩::R):=by
 obtain⟨ba,bc,sa,sc,ra,rc,h1⟩:=h.chan;have hpl:=World.block_lt_of_cell? w _ (h1.zi 0 rfl 0 _ rfl).1
 have hA:=X8 h1 [.int .i64 0,.bool false,.int .i64 0,.int .i64 0,.int .i64 0,.bool false] [.int .i64 0,.bool false,.int .i64 0,.int .i64 0,.int .i64 0,.bool false] 290 290
 have he:=Tw (k:=2) (R:=[ze (w.heap.size+1) [.int .i64 0,.bool false,.int .i64 0,.int .i64 0,.int .i64 0,.bool false],ze w.heap.size [.int .i64 0,.bool false,.int .i64 0,.int .i64 0,.int .i64 0,.bool false],zd 1 ba bc buf.length (zt buf),zd 3 ra rc Rv.length (xf Rv)]++R) ((hA.pick 4 rfl).pick 3 rfl) rfl rfl (by simp;omega)
 have HE:=Qq he;have HYB:=Qq hyb;obtain⟨n,hn⟩:∃n,n=buf.length:=⟨_,rfl⟩
 rw[←hn] at hbl;have HN:=Qq hn;clear hA he h h1 hyb hn;unfold wv at HE;have hw:.returned (Value.tuple #[TH y true x true,.int .i64 0])=Ending.returned (.tuple #[.agg #[.int .i64 y,.bool true,.int .i64 x.1,.int .i64 x.2.1,.int .i64 x.2.2,.bool true],.int .i64 0]):=rfl
 rw[hw];clear hw;obtain⟨x1,x2,x3⟩:=x;simp only at HE HYB ⊢
 go_enter Tryz.func180,Tryz.ntmps180
 go_wp2_with fail;refine HE.out.mono ?_
 rintro r w2 ⟨rfl,sa',h2⟩;have h3:Own w0 w2 (ze p (yO N ⟨buf,t,Rv,cl⟩ ba bc sa' (sc-1) ra rc)::ze (w.heap.size+1) [.int .i64 0,.bool false,.int .i64 0,.int .i64 0,.int .i64 0,.bool false]::ze w.heap.size [.int .i64 0,.bool false,.int .i64 0,.int .i64 0,.int .i64 0,.bool false]::zd 1 ba bc buf.length (zt buf)::zd 3 sa' (sc-1) t.length (xf t)::zd 3 ra rc Rv.length (xf Rv)::R):=((((h2.pick 1 rfl).pick 4 rfl).pick 4 rfl).pick 4 rfl).pick 4 rfl
 have h4:=(((h3.setAt 1 rfl 2 (.int .i64 x1)).setAt 1 rfl 3 (.int .i64 x2)).setAt 1 rfl 4 (.int .i64 x3)).setAt 1 rfl 5 (.bool true)
 obtain⟨a2,b2'⟩:=h3.zi 1 rfl 2 _ rfl;obtain⟨a3,b3⟩:=h3.zi 1 rfl 3 _ rfl;obtain⟨a4,b4⟩:=h3.zi 1 rfl 4 _ rfl;obtain⟨a5,b5⟩:=h3.zi 1 rfl 5 _ rfl;have H4:=Qq h4;clear h2 h3 h4 HE;go_upto_region 4 with fail
 generalize hW:(((w2.setCell ⟨w.heap.size+1,2,none⟩ (.int .i64 x1)).setCell ⟨w.heap.size+1,3,none⟩ (.int .i64 x2)).setCell ⟨w.heap.size+1,4,none⟩ (.int .i64 x3)).setCell ⟨w.heap.size+1,5,none⟩ (.bool true)=W3 at *
 clear hW a2 b2' a3 b3 a4 b4 a5 b5;have h5:Own w0 W3 (ze p (yO N ⟨buf,t,Rv,cl⟩ ba bc sa' (sc-1) ra rc)::ze (w.heap.size+1) [.int .i64 0,.bool false,.int .i64 x1,.int .i64 x2,.int .i64 x3,.bool true]::ze w.heap.size [.int .i64 0,.bool false,.int .i64 0,.int .i64 0,.int .i64 0,.bool false]::zd 1 ba bc buf.length (zt buf)::zd 3 sa' (sc-1) t.length (xf t)::zd 3 ra rc Rv.length (xf Rv)::R):=H4.out
 obtain⟨p1,q1⟩:=h5.zi 0 rfl 1 _ rfl;have hbn:(Value.slice ba (Ch.buf ⟨buf,t,Rv,cl⟩).length bc)=.slice ba n bc:=by rw[HN.out]
 rw[hbn] at p1;obtain⟨s14,r14⟩:=h5.zi 1 rfl 4 _ rfl;have p1a:=fun o=>zq p1 (below_alloc1 W3 o)
 have s14a:=fun o=>zq s14 (below_alloc1 W3 o)
 have hpl3:=World.block_lt_of_cell? W3 _ p1
 have hrow:=h5.xl 3 rfl;rw[←HN.out] at hrow;have HR:=Qq hrow;have hpb:p∉zY ba:=fun hx=>by
  obtain⟨_,F,⟨F1,F2,rfl,⟨rfl,_⟩,q2,F3,F4,rfl,⟨rfl,_⟩,_,F5,F6,rfl,⟨rfl,_⟩,_,F7,F8,rfl,⟨rfl,_⟩,_⟩,_⟩:=h5;exact q2 p (by simp) (by simp[hx])
 have HPB:=Qq hpb;have H5:=Qq h5;obtain⟨i0,hi0,hz0,hz1,hz2⟩:=info_parts VE;have Hi:=Qq hi0;clear hi0
 have Hz0:=Qq hz0;clear hz0
 have Hz1:=Qq hz1;clear hz1
 have Hz2:=Qq hz2;clear hz2
 clear hrow h5 hbn hpb H4;go_wp2_with fail;go_region_law (first
  | (refine ZG (m:=1) (ds:=zt [x3]) (by rfl) _ _ 39 (by rfl) 2 i0 _ Tryz.underlying39 Hi.out Hz0.out Hz1.out Hz2.out rfl (by omega) (by omega) (by rfl) (by rfl) (HR.out.below (by repeat(first|exact Below.refl _ _|refine Below.drew ?_|refine Below.alloc ?_ (by simp) _))) (by first|exact zr.new _ (zt [x3]) _ rfl|exact(zr.new _ (zt [x3]) _ rfl).below (zg _)) rfl (ZL _) (by omega) ?_;intro a1 c1 w4 k1 ch1 f1
     have h6:=Own.V1 ch1 k1 (fun x hx=>by have:=f1 x hx;simpa using this) ((H5.out.step (by repeat(first|exact Below.refl _ _|refine Below.drew ?_|refine Below.alloc ?_ (by simp) _))).pick 3 rfl)
     obtain⟨p1',q1'⟩:=h6.zi 1 rfl 1 _ rfl))
 all_goals
  have h7:Own w0 (w4.setCell ⟨p,1,none⟩ (.slice a1 (n+1) c1)) (ze p (yO N ⟨buf++[x3],t,Rv,cl⟩ a1 c1 sa' (sc-1) ra rc)::zd 1 a1 c1 (buf++[x3]).length (zt (buf++[x3]))::ze (w.heap.size+1) [.int .i64 0,.bool false,.int .i64 x1,.int .i64 x2,.int .i64 x3,.bool true]::ze w.heap.size [.int .i64 0,.bool false,.int .i64 0,.int .i64 0,.int .i64 0,.bool false]::zd 3 sa' (sc-1) t.length (xf t)::zd 3 ra rc Rv.length (xf Rv)::R):=by
   have e:(buf++[x3]).length=n+1:=by rw[HN.out];simp
   have e2:zt (buf++[x3])=zt buf++zt [x3]:=ZM _ _
   simp only[yO];rw[e,e2];exact(h6.setAt 1 rfl 1 (.slice a1 (n+1) c1)).pick 1 rfl
  rw[HYB.out] at h7;have he:=Tv (k:=1) (R:=[ze (w.heap.size+1) [.int .i64 0,.bool false,.int .i64 x1,.int .i64 x2,.int .i64 x3,.bool true],ze w.heap.size [.int .i64 0,.bool false,.int .i64 0,.int .i64 0,.int .i64 0,.bool false],zd 3 sa' (sc-1) t.length (xf t),zd 3 ra rc Rv.length (xf Rv)]++R) h7 rfl rfl (by rw[←HYB.out];simp;have:=HN.out;omega)
  have HE2:=Qq he;have hsz:=World.block_lt_of_cell? w4 _ p1'
  clear h6 h7 he k1 ch1 f1 p1 q1 s14 r14 p1a s14a hpl3 H5;go_wp2_with fail;refine HE2.out.mono ?_
  rintro r W5 ⟨rfl,a',h5⟩;have h5:Own w0 W5 (ze p (yO N ⟨b,t,Rv,cl⟩ a' (c1-1) sa' (sc-1) ra rc)::ze (w.heap.size+1) [.int .i64 0,.bool false,.int .i64 x1,.int .i64 x2,.int .i64 x3,.bool true]::ze w.heap.size [.int .i64 0,.bool false,.int .i64 0,.int .i64 0,.int .i64 0,.bool false]::zd 1 a' (c1-1) b.length (zt b)::zd 3 sa' (sc-1) t.length (xf t)::zd 3 ra rc Rv.length (xf Rv)::R):=(((h5.pick 1 rfl).pick 3 rfl).pick 3 rfl).pick 3 rfl
  obtain⟨c0,d0⟩:=h5.zi 1 rfl 0 _ rfl;obtain⟨c1,d1⟩:=h5.zi 1 rfl 1 _ rfl;obtain⟨c2,d2⟩:=h5.zi 1 rfl 2 _ rfl;obtain⟨c3,d3⟩:=h5.zi 1 rfl 3 _ rfl;obtain⟨c4,d4⟩:=h5.zi 1 rfl 4 _ rfl;obtain⟨c5,d5⟩:=h5.zi 1 rfl 5 _ rfl;obtain⟨e0,f0⟩:=h5.zi 2 rfl 0 _ rfl;obtain⟨e1,f1⟩:=h5.zi 2 rfl 1 _ rfl;obtain⟨e2,f2⟩:=h5.zi 2 rfl 2 _ rfl;obtain⟨e3,f3⟩:=h5.zi 2 rfl 3 _ rfl;obtain⟨e4,f4⟩:=h5.zi 2 rfl 4 _ rfl;obtain⟨e5,f5⟩:=h5.zi 2 rfl 5 _ rfl;have hps:p≠w.heap.size+1:=by omega
  have hps2:p≠w.heap.size:=by omega
  have hfin:∀v0 v1 u0 u1 u2 u3 u4 u5,Own w0 ((((((((W5.setCell ⟨w.heap.size+1,0,none⟩ v0).setCell ⟨w.heap.size+1,1,none⟩ v1).setCell ⟨w.heap.size,0,none⟩ u0).setCell ⟨w.heap.size,1,none⟩ u1).setCell ⟨w.heap.size,2,none⟩ u2).setCell ⟨w.heap.size,3,none⟩ u3).setCell ⟨w.heap.size,4,none⟩ u4).setCell ⟨w.heap.size,5,none⟩ u5) (yv p N ⟨b,t,Rv,cl⟩::R):=fun v0 v1 u0 u1 u2 u3 u4 u5=>by
   have h6:=(((((((h5.setAt 1 rfl 0 v0).setAt 1 rfl 1 v1).setAt 2 rfl 0 u0).setAt 2 rfl 1 u1).setAt 2 rfl 2 u2).setAt 2 rfl 3 u3).setAt 2 rfl 4 u4).setAt 2 rfl 5 u5
   exact Own.Zf ((h6.pick 1 rfl).drop.pick 1 rfl).drop
  have HF:=Qq hfin;clear h5 hfin HE2;go_wp2;exact bodyPost_ret (v:=.tuple #[.agg #[.int .i64 y,.bool true,.int .i64 x1,.int .i64 x2,.int .i64 x3,.bool true],.int .i64 0]) (by simp[results,Tryz.results180,go_sem,e0,e1,e2,e3,e4,e5]) rfl ⟨rfl,HF.out _ _ _ _ _ _ _ _⟩
end Go.Proofs.YtlkjheheofgdgaaGreat
